/-
  The document's own clock, made.
  ClockPlays' walk.
-/
import Derived.Test.YtbeggdahbhfhpaaDoorKC
import Derived.Test.YtbeggdahbhfhpaaDoorRckI
import Derived.Test.YtbeggdahbhfhpaaDoorKB
import Derived.Deep.RegionHeld
import Derived.Deep.DeepCutAuto
namespace Go.Proofs.YtbeggdahbhfhpaaDoor
open Go.RowKit Go.Deep
set_option linter.unusedVariables false
set_option linter.unusedSimpArgs false

theorem wp_mk {o : Oper} {a : Act} {W : World} {next : Act → World → Prop} {Q : Exit → Act → World → Prop} (t : TypeId) (x y : Operand) (ho : o.op = .makeSlice t x y) (v : Value) (W' : World) (hr : (Instr.makeSlice t (a.eval x) (a.eval y)).run Tryd.prog W = .ok v W')
    (hn : next (a.put o.dst v) W') : o.wp Tryd.prog a W next Q := by
  unfold Oper.wp execOp
  simp only [ho, Sem.run_bind, hr, Result.andThen_ok, Sem.run_pure, Oper.upon]
  exact hn
theorem results_ct8 {P : Program} {fn : Func} {p q : Tmp} {ty : TypeId} (h : fn.results = #[.cell p ty, .tmp q]) (tmps : Array Value) (w : World) (g : Nat) (t : TypeId) (cs : Array Value) (fr : Nat × Nat) (d : TypeDesc)
    (hp : tmps.getD p undef = .pointer (some ⟨g, 0, none⟩)) (hg : w.heap[g]? = some (.cells cs t fr))
    (hu : P.underlying ty = some d) (hd : (match d with | .struct _ | .array _ _ => true | _ => false) = true) (hi : (P.info? ty).map (·.size) = some cs.size) :
    (results fn tmps).run P w = .ok (.tuple #[.agg cs, tmps.getD q undef]) w := by
  have hp' : tmps[p]?.getD undef = .pointer (some ⟨g, 0, none⟩) := by simpa using hp
  simp [results, h, hp', asAddr, run_loadVar_row w g t ty cs fr d hg hu hd hi]
theorem setRow_far (w : World) {g k : Nat} (cs : Array Value) (h : k ≠ g) : (w.setRow g cs).heap[k]? = w.heap[k]? := by
  show (w.heap.modify g _)[k]? = _
  rw [Array.getElem?_modify, if_neg (fun e => h e.symm)]
theorem below_row8 {B : Nat} {w W : World} {g : Nat} (h : Below B w W) (hg : B ≤ g) (cs : Array Value) : Below B w (W.setRow g cs) :=
  ⟨h.os, h.tape, h.output, by show _ ≤ (W.heap.modify g _).size; rw [Array.size_modify]; exact h.size, fun k hk => (setRow_far W cs (by omega)).trans (h.block k hk)⟩
def zeroCk : Array Value := #[.int .i64 0, .slice none 0 0, .int .i64 0, .int .i64 0, .int .i64 0, .int .i64 0, .int .i64 0, .int .i64 0, .slice none 0 0, .slice none 0 0, .slice none 0 0, .slice none 0 0, .int .i64 0, .slice none 0 0, .slice none 0 0]
/-- what the document's New answers -/
def RNewPost (c : Conf) (d : Ad) (w : World) (e : Ending) (w' : World) : Prop :=
  Below w.heap.size w w' ∧ ((checkF c ≠ 0 ∧ e = .returned (.tuple #[.agg zeroCk, .int .i64 (checkF c)])) ∨
    (checkF c = 0 ∧ ∃ rb hb, w.heap.size ≤ rb ∧ w.heap.size ≤ hb ∧ rb ≠ hb ∧ e = .returned (.tuple #[.agg (c.cells d ++ #[.int .i64 0, .slice (some ⟨rb, 0, none⟩) c.nodes.toNat c.nodes.toNat, .slice (some ⟨hb, 0, none⟩) c.nodes.toNat c.nodes.toNat]), .int .i64 0]) ∧
      w'.heap[rb]? = some (.cells (nums (List.replicate c.nodes.toNat 0)) 3 (0, 0)) ∧ w'.heap[hb]? = some (.cells (bools (List.replicate c.nodes.toNat false)) 4 (0, 0))))
theorem nodes_nat {c : Conf} (h : checkF c = 0) : ∃ N : Nat, c.nodes = N ∧ N ≤ 16 := by
  unfold checkF checkW at h
  split at h
  · cases h
  rename_i h1
  obtain ⟨n1, n2, _⟩ := Decidable.not_not.1 h1
  obtain ⟨N, hn⟩ := Int.eq_ofNat_of_zero_le (show 0 ≤ c.nodes by omega)
  exact ⟨N, hn, by omega⟩

set_option maxRecDepth 100000 in
set_option maxHeartbeats 4000000 in
theorem rnew_at (c : Conf) (d : Ad) (w : World) (hg : Glo w) (h : ConfAt w c d) (hSm : ∀ k, k < c.links.length → (c.links.getD k default).dests.length ≤ 17592186043904) : Calls Tryd.prog 23 #[c.val d] w (RNewPost c d w) := by
  have hS := CfS.first 28 hg h
  have HC := hide (fun W (H : CfS w W c d) => rcheck_any c d W H.g H.cf hSm)
  have HP : Hid (∀ e w', RNewPost c d w e w' ↔ Below w.heap.size w w' ∧ ((checkF c ≠ 0 ∧ e = .returned (.tuple #[.agg zeroCk, .int .i64 (checkF c)])) ∨
    (checkF c = 0 ∧ ∃ rb hb, w.heap.size ≤ rb ∧ w.heap.size ≤ hb ∧ rb ≠ hb ∧ e = .returned (.tuple #[.agg (c.cells d ++ #[.int .i64 0, .slice (some ⟨rb, 0, none⟩) c.nodes.toNat c.nodes.toNat, .slice (some ⟨hb, 0, none⟩) c.nodes.toNat c.nodes.toNat]), .int .i64 0]) ∧
      w'.heap[rb]? = some (.cells (nums (List.replicate c.nodes.toNat 0)) 3 (0, 0)) ∧ w'.heap[hb]? = some (.cells (bools (List.replicate c.nodes.toNat false)) 4 (0, 0))))) := fun _ _ => Iff.rfl
  have HN := hide (fun h0 : checkF c = 0 => nodes_nat h0)
  generalize RNewPost c d w = PP at HP ⊢
  generalize checkF c = f at HC HP HN
  clear hg h hSm
  obtain ⟨oA, oC, pA, pC, wA, wC, qA, qC, lA, lC⟩ := d
  obtain ⟨nodes, owners, drift, reading, margin, bound, rejoin, quota, parts, windows, ports, links⟩ := c
  unfold Conf.val at HC ⊢
  unfold Conf.cells at hS HP
  dsimp only at hS HC HP HN ⊢
  have hw1 : (w.alloc (.cells #[.int .i64 nodes, .slice oA owners.length oC, .int .i64 drift, .int .i64 reading, .int .i64 margin, .int .i64 bound, .int .i64 rejoin, .int .i64 quota, .slice pA parts.length pC, .slice wA windows.length wC, .slice qA ports.length qC, .slice lA links.length lC] 28)).heap.size = w.heap.size + 1 := by simp
  have HS2 := hide (hS.below (bal (w.alloc (.cells #[.int .i64 nodes, .slice oA owners.length oC, .int .i64 drift, .int .i64 reading, .int .i64 margin, .int .i64 bound, .int .i64 rejoin, .int .i64 quota, .slice pA parts.length pC, .slice wA windows.length wC, .slice qA ports.length qC, .slice lA links.length lC] 28)) (.cells zeroCk 78)))
  have hrr := heap_alloc_new (w.alloc (.cells #[.int .i64 nodes, .slice oA owners.length oC, .int .i64 drift, .int .i64 reading, .int .i64 margin, .int .i64 bound, .int .i64 rejoin, .int .i64 quota, .slice pA parts.length pC, .slice wA windows.length wC, .slice qA ports.length qC, .slice lA links.length lC] 28)) (.cells zeroCk 78)
  rw [hw1] at hrr
  have HR2 := hide hrr
  have hzc : zeroCk = #[.int .i64 0, .slice none 0 0, .int .i64 0, .int .i64 0, .int .i64 0, .int .i64 0, .int .i64 0, .int .i64 0, .slice none 0 0, .slice none 0 0, .slice none 0 0, .slice none 0 0, .int .i64 0, .slice none 0 0, .slice none 0 0] := rfl
  rw [hzc] at HS2 HR2
  have HZC := hide hzc
  have HX : Hid (∀ rb hb N, (#[.int .i64 (N : Nat), .slice oA owners.length oC, .int .i64 drift, .int .i64 reading, .int .i64 margin, .int .i64 bound, .int .i64 rejoin, .int .i64 quota, .slice pA parts.length pC, .slice wA windows.length wC, .slice qA ports.length qC, .slice lA links.length lC, .int .i64 0, .slice (some ⟨rb, 0, none⟩) N N, .slice (some ⟨hb, 0, none⟩) N N] : Array Value).all (·.oneCell') = true) := fun _ _ _ => by
    simp [Value.oneCell']
  have HX0 : Hid ((#[.int .i64 0, .slice none 0 0, .int .i64 0, .int .i64 0, .int .i64 0, .int .i64 0, .int .i64 0, .int .i64 0, .slice none 0 0, .slice none 0 0, .slice none 0 0, .slice none 0 0, .int .i64 0, .slice none 0 0, .slice none 0 0] : Array Value).all (·.oneCell') = true) := by
    show _ = _
    simp [Value.oneCell']
  clear hS hrr hw1 hzc
  go_enter Tryd.func23, Tryd.ntmps23
  go_upto_region 1 with fail
  generalize (w.alloc (.cells #[.int .i64 nodes, .slice oA owners.length oC, .int .i64 drift, .int .i64 reading, .int .i64 margin, .int .i64 bound, .int .i64 rejoin, .int .i64 quota, .slice pA parts.length pC, .slice wA windows.length wC, .slice qA ports.length qC, .slice lA links.length lC] 28)).alloc (.cells #[.int .i64 0, .slice none 0 0, .int .i64 0, .int .i64 0, .int .i64 0, .int .i64 0, .int .i64 0, .int .i64 0, .slice none 0 0, .slice none 0 0, .slice none 0 0, .slice none 0 0, .int .i64 0, .slice none 0 0, .slice none 0 0] 78) = w1 at HS2 HR2 ⊢
  obtain ⟨_, ⟨hl, e0, e1, e2, e3, e4, e5, e6, e7, e8, e9, e10, e11⟩, _, _⟩ := HS2.out
  dsimp only at e0 e1 e2 e3 e4 e5 e6 e7 e8 e9 e10 e11
  go_wp2_with fail
  refine (HC.out _ HS2.out).mono ?_
  rintro e w2 ⟨rfl, hb2⟩
  have HS3 := hide (HS2.out.below hb2)
  have HR3 := hide ((hb2.block _ (Array.getElem?_eq_some_iff.1 HR2.out).1).trans HR2.out)
  clear hb2 HS2 HR2 HC hl e0 e1 e2 e3 e4 e5 e6 e7 e8 e9 e10 e11
  by_cases hf : f = 0
  · subst hf
    obtain ⟨N, hN, hN16⟩ := HN.out rfl
    subst hN
    clear HN HX0
    go_upto_region 4 with fail
    have HS4 : Hid (CfS w w2.drew ⟨(N : Int), owners, drift, reading, margin, bound, rejoin, quota, parts, windows, ports, links⟩ ⟨oA, oC, pA, pC, wA, wC, qA, qC, lA, lC⟩) := HS3.out.below ⟨rfl, rfl, rfl, Nat.le_refl _, fun _ _ => rfl⟩
    have HR4 : Hid (w2.drew.heap[w.heap.size + 1]? = some (.cells #[.int .i64 0, .slice none 0 0, .int .i64 0, .int .i64 0, .int .i64 0, .int .i64 0, .int .i64 0, .int .i64 0, .slice none 0 0, .slice none 0 0, .slice none 0 0, .slice none 0 0, .int .i64 0, .slice none 0 0, .slice none 0 0] 78)) := HR3.out
    obtain ⟨_, ⟨hl, e0, e1, e2, e3, e4, e5, e6, e7, e8, e9, e10, e11⟩, _, _⟩ := HS4.out
    dsimp only at e0 e1 e2 e3 e4 e5 e6 e7 e8 e9 e10 e11
    refine wp_region_held_drew (S := fun w' => w'.cell? ⟨w.heap.size, 0, none⟩ = some (.int .i64 (N : Int)) ∧ w'.cell? ⟨w.heap.size, 1, none⟩ = some (.slice oA owners.length oC) ∧ w'.cell? ⟨w.heap.size, 2, none⟩ = some (.int .i64 drift) ∧ w'.cell? ⟨w.heap.size, 3, none⟩ = some (.int .i64 reading) ∧ w'.cell? ⟨w.heap.size, 4, none⟩ = some (.int .i64 margin) ∧ w'.cell? ⟨w.heap.size, 5, none⟩ = some (.int .i64 bound) ∧ w'.cell? ⟨w.heap.size, 6, none⟩ = some (.int .i64 rejoin) ∧ w'.cell? ⟨w.heap.size, 7, none⟩ = some (.int .i64 quota) ∧ w'.cell? ⟨w.heap.size, 8, none⟩ = some (.slice pA parts.length pC) ∧ w'.cell? ⟨w.heap.size, 9, none⟩ = some (.slice wA windows.length wC) ∧ w'.cell? ⟨w.heap.size, 10, none⟩ = some (.slice qA ports.length qC) ∧ w'.cell? ⟨w.heap.size, 11, none⟩ = some (.slice lA links.length lC)) (by kernel_rfl) ⟨e0, e1, e2, e3, e4, e5, e6, e7, e8, e9, e10, e11⟩ (fun hHeld => ?_)
    clear e0 e1 e2 e3 e4 e5 e6 e7 e8 e9 e10 e11 hl HS3 HR3
    generalize w2.drew = v4 at HS4 HR4 hHeld ⊢
    refine wpAnyH_take (i := 0) (v := ?v1) rfl (by kernel_rfl) (by kernel_rfl) (by kernel_rfl) (fun _ _ _ h => h) (Or.inl ⟨by kernel_rfl, ?y1⟩) (by assumption) ?r1
    case y1 => (intro W hSW; (try dsimp only at hSW); go_simp; (try with_reducible rfl))
    change wpAnyH _ _ _ _ _ _ _ (Act.put _ (some 11) _) _
    (try simp only [Act.put, List.setIfInBounds_toArray, List.set_cons_zero, List.set_cons_succ])
    refine wpAnyH_take (i := 1) (v := ?v2) rfl (by kernel_rfl) (by kernel_rfl) (by kernel_rfl) (fun _ _ _ h => h) (Or.inl ⟨by kernel_rfl, ?y2⟩) (by assumption) ?r2
    case y2 => (intro W hSW; (try dsimp only at hSW); go_simp; (try with_reducible rfl))
    change wpAnyH _ _ _ _ _ _ _ (Act.put _ (some 12) _) _
    (try simp only [Act.put, List.setIfInBounds_toArray, List.set_cons_zero, List.set_cons_succ])
    refine wpAnyH_take (i := 2) (v := ?v3) rfl (by kernel_rfl) (by kernel_rfl) (by kernel_rfl) (fun _ _ _ h => h) (Or.inl ⟨by kernel_rfl, ?y3⟩) (by assumption) ?r3
    case y3 => (intro W hSW; (try dsimp only at hSW); go_simp; (try with_reducible rfl))
    change wpAnyH _ _ _ _ _ _ _ (Act.put _ (some 13) _) _
    (try simp only [Act.put, List.setIfInBounds_toArray, List.set_cons_zero, List.set_cons_succ])
    refine wpAnyH_take (i := 4) (v := ?v4) rfl (by kernel_rfl) (by kernel_rfl) (by kernel_rfl) (fun _ _ _ h => h) (Or.inl ⟨by kernel_rfl, ?y4⟩) (by assumption) ?r4
    case y4 => (intro W hSW; (try dsimp only at hSW); go_simp; (try with_reducible rfl))
    change wpAnyH _ _ _ _ _ _ _ (Act.put _ (some 15) _) _
    (try simp only [Act.put, List.setIfInBounds_toArray, List.set_cons_zero, List.set_cons_succ])
    refine wpAnyH_take (i := 5) (v := ?v5) rfl (by kernel_rfl) (by kernel_rfl) (by kernel_rfl) (fun _ _ _ h => h) (Or.inl ⟨by kernel_rfl, ?y5⟩) (by assumption) ?r5
    case y5 => (intro W hSW; (try dsimp only at hSW); go_simp; (try with_reducible rfl))
    change wpAnyH _ _ _ _ _ _ _ (Act.put _ (some 16) _) _
    (try simp only [Act.put, List.setIfInBounds_toArray, List.set_cons_zero, List.set_cons_succ])
    refine wpAnyH_ready (rs := [3, 6]) (by kernel_rfl) (by simp) ?_
    refine AllReadyH.cons rfl (fun K hK => ?_) (AllReadyH.cons rfl (fun K hK => ?_) AllReadyH.nil)
    · rw [if_pos (by rfl)]
      have hmk := make_nm N (by omega) (v4)
      refine wp_mk 22 (.tmp 13) (.tmp 13) rfl _ _ hmk ?_
      have hb := bal (v4) (.cells (nums (List.replicate N 0)) 3)
      have HS5 := hide (HS4.out.below hb)
      have HR5 := hide ((hb.block _ (Array.getElem?_eq_some_iff.1 HR4.out).1).trans HR4.out)
      have HA5 := hide (heap_alloc_new (v4) (.cells (nums (List.replicate N 0)) 3))
      have HLtA := hide (show w.heap.size + 1 ≠ (v4).heap.size ∧ w.heap.size ≤ (v4).heap.size from ⟨Nat.ne_of_lt (Array.getElem?_eq_some_iff.1 HR4.out).1, HS4.out.bel.size⟩)
      clear hb
      generalize (v4).alloc (.cells (nums (List.replicate N 0)) 3) = v5 at HS5 HR5 HA5 ⊢
      obtain ⟨_, ⟨hl, e0, e1, e2, e3, e4, e5, e6, e7, e8, e9, e10, e11⟩, _, _⟩ := HS5.out
      dsimp only at e0 e1 e2 e3 e4 e5 e6 e7 e8 e9 e10 e11
      clear hmk
      refine hK.out _ _ (⟨e0, e1, e2, e3, e4, e5, e6, e7, e8, e9, e10, e11⟩) (fun hHeld => ?_)
      clear hK K
      (try change wpAnyH _ _ _ _ _ _ _ (Act.put _ (some 14) _) _)
      (try simp only [Act.put, List.setIfInBounds_toArray, List.set_cons_zero, List.set_cons_succ])
      refine wpAnyH_ready (rs := [6]) (by kernel_rfl) (by simp) ?_
      refine AllReadyH.cons rfl (fun K hK => ?_) AllReadyH.nil
      rw [if_pos (by rfl)]
      have hmk := make_bl N (by omega) (v5)
      refine wp_mk 76 (.tmp 16) (.tmp 16) rfl _ _ hmk ?_
      have hb := bal (v5) (.cells (bools (List.replicate N false)) 4)
      have HS6 := hide (HS5.out.below hb)
      have HR6 := hide ((hb.block _ (Array.getElem?_eq_some_iff.1 HR5.out).1).trans HR5.out)
      have HA6 := hide ((hb.block _ (Array.getElem?_eq_some_iff.1 HA5.out).1).trans HA5.out)
      have HB6 := hide (heap_alloc_new (v5) (.cells (bools (List.replicate N false)) 4))
      have HLtB := hide (show w.heap.size + 1 ≠ (v5).heap.size ∧ w.heap.size ≤ (v5).heap.size from ⟨Nat.ne_of_lt (Array.getElem?_eq_some_iff.1 HR5.out).1, HS5.out.bel.size⟩)
      have HNe := hide (show (v4.heap.size) ≠ (v5).heap.size from Nat.ne_of_lt (Array.getElem?_eq_some_iff.1 HA5.out).1)
      clear hb
      generalize (v5).alloc (.cells (bools (List.replicate N false)) 4) = v6 at HS6 HR6 HA6 HB6 ⊢
      obtain ⟨_, ⟨hl, e0, e1, e2, e3, e4, e5, e6, e7, e8, e9, e10, e11⟩, _, _⟩ := HS6.out
      dsimp only at e0 e1 e2 e3 e4 e5 e6 e7 e8 e9 e10 e11
      clear hmk
      refine hK.out _ _ (⟨e0, e1, e2, e3, e4, e5, e6, e7, e8, e9, e10, e11⟩) (fun hHeld => ?_)
      clear hK K
      (try change wpAnyH _ _ _ _ _ _ _ (Act.put _ (some 17) _) _)
      (try simp only [Act.put, List.setIfInBounds_toArray, List.set_cons_zero, List.set_cons_succ])
      refine wpAnyH_take (i := 7) (v := ?v6) rfl (by kernel_rfl) (by kernel_rfl) (by kernel_rfl) (fun _ _ _ h => h) (Or.inl ⟨by kernel_rfl, ?y6⟩) (by assumption) ?r6
      case y6 => (intro W hSW; (try dsimp only at hSW); go_simp; (try with_reducible rfl))
      change wpAnyH _ _ _ _ _ _ _ (Act.put _ (some 18) _) _
      (try simp only [Act.put, List.setIfInBounds_toArray, List.set_cons_zero, List.set_cons_succ])
      refine wpAnyH_ready (rs := [8]) (by kernel_rfl) (by simp) ?_
      refine AllReadyH.cons rfl (fun K hK => ?_) AllReadyH.nil
      rw [if_pos (by rfl)]
      refine wp_store_row 78 (.tmp 2) (.tmp 18) rfl _ #[.int .i64 (N : Int), .slice oA owners.length oC, .int .i64 drift, .int .i64 reading, .int .i64 margin, .int .i64 bound, .int .i64 rejoin, .int .i64 quota, .slice pA parts.length pC, .slice wA windows.length wC, .slice qA ports.length qC, .slice lA links.length lC, .int .i64 0, .slice (some ⟨v4.heap.size, 0, none⟩) N N, .slice (some ⟨v5.heap.size, 0, none⟩) N N] rfl rfl _ _ HR6.out (by kernel_rfl) rfl (HX.out _ _ _) ?_
      have HSs := hide (below_row8 HS6.out.bel (show w.heap.size ≤ w.heap.size + 1 by omega) #[.int .i64 (N : Int), .slice oA owners.length oC, .int .i64 drift, .int .i64 reading, .int .i64 margin, .int .i64 bound, .int .i64 rejoin, .int .i64 quota, .slice pA parts.length pC, .slice wA windows.length wC, .slice qA ports.length qC, .slice lA links.length lC, .int .i64 0, .slice (some ⟨v4.heap.size, 0, none⟩) N N, .slice (some ⟨v5.heap.size, 0, none⟩) N N])
      have HRs := hide (setRow_heap _ _ _ #[.int .i64 (N : Int), .slice oA owners.length oC, .int .i64 drift, .int .i64 reading, .int .i64 margin, .int .i64 bound, .int .i64 rejoin, .int .i64 quota, .slice pA parts.length pC, .slice wA windows.length wC, .slice qA ports.length qC, .slice lA links.length lC, .int .i64 0, .slice (some ⟨v4.heap.size, 0, none⟩) N N, .slice (some ⟨v5.heap.size, 0, none⟩) N N] _ _ HR6.out)
      have HAs := hide ((setRow_far (v6) #[.int .i64 (N : Int), .slice oA owners.length oC, .int .i64 drift, .int .i64 reading, .int .i64 margin, .int .i64 bound, .int .i64 rejoin, .int .i64 quota, .slice pA parts.length pC, .slice wA windows.length wC, .slice qA ports.length qC, .slice lA links.length lC, .int .i64 0, .slice (some ⟨v4.heap.size, 0, none⟩) N N, .slice (some ⟨v5.heap.size, 0, none⟩) N N] HLtA.out.1.symm).trans HA6.out)
      have HBs := hide ((setRow_far (v6) #[.int .i64 (N : Int), .slice oA owners.length oC, .int .i64 drift, .int .i64 reading, .int .i64 margin, .int .i64 bound, .int .i64 rejoin, .int .i64 quota, .slice pA parts.length pC, .slice wA windows.length wC, .slice qA ports.length qC, .slice lA links.length lC, .int .i64 0, .slice (some ⟨v4.heap.size, 0, none⟩) N N, .slice (some ⟨v5.heap.size, 0, none⟩) N N] HLtB.out.1.symm).trans HB6.out)
      have e0' := (World.cell?_of_block (w := v6) (w' := (v6).setRow (w.heap.size + 1) #[.int .i64 (N : Int), .slice oA owners.length oC, .int .i64 drift, .int .i64 reading, .int .i64 margin, .int .i64 bound, .int .i64 rejoin, .int .i64 quota, .slice pA parts.length pC, .slice wA windows.length wC, .slice qA ports.length qC, .slice lA links.length lC, .int .i64 0, .slice (some ⟨v4.heap.size, 0, none⟩) N N, .slice (some ⟨v5.heap.size, 0, none⟩) N N]) (a := ⟨w.heap.size, 0, none⟩) (setRow_far (v6) #[.int .i64 (N : Int), .slice oA owners.length oC, .int .i64 drift, .int .i64 reading, .int .i64 margin, .int .i64 bound, .int .i64 rejoin, .int .i64 quota, .slice pA parts.length pC, .slice wA windows.length wC, .slice qA ports.length qC, .slice lA links.length lC, .int .i64 0, .slice (some ⟨v4.heap.size, 0, none⟩) N N, .slice (some ⟨v5.heap.size, 0, none⟩) N N] (by show w.heap.size ≠ w.heap.size + 1; omega))).trans hHeld.1
      have e1' := (World.cell?_of_block (w := v6) (w' := (v6).setRow (w.heap.size + 1) #[.int .i64 (N : Int), .slice oA owners.length oC, .int .i64 drift, .int .i64 reading, .int .i64 margin, .int .i64 bound, .int .i64 rejoin, .int .i64 quota, .slice pA parts.length pC, .slice wA windows.length wC, .slice qA ports.length qC, .slice lA links.length lC, .int .i64 0, .slice (some ⟨v4.heap.size, 0, none⟩) N N, .slice (some ⟨v5.heap.size, 0, none⟩) N N]) (a := ⟨w.heap.size, 1, none⟩) (setRow_far (v6) #[.int .i64 (N : Int), .slice oA owners.length oC, .int .i64 drift, .int .i64 reading, .int .i64 margin, .int .i64 bound, .int .i64 rejoin, .int .i64 quota, .slice pA parts.length pC, .slice wA windows.length wC, .slice qA ports.length qC, .slice lA links.length lC, .int .i64 0, .slice (some ⟨v4.heap.size, 0, none⟩) N N, .slice (some ⟨v5.heap.size, 0, none⟩) N N] (by show w.heap.size ≠ w.heap.size + 1; omega))).trans hHeld.2.1
      have e2' := (World.cell?_of_block (w := v6) (w' := (v6).setRow (w.heap.size + 1) #[.int .i64 (N : Int), .slice oA owners.length oC, .int .i64 drift, .int .i64 reading, .int .i64 margin, .int .i64 bound, .int .i64 rejoin, .int .i64 quota, .slice pA parts.length pC, .slice wA windows.length wC, .slice qA ports.length qC, .slice lA links.length lC, .int .i64 0, .slice (some ⟨v4.heap.size, 0, none⟩) N N, .slice (some ⟨v5.heap.size, 0, none⟩) N N]) (a := ⟨w.heap.size, 2, none⟩) (setRow_far (v6) #[.int .i64 (N : Int), .slice oA owners.length oC, .int .i64 drift, .int .i64 reading, .int .i64 margin, .int .i64 bound, .int .i64 rejoin, .int .i64 quota, .slice pA parts.length pC, .slice wA windows.length wC, .slice qA ports.length qC, .slice lA links.length lC, .int .i64 0, .slice (some ⟨v4.heap.size, 0, none⟩) N N, .slice (some ⟨v5.heap.size, 0, none⟩) N N] (by show w.heap.size ≠ w.heap.size + 1; omega))).trans hHeld.2.2.1
      have e3' := (World.cell?_of_block (w := v6) (w' := (v6).setRow (w.heap.size + 1) #[.int .i64 (N : Int), .slice oA owners.length oC, .int .i64 drift, .int .i64 reading, .int .i64 margin, .int .i64 bound, .int .i64 rejoin, .int .i64 quota, .slice pA parts.length pC, .slice wA windows.length wC, .slice qA ports.length qC, .slice lA links.length lC, .int .i64 0, .slice (some ⟨v4.heap.size, 0, none⟩) N N, .slice (some ⟨v5.heap.size, 0, none⟩) N N]) (a := ⟨w.heap.size, 3, none⟩) (setRow_far (v6) #[.int .i64 (N : Int), .slice oA owners.length oC, .int .i64 drift, .int .i64 reading, .int .i64 margin, .int .i64 bound, .int .i64 rejoin, .int .i64 quota, .slice pA parts.length pC, .slice wA windows.length wC, .slice qA ports.length qC, .slice lA links.length lC, .int .i64 0, .slice (some ⟨v4.heap.size, 0, none⟩) N N, .slice (some ⟨v5.heap.size, 0, none⟩) N N] (by show w.heap.size ≠ w.heap.size + 1; omega))).trans hHeld.2.2.2.1
      have e4' := (World.cell?_of_block (w := v6) (w' := (v6).setRow (w.heap.size + 1) #[.int .i64 (N : Int), .slice oA owners.length oC, .int .i64 drift, .int .i64 reading, .int .i64 margin, .int .i64 bound, .int .i64 rejoin, .int .i64 quota, .slice pA parts.length pC, .slice wA windows.length wC, .slice qA ports.length qC, .slice lA links.length lC, .int .i64 0, .slice (some ⟨v4.heap.size, 0, none⟩) N N, .slice (some ⟨v5.heap.size, 0, none⟩) N N]) (a := ⟨w.heap.size, 4, none⟩) (setRow_far (v6) #[.int .i64 (N : Int), .slice oA owners.length oC, .int .i64 drift, .int .i64 reading, .int .i64 margin, .int .i64 bound, .int .i64 rejoin, .int .i64 quota, .slice pA parts.length pC, .slice wA windows.length wC, .slice qA ports.length qC, .slice lA links.length lC, .int .i64 0, .slice (some ⟨v4.heap.size, 0, none⟩) N N, .slice (some ⟨v5.heap.size, 0, none⟩) N N] (by show w.heap.size ≠ w.heap.size + 1; omega))).trans hHeld.2.2.2.2.1
      have e5' := (World.cell?_of_block (w := v6) (w' := (v6).setRow (w.heap.size + 1) #[.int .i64 (N : Int), .slice oA owners.length oC, .int .i64 drift, .int .i64 reading, .int .i64 margin, .int .i64 bound, .int .i64 rejoin, .int .i64 quota, .slice pA parts.length pC, .slice wA windows.length wC, .slice qA ports.length qC, .slice lA links.length lC, .int .i64 0, .slice (some ⟨v4.heap.size, 0, none⟩) N N, .slice (some ⟨v5.heap.size, 0, none⟩) N N]) (a := ⟨w.heap.size, 5, none⟩) (setRow_far (v6) #[.int .i64 (N : Int), .slice oA owners.length oC, .int .i64 drift, .int .i64 reading, .int .i64 margin, .int .i64 bound, .int .i64 rejoin, .int .i64 quota, .slice pA parts.length pC, .slice wA windows.length wC, .slice qA ports.length qC, .slice lA links.length lC, .int .i64 0, .slice (some ⟨v4.heap.size, 0, none⟩) N N, .slice (some ⟨v5.heap.size, 0, none⟩) N N] (by show w.heap.size ≠ w.heap.size + 1; omega))).trans hHeld.2.2.2.2.2.1
      have e6' := (World.cell?_of_block (w := v6) (w' := (v6).setRow (w.heap.size + 1) #[.int .i64 (N : Int), .slice oA owners.length oC, .int .i64 drift, .int .i64 reading, .int .i64 margin, .int .i64 bound, .int .i64 rejoin, .int .i64 quota, .slice pA parts.length pC, .slice wA windows.length wC, .slice qA ports.length qC, .slice lA links.length lC, .int .i64 0, .slice (some ⟨v4.heap.size, 0, none⟩) N N, .slice (some ⟨v5.heap.size, 0, none⟩) N N]) (a := ⟨w.heap.size, 6, none⟩) (setRow_far (v6) #[.int .i64 (N : Int), .slice oA owners.length oC, .int .i64 drift, .int .i64 reading, .int .i64 margin, .int .i64 bound, .int .i64 rejoin, .int .i64 quota, .slice pA parts.length pC, .slice wA windows.length wC, .slice qA ports.length qC, .slice lA links.length lC, .int .i64 0, .slice (some ⟨v4.heap.size, 0, none⟩) N N, .slice (some ⟨v5.heap.size, 0, none⟩) N N] (by show w.heap.size ≠ w.heap.size + 1; omega))).trans hHeld.2.2.2.2.2.2.1
      have e7' := (World.cell?_of_block (w := v6) (w' := (v6).setRow (w.heap.size + 1) #[.int .i64 (N : Int), .slice oA owners.length oC, .int .i64 drift, .int .i64 reading, .int .i64 margin, .int .i64 bound, .int .i64 rejoin, .int .i64 quota, .slice pA parts.length pC, .slice wA windows.length wC, .slice qA ports.length qC, .slice lA links.length lC, .int .i64 0, .slice (some ⟨v4.heap.size, 0, none⟩) N N, .slice (some ⟨v5.heap.size, 0, none⟩) N N]) (a := ⟨w.heap.size, 7, none⟩) (setRow_far (v6) #[.int .i64 (N : Int), .slice oA owners.length oC, .int .i64 drift, .int .i64 reading, .int .i64 margin, .int .i64 bound, .int .i64 rejoin, .int .i64 quota, .slice pA parts.length pC, .slice wA windows.length wC, .slice qA ports.length qC, .slice lA links.length lC, .int .i64 0, .slice (some ⟨v4.heap.size, 0, none⟩) N N, .slice (some ⟨v5.heap.size, 0, none⟩) N N] (by show w.heap.size ≠ w.heap.size + 1; omega))).trans hHeld.2.2.2.2.2.2.2.1
      have e8' := (World.cell?_of_block (w := v6) (w' := (v6).setRow (w.heap.size + 1) #[.int .i64 (N : Int), .slice oA owners.length oC, .int .i64 drift, .int .i64 reading, .int .i64 margin, .int .i64 bound, .int .i64 rejoin, .int .i64 quota, .slice pA parts.length pC, .slice wA windows.length wC, .slice qA ports.length qC, .slice lA links.length lC, .int .i64 0, .slice (some ⟨v4.heap.size, 0, none⟩) N N, .slice (some ⟨v5.heap.size, 0, none⟩) N N]) (a := ⟨w.heap.size, 8, none⟩) (setRow_far (v6) #[.int .i64 (N : Int), .slice oA owners.length oC, .int .i64 drift, .int .i64 reading, .int .i64 margin, .int .i64 bound, .int .i64 rejoin, .int .i64 quota, .slice pA parts.length pC, .slice wA windows.length wC, .slice qA ports.length qC, .slice lA links.length lC, .int .i64 0, .slice (some ⟨v4.heap.size, 0, none⟩) N N, .slice (some ⟨v5.heap.size, 0, none⟩) N N] (by show w.heap.size ≠ w.heap.size + 1; omega))).trans hHeld.2.2.2.2.2.2.2.2.1
      have e9' := (World.cell?_of_block (w := v6) (w' := (v6).setRow (w.heap.size + 1) #[.int .i64 (N : Int), .slice oA owners.length oC, .int .i64 drift, .int .i64 reading, .int .i64 margin, .int .i64 bound, .int .i64 rejoin, .int .i64 quota, .slice pA parts.length pC, .slice wA windows.length wC, .slice qA ports.length qC, .slice lA links.length lC, .int .i64 0, .slice (some ⟨v4.heap.size, 0, none⟩) N N, .slice (some ⟨v5.heap.size, 0, none⟩) N N]) (a := ⟨w.heap.size, 9, none⟩) (setRow_far (v6) #[.int .i64 (N : Int), .slice oA owners.length oC, .int .i64 drift, .int .i64 reading, .int .i64 margin, .int .i64 bound, .int .i64 rejoin, .int .i64 quota, .slice pA parts.length pC, .slice wA windows.length wC, .slice qA ports.length qC, .slice lA links.length lC, .int .i64 0, .slice (some ⟨v4.heap.size, 0, none⟩) N N, .slice (some ⟨v5.heap.size, 0, none⟩) N N] (by show w.heap.size ≠ w.heap.size + 1; omega))).trans hHeld.2.2.2.2.2.2.2.2.2.1
      have e10' := (World.cell?_of_block (w := v6) (w' := (v6).setRow (w.heap.size + 1) #[.int .i64 (N : Int), .slice oA owners.length oC, .int .i64 drift, .int .i64 reading, .int .i64 margin, .int .i64 bound, .int .i64 rejoin, .int .i64 quota, .slice pA parts.length pC, .slice wA windows.length wC, .slice qA ports.length qC, .slice lA links.length lC, .int .i64 0, .slice (some ⟨v4.heap.size, 0, none⟩) N N, .slice (some ⟨v5.heap.size, 0, none⟩) N N]) (a := ⟨w.heap.size, 10, none⟩) (setRow_far (v6) #[.int .i64 (N : Int), .slice oA owners.length oC, .int .i64 drift, .int .i64 reading, .int .i64 margin, .int .i64 bound, .int .i64 rejoin, .int .i64 quota, .slice pA parts.length pC, .slice wA windows.length wC, .slice qA ports.length qC, .slice lA links.length lC, .int .i64 0, .slice (some ⟨v4.heap.size, 0, none⟩) N N, .slice (some ⟨v5.heap.size, 0, none⟩) N N] (by show w.heap.size ≠ w.heap.size + 1; omega))).trans hHeld.2.2.2.2.2.2.2.2.2.2.1
      have e11' := (World.cell?_of_block (w := v6) (w' := (v6).setRow (w.heap.size + 1) #[.int .i64 (N : Int), .slice oA owners.length oC, .int .i64 drift, .int .i64 reading, .int .i64 margin, .int .i64 bound, .int .i64 rejoin, .int .i64 quota, .slice pA parts.length pC, .slice wA windows.length wC, .slice qA ports.length qC, .slice lA links.length lC, .int .i64 0, .slice (some ⟨v4.heap.size, 0, none⟩) N N, .slice (some ⟨v5.heap.size, 0, none⟩) N N]) (a := ⟨w.heap.size, 11, none⟩) (setRow_far (v6) #[.int .i64 (N : Int), .slice oA owners.length oC, .int .i64 drift, .int .i64 reading, .int .i64 margin, .int .i64 bound, .int .i64 rejoin, .int .i64 quota, .slice pA parts.length pC, .slice wA windows.length wC, .slice qA ports.length qC, .slice lA links.length lC, .int .i64 0, .slice (some ⟨v4.heap.size, 0, none⟩) N N, .slice (some ⟨v5.heap.size, 0, none⟩) N N] (by show w.heap.size ≠ w.heap.size + 1; omega))).trans hHeld.2.2.2.2.2.2.2.2.2.2.2
      refine hK.out _ _ (⟨e0', e1', e2', e3', e4', e5', e6', e7', e8', e9', e10', e11'⟩) (fun hHeld => ?_)
      clear hK K
      (try change wpAnyH _ _ _ _ _ _ _ (Act.put _ (none) _) _)
      (try simp only [Act.put, List.setIfInBounds_toArray, List.set_cons_zero, List.set_cons_succ])
      refine wpAnyH_take (i := 9) (v := ?v7) rfl (by kernel_rfl) (by kernel_rfl) (by kernel_rfl) (fun _ _ _ h => h) (Or.inl ⟨by kernel_rfl, ?y7⟩) (by assumption) ?r7
      case y7 => (intro W hSW; (try dsimp only at hSW); go_simp; (try with_reducible rfl))
      change wpAnyH _ _ _ _ _ _ _ (Act.put _ (some 3) _) _
      (try simp only [Act.put, List.setIfInBounds_toArray, List.set_cons_zero, List.set_cons_succ])
      refine wpAnyH_done (by kernel_rfl) ?_ _
      go_wp2_with fail
      exact bodyPost_ret (results_ct8 (fn := Tryd.f23) rfl _ _ (w.heap.size + 1) _ _ (0, 0) _ rfl HRs.out Tryd.underlying78 rfl (by kernel_rfl)) rfl ((HP.out _ _).2 ⟨HSs.out, .inr ⟨by first | trivial | rfl, v4.heap.size, v5.heap.size, HLtA.out.2, HLtB.out.2, HNe.out, rfl, HAs.out, HBs.out⟩⟩)
    · rw [if_pos (by rfl)]
      have hmk := make_bl N (by omega) (v4)
      refine wp_mk 76 (.tmp 16) (.tmp 16) rfl _ _ hmk ?_
      have hb := bal (v4) (.cells (bools (List.replicate N false)) 4)
      have HS5 := hide (HS4.out.below hb)
      have HR5 := hide ((hb.block _ (Array.getElem?_eq_some_iff.1 HR4.out).1).trans HR4.out)
      have HB5 := hide (heap_alloc_new (v4) (.cells (bools (List.replicate N false)) 4))
      have HLtB := hide (show w.heap.size + 1 ≠ (v4).heap.size ∧ w.heap.size ≤ (v4).heap.size from ⟨Nat.ne_of_lt (Array.getElem?_eq_some_iff.1 HR4.out).1, HS4.out.bel.size⟩)
      clear hb
      generalize (v4).alloc (.cells (bools (List.replicate N false)) 4) = v5 at HS5 HR5 HB5 ⊢
      obtain ⟨_, ⟨hl, e0, e1, e2, e3, e4, e5, e6, e7, e8, e9, e10, e11⟩, _, _⟩ := HS5.out
      dsimp only at e0 e1 e2 e3 e4 e5 e6 e7 e8 e9 e10 e11
      clear hmk
      refine hK.out _ _ (⟨e0, e1, e2, e3, e4, e5, e6, e7, e8, e9, e10, e11⟩) (fun hHeld => ?_)
      clear hK K
      (try change wpAnyH _ _ _ _ _ _ _ (Act.put _ (some 17) _) _)
      (try simp only [Act.put, List.setIfInBounds_toArray, List.set_cons_zero, List.set_cons_succ])
      refine wpAnyH_ready (rs := [3]) (by kernel_rfl) (by simp) ?_
      refine AllReadyH.cons rfl (fun K hK => ?_) AllReadyH.nil
      rw [if_pos (by rfl)]
      have hmk := make_nm N (by omega) (v5)
      refine wp_mk 22 (.tmp 13) (.tmp 13) rfl _ _ hmk ?_
      have hb := bal (v5) (.cells (nums (List.replicate N 0)) 3)
      have HS6 := hide (HS5.out.below hb)
      have HR6 := hide ((hb.block _ (Array.getElem?_eq_some_iff.1 HR5.out).1).trans HR5.out)
      have HB6 := hide ((hb.block _ (Array.getElem?_eq_some_iff.1 HB5.out).1).trans HB5.out)
      have HA6 := hide (heap_alloc_new (v5) (.cells (nums (List.replicate N 0)) 3))
      have HLtA := hide (show w.heap.size + 1 ≠ (v5).heap.size ∧ w.heap.size ≤ (v5).heap.size from ⟨Nat.ne_of_lt (Array.getElem?_eq_some_iff.1 HR5.out).1, HS5.out.bel.size⟩)
      have HNe := hide (show (v4.heap.size) ≠ (v5).heap.size from Nat.ne_of_lt (Array.getElem?_eq_some_iff.1 HB5.out).1)
      clear hb
      generalize (v5).alloc (.cells (nums (List.replicate N 0)) 3) = v6 at HS6 HR6 HA6 HB6 ⊢
      obtain ⟨_, ⟨hl, e0, e1, e2, e3, e4, e5, e6, e7, e8, e9, e10, e11⟩, _, _⟩ := HS6.out
      dsimp only at e0 e1 e2 e3 e4 e5 e6 e7 e8 e9 e10 e11
      clear hmk
      refine hK.out _ _ (⟨e0, e1, e2, e3, e4, e5, e6, e7, e8, e9, e10, e11⟩) (fun hHeld => ?_)
      clear hK K
      (try change wpAnyH _ _ _ _ _ _ _ (Act.put _ (some 14) _) _)
      (try simp only [Act.put, List.setIfInBounds_toArray, List.set_cons_zero, List.set_cons_succ])
      refine wpAnyH_take (i := 7) (v := ?v8) rfl (by kernel_rfl) (by kernel_rfl) (by kernel_rfl) (fun _ _ _ h => h) (Or.inl ⟨by kernel_rfl, ?y8⟩) (by assumption) ?r8
      case y8 => (intro W hSW; (try dsimp only at hSW); go_simp; (try with_reducible rfl))
      change wpAnyH _ _ _ _ _ _ _ (Act.put _ (some 18) _) _
      (try simp only [Act.put, List.setIfInBounds_toArray, List.set_cons_zero, List.set_cons_succ])
      refine wpAnyH_ready (rs := [8]) (by kernel_rfl) (by simp) ?_
      refine AllReadyH.cons rfl (fun K hK => ?_) AllReadyH.nil
      rw [if_pos (by rfl)]
      refine wp_store_row 78 (.tmp 2) (.tmp 18) rfl _ #[.int .i64 (N : Int), .slice oA owners.length oC, .int .i64 drift, .int .i64 reading, .int .i64 margin, .int .i64 bound, .int .i64 rejoin, .int .i64 quota, .slice pA parts.length pC, .slice wA windows.length wC, .slice qA ports.length qC, .slice lA links.length lC, .int .i64 0, .slice (some ⟨v5.heap.size, 0, none⟩) N N, .slice (some ⟨v4.heap.size, 0, none⟩) N N] rfl rfl _ _ HR6.out (by kernel_rfl) rfl (HX.out _ _ _) ?_
      have HSs := hide (below_row8 HS6.out.bel (show w.heap.size ≤ w.heap.size + 1 by omega) #[.int .i64 (N : Int), .slice oA owners.length oC, .int .i64 drift, .int .i64 reading, .int .i64 margin, .int .i64 bound, .int .i64 rejoin, .int .i64 quota, .slice pA parts.length pC, .slice wA windows.length wC, .slice qA ports.length qC, .slice lA links.length lC, .int .i64 0, .slice (some ⟨v5.heap.size, 0, none⟩) N N, .slice (some ⟨v4.heap.size, 0, none⟩) N N])
      have HRs := hide (setRow_heap _ _ _ #[.int .i64 (N : Int), .slice oA owners.length oC, .int .i64 drift, .int .i64 reading, .int .i64 margin, .int .i64 bound, .int .i64 rejoin, .int .i64 quota, .slice pA parts.length pC, .slice wA windows.length wC, .slice qA ports.length qC, .slice lA links.length lC, .int .i64 0, .slice (some ⟨v5.heap.size, 0, none⟩) N N, .slice (some ⟨v4.heap.size, 0, none⟩) N N] _ _ HR6.out)
      have HAs := hide ((setRow_far (v6) #[.int .i64 (N : Int), .slice oA owners.length oC, .int .i64 drift, .int .i64 reading, .int .i64 margin, .int .i64 bound, .int .i64 rejoin, .int .i64 quota, .slice pA parts.length pC, .slice wA windows.length wC, .slice qA ports.length qC, .slice lA links.length lC, .int .i64 0, .slice (some ⟨v5.heap.size, 0, none⟩) N N, .slice (some ⟨v4.heap.size, 0, none⟩) N N] HLtA.out.1.symm).trans HA6.out)
      have HBs := hide ((setRow_far (v6) #[.int .i64 (N : Int), .slice oA owners.length oC, .int .i64 drift, .int .i64 reading, .int .i64 margin, .int .i64 bound, .int .i64 rejoin, .int .i64 quota, .slice pA parts.length pC, .slice wA windows.length wC, .slice qA ports.length qC, .slice lA links.length lC, .int .i64 0, .slice (some ⟨v5.heap.size, 0, none⟩) N N, .slice (some ⟨v4.heap.size, 0, none⟩) N N] HLtB.out.1.symm).trans HB6.out)
      have e0' := (World.cell?_of_block (w := v6) (w' := (v6).setRow (w.heap.size + 1) #[.int .i64 (N : Int), .slice oA owners.length oC, .int .i64 drift, .int .i64 reading, .int .i64 margin, .int .i64 bound, .int .i64 rejoin, .int .i64 quota, .slice pA parts.length pC, .slice wA windows.length wC, .slice qA ports.length qC, .slice lA links.length lC, .int .i64 0, .slice (some ⟨v5.heap.size, 0, none⟩) N N, .slice (some ⟨v4.heap.size, 0, none⟩) N N]) (a := ⟨w.heap.size, 0, none⟩) (setRow_far (v6) #[.int .i64 (N : Int), .slice oA owners.length oC, .int .i64 drift, .int .i64 reading, .int .i64 margin, .int .i64 bound, .int .i64 rejoin, .int .i64 quota, .slice pA parts.length pC, .slice wA windows.length wC, .slice qA ports.length qC, .slice lA links.length lC, .int .i64 0, .slice (some ⟨v5.heap.size, 0, none⟩) N N, .slice (some ⟨v4.heap.size, 0, none⟩) N N] (by show w.heap.size ≠ w.heap.size + 1; omega))).trans hHeld.1
      have e1' := (World.cell?_of_block (w := v6) (w' := (v6).setRow (w.heap.size + 1) #[.int .i64 (N : Int), .slice oA owners.length oC, .int .i64 drift, .int .i64 reading, .int .i64 margin, .int .i64 bound, .int .i64 rejoin, .int .i64 quota, .slice pA parts.length pC, .slice wA windows.length wC, .slice qA ports.length qC, .slice lA links.length lC, .int .i64 0, .slice (some ⟨v5.heap.size, 0, none⟩) N N, .slice (some ⟨v4.heap.size, 0, none⟩) N N]) (a := ⟨w.heap.size, 1, none⟩) (setRow_far (v6) #[.int .i64 (N : Int), .slice oA owners.length oC, .int .i64 drift, .int .i64 reading, .int .i64 margin, .int .i64 bound, .int .i64 rejoin, .int .i64 quota, .slice pA parts.length pC, .slice wA windows.length wC, .slice qA ports.length qC, .slice lA links.length lC, .int .i64 0, .slice (some ⟨v5.heap.size, 0, none⟩) N N, .slice (some ⟨v4.heap.size, 0, none⟩) N N] (by show w.heap.size ≠ w.heap.size + 1; omega))).trans hHeld.2.1
      have e2' := (World.cell?_of_block (w := v6) (w' := (v6).setRow (w.heap.size + 1) #[.int .i64 (N : Int), .slice oA owners.length oC, .int .i64 drift, .int .i64 reading, .int .i64 margin, .int .i64 bound, .int .i64 rejoin, .int .i64 quota, .slice pA parts.length pC, .slice wA windows.length wC, .slice qA ports.length qC, .slice lA links.length lC, .int .i64 0, .slice (some ⟨v5.heap.size, 0, none⟩) N N, .slice (some ⟨v4.heap.size, 0, none⟩) N N]) (a := ⟨w.heap.size, 2, none⟩) (setRow_far (v6) #[.int .i64 (N : Int), .slice oA owners.length oC, .int .i64 drift, .int .i64 reading, .int .i64 margin, .int .i64 bound, .int .i64 rejoin, .int .i64 quota, .slice pA parts.length pC, .slice wA windows.length wC, .slice qA ports.length qC, .slice lA links.length lC, .int .i64 0, .slice (some ⟨v5.heap.size, 0, none⟩) N N, .slice (some ⟨v4.heap.size, 0, none⟩) N N] (by show w.heap.size ≠ w.heap.size + 1; omega))).trans hHeld.2.2.1
      have e3' := (World.cell?_of_block (w := v6) (w' := (v6).setRow (w.heap.size + 1) #[.int .i64 (N : Int), .slice oA owners.length oC, .int .i64 drift, .int .i64 reading, .int .i64 margin, .int .i64 bound, .int .i64 rejoin, .int .i64 quota, .slice pA parts.length pC, .slice wA windows.length wC, .slice qA ports.length qC, .slice lA links.length lC, .int .i64 0, .slice (some ⟨v5.heap.size, 0, none⟩) N N, .slice (some ⟨v4.heap.size, 0, none⟩) N N]) (a := ⟨w.heap.size, 3, none⟩) (setRow_far (v6) #[.int .i64 (N : Int), .slice oA owners.length oC, .int .i64 drift, .int .i64 reading, .int .i64 margin, .int .i64 bound, .int .i64 rejoin, .int .i64 quota, .slice pA parts.length pC, .slice wA windows.length wC, .slice qA ports.length qC, .slice lA links.length lC, .int .i64 0, .slice (some ⟨v5.heap.size, 0, none⟩) N N, .slice (some ⟨v4.heap.size, 0, none⟩) N N] (by show w.heap.size ≠ w.heap.size + 1; omega))).trans hHeld.2.2.2.1
      have e4' := (World.cell?_of_block (w := v6) (w' := (v6).setRow (w.heap.size + 1) #[.int .i64 (N : Int), .slice oA owners.length oC, .int .i64 drift, .int .i64 reading, .int .i64 margin, .int .i64 bound, .int .i64 rejoin, .int .i64 quota, .slice pA parts.length pC, .slice wA windows.length wC, .slice qA ports.length qC, .slice lA links.length lC, .int .i64 0, .slice (some ⟨v5.heap.size, 0, none⟩) N N, .slice (some ⟨v4.heap.size, 0, none⟩) N N]) (a := ⟨w.heap.size, 4, none⟩) (setRow_far (v6) #[.int .i64 (N : Int), .slice oA owners.length oC, .int .i64 drift, .int .i64 reading, .int .i64 margin, .int .i64 bound, .int .i64 rejoin, .int .i64 quota, .slice pA parts.length pC, .slice wA windows.length wC, .slice qA ports.length qC, .slice lA links.length lC, .int .i64 0, .slice (some ⟨v5.heap.size, 0, none⟩) N N, .slice (some ⟨v4.heap.size, 0, none⟩) N N] (by show w.heap.size ≠ w.heap.size + 1; omega))).trans hHeld.2.2.2.2.1
      have e5' := (World.cell?_of_block (w := v6) (w' := (v6).setRow (w.heap.size + 1) #[.int .i64 (N : Int), .slice oA owners.length oC, .int .i64 drift, .int .i64 reading, .int .i64 margin, .int .i64 bound, .int .i64 rejoin, .int .i64 quota, .slice pA parts.length pC, .slice wA windows.length wC, .slice qA ports.length qC, .slice lA links.length lC, .int .i64 0, .slice (some ⟨v5.heap.size, 0, none⟩) N N, .slice (some ⟨v4.heap.size, 0, none⟩) N N]) (a := ⟨w.heap.size, 5, none⟩) (setRow_far (v6) #[.int .i64 (N : Int), .slice oA owners.length oC, .int .i64 drift, .int .i64 reading, .int .i64 margin, .int .i64 bound, .int .i64 rejoin, .int .i64 quota, .slice pA parts.length pC, .slice wA windows.length wC, .slice qA ports.length qC, .slice lA links.length lC, .int .i64 0, .slice (some ⟨v5.heap.size, 0, none⟩) N N, .slice (some ⟨v4.heap.size, 0, none⟩) N N] (by show w.heap.size ≠ w.heap.size + 1; omega))).trans hHeld.2.2.2.2.2.1
      have e6' := (World.cell?_of_block (w := v6) (w' := (v6).setRow (w.heap.size + 1) #[.int .i64 (N : Int), .slice oA owners.length oC, .int .i64 drift, .int .i64 reading, .int .i64 margin, .int .i64 bound, .int .i64 rejoin, .int .i64 quota, .slice pA parts.length pC, .slice wA windows.length wC, .slice qA ports.length qC, .slice lA links.length lC, .int .i64 0, .slice (some ⟨v5.heap.size, 0, none⟩) N N, .slice (some ⟨v4.heap.size, 0, none⟩) N N]) (a := ⟨w.heap.size, 6, none⟩) (setRow_far (v6) #[.int .i64 (N : Int), .slice oA owners.length oC, .int .i64 drift, .int .i64 reading, .int .i64 margin, .int .i64 bound, .int .i64 rejoin, .int .i64 quota, .slice pA parts.length pC, .slice wA windows.length wC, .slice qA ports.length qC, .slice lA links.length lC, .int .i64 0, .slice (some ⟨v5.heap.size, 0, none⟩) N N, .slice (some ⟨v4.heap.size, 0, none⟩) N N] (by show w.heap.size ≠ w.heap.size + 1; omega))).trans hHeld.2.2.2.2.2.2.1
      have e7' := (World.cell?_of_block (w := v6) (w' := (v6).setRow (w.heap.size + 1) #[.int .i64 (N : Int), .slice oA owners.length oC, .int .i64 drift, .int .i64 reading, .int .i64 margin, .int .i64 bound, .int .i64 rejoin, .int .i64 quota, .slice pA parts.length pC, .slice wA windows.length wC, .slice qA ports.length qC, .slice lA links.length lC, .int .i64 0, .slice (some ⟨v5.heap.size, 0, none⟩) N N, .slice (some ⟨v4.heap.size, 0, none⟩) N N]) (a := ⟨w.heap.size, 7, none⟩) (setRow_far (v6) #[.int .i64 (N : Int), .slice oA owners.length oC, .int .i64 drift, .int .i64 reading, .int .i64 margin, .int .i64 bound, .int .i64 rejoin, .int .i64 quota, .slice pA parts.length pC, .slice wA windows.length wC, .slice qA ports.length qC, .slice lA links.length lC, .int .i64 0, .slice (some ⟨v5.heap.size, 0, none⟩) N N, .slice (some ⟨v4.heap.size, 0, none⟩) N N] (by show w.heap.size ≠ w.heap.size + 1; omega))).trans hHeld.2.2.2.2.2.2.2.1
      have e8' := (World.cell?_of_block (w := v6) (w' := (v6).setRow (w.heap.size + 1) #[.int .i64 (N : Int), .slice oA owners.length oC, .int .i64 drift, .int .i64 reading, .int .i64 margin, .int .i64 bound, .int .i64 rejoin, .int .i64 quota, .slice pA parts.length pC, .slice wA windows.length wC, .slice qA ports.length qC, .slice lA links.length lC, .int .i64 0, .slice (some ⟨v5.heap.size, 0, none⟩) N N, .slice (some ⟨v4.heap.size, 0, none⟩) N N]) (a := ⟨w.heap.size, 8, none⟩) (setRow_far (v6) #[.int .i64 (N : Int), .slice oA owners.length oC, .int .i64 drift, .int .i64 reading, .int .i64 margin, .int .i64 bound, .int .i64 rejoin, .int .i64 quota, .slice pA parts.length pC, .slice wA windows.length wC, .slice qA ports.length qC, .slice lA links.length lC, .int .i64 0, .slice (some ⟨v5.heap.size, 0, none⟩) N N, .slice (some ⟨v4.heap.size, 0, none⟩) N N] (by show w.heap.size ≠ w.heap.size + 1; omega))).trans hHeld.2.2.2.2.2.2.2.2.1
      have e9' := (World.cell?_of_block (w := v6) (w' := (v6).setRow (w.heap.size + 1) #[.int .i64 (N : Int), .slice oA owners.length oC, .int .i64 drift, .int .i64 reading, .int .i64 margin, .int .i64 bound, .int .i64 rejoin, .int .i64 quota, .slice pA parts.length pC, .slice wA windows.length wC, .slice qA ports.length qC, .slice lA links.length lC, .int .i64 0, .slice (some ⟨v5.heap.size, 0, none⟩) N N, .slice (some ⟨v4.heap.size, 0, none⟩) N N]) (a := ⟨w.heap.size, 9, none⟩) (setRow_far (v6) #[.int .i64 (N : Int), .slice oA owners.length oC, .int .i64 drift, .int .i64 reading, .int .i64 margin, .int .i64 bound, .int .i64 rejoin, .int .i64 quota, .slice pA parts.length pC, .slice wA windows.length wC, .slice qA ports.length qC, .slice lA links.length lC, .int .i64 0, .slice (some ⟨v5.heap.size, 0, none⟩) N N, .slice (some ⟨v4.heap.size, 0, none⟩) N N] (by show w.heap.size ≠ w.heap.size + 1; omega))).trans hHeld.2.2.2.2.2.2.2.2.2.1
      have e10' := (World.cell?_of_block (w := v6) (w' := (v6).setRow (w.heap.size + 1) #[.int .i64 (N : Int), .slice oA owners.length oC, .int .i64 drift, .int .i64 reading, .int .i64 margin, .int .i64 bound, .int .i64 rejoin, .int .i64 quota, .slice pA parts.length pC, .slice wA windows.length wC, .slice qA ports.length qC, .slice lA links.length lC, .int .i64 0, .slice (some ⟨v5.heap.size, 0, none⟩) N N, .slice (some ⟨v4.heap.size, 0, none⟩) N N]) (a := ⟨w.heap.size, 10, none⟩) (setRow_far (v6) #[.int .i64 (N : Int), .slice oA owners.length oC, .int .i64 drift, .int .i64 reading, .int .i64 margin, .int .i64 bound, .int .i64 rejoin, .int .i64 quota, .slice pA parts.length pC, .slice wA windows.length wC, .slice qA ports.length qC, .slice lA links.length lC, .int .i64 0, .slice (some ⟨v5.heap.size, 0, none⟩) N N, .slice (some ⟨v4.heap.size, 0, none⟩) N N] (by show w.heap.size ≠ w.heap.size + 1; omega))).trans hHeld.2.2.2.2.2.2.2.2.2.2.1
      have e11' := (World.cell?_of_block (w := v6) (w' := (v6).setRow (w.heap.size + 1) #[.int .i64 (N : Int), .slice oA owners.length oC, .int .i64 drift, .int .i64 reading, .int .i64 margin, .int .i64 bound, .int .i64 rejoin, .int .i64 quota, .slice pA parts.length pC, .slice wA windows.length wC, .slice qA ports.length qC, .slice lA links.length lC, .int .i64 0, .slice (some ⟨v5.heap.size, 0, none⟩) N N, .slice (some ⟨v4.heap.size, 0, none⟩) N N]) (a := ⟨w.heap.size, 11, none⟩) (setRow_far (v6) #[.int .i64 (N : Int), .slice oA owners.length oC, .int .i64 drift, .int .i64 reading, .int .i64 margin, .int .i64 bound, .int .i64 rejoin, .int .i64 quota, .slice pA parts.length pC, .slice wA windows.length wC, .slice qA ports.length qC, .slice lA links.length lC, .int .i64 0, .slice (some ⟨v5.heap.size, 0, none⟩) N N, .slice (some ⟨v4.heap.size, 0, none⟩) N N] (by show w.heap.size ≠ w.heap.size + 1; omega))).trans hHeld.2.2.2.2.2.2.2.2.2.2.2
      refine hK.out _ _ (⟨e0', e1', e2', e3', e4', e5', e6', e7', e8', e9', e10', e11'⟩) (fun hHeld => ?_)
      clear hK K
      (try change wpAnyH _ _ _ _ _ _ _ (Act.put _ (none) _) _)
      (try simp only [Act.put, List.setIfInBounds_toArray, List.set_cons_zero, List.set_cons_succ])
      refine wpAnyH_take (i := 9) (v := ?v9) rfl (by kernel_rfl) (by kernel_rfl) (by kernel_rfl) (fun _ _ _ h => h) (Or.inl ⟨by kernel_rfl, ?y9⟩) (by assumption) ?r9
      case y9 => (intro W hSW; (try dsimp only at hSW); go_simp; (try with_reducible rfl))
      change wpAnyH _ _ _ _ _ _ _ (Act.put _ (some 3) _) _
      (try simp only [Act.put, List.setIfInBounds_toArray, List.set_cons_zero, List.set_cons_succ])
      refine wpAnyH_done (by kernel_rfl) ?_ _
      go_wp2_with fail
      exact bodyPost_ret (results_ct8 (fn := Tryd.f23) rfl _ _ (w.heap.size + 1) _ _ (0, 0) _ rfl HRs.out Tryd.underlying78 rfl (by kernel_rfl)) rfl ((HP.out _ _).2 ⟨HSs.out, .inr ⟨by first | trivial | rfl, v5.heap.size, v4.heap.size, HLtA.out.2, HLtB.out.2, HNe.out.symm, rfl, HAs.out, HBs.out⟩⟩)
  · have hne : (f != 0) = true := by simpa using hf
    go_wp2_with (refine wpList_store_row rfl 78 (.tmp 2) (.tmp 9) rfl _ #[.int .i64 0, .slice none 0 0, .int .i64 0, .int .i64 0, .int .i64 0, .int .i64 0, .int .i64 0, .int .i64 0, .slice none 0 0, .slice none 0 0, .slice none 0 0, .slice none 0 0, .int .i64 0, .slice none 0 0, .slice none 0 0] rfl rfl _ _ HR3.out (by kernel_rfl) rfl HX0.out ?_)
    refine bodyPost_ret (results_ct8 (fn := Tryd.f23) rfl _ _ (w.heap.size + 1) _ _ (0, 0) _ rfl (setRow_heap _ _ _ #[.int .i64 0, .slice none 0 0, .int .i64 0, .int .i64 0, .int .i64 0, .int .i64 0, .int .i64 0, .int .i64 0, .slice none 0 0, .slice none 0 0, .slice none 0 0, .slice none 0 0, .int .i64 0, .slice none 0 0, .slice none 0 0] _ _ HR3.out) Tryd.underlying78 rfl (by kernel_rfl)) rfl ((HP.out _ _).2 ⟨below_row8 HS3.out.bel (by omega) _, .inl ⟨hf, ?_⟩⟩)
    rw [HZC.out]
    rfl

end Go.Proofs.YtbeggdahbhfhpaaDoor
namespace Go.Proofs.YtbeggdahbhfhpaaDoor
open Go.RowKit Go.Deep Go.ChangeShapes Go.WideShapes
set_option linter.unusedVariables false
set_option linter.unusedSimpArgs false

/-! ### The steps, opened -/
structure StD where
  kd : Int
  a : Int
  b : Int
  mb : Int
instance : Inhabited StD := ⟨⟨0, 0, 0, 0⟩⟩
section
variable {H : Type} {enc : TypeId × Value → H} {w : World}
theorem u16_field8 {base : Nat} {spare : Nat → Bool} {held : Bool} {t : TypeId} {fs : Array Field} {fuel : Nat} {cs : List Value} {x : DataW H × List MemPlace} (hs : Tryd.prog.underlying t = some (.struct fs)) (hone : oneCellFields Tryd.prog fs = true)
    (h : DataW.trod enc Tryd.prog w base spare held fuel t cs = some x) (i : Nat) (f : Field) (hf : fs[i]? = some f) (hft : f.type = 83) (hi : i < Tryd.prog.cellsOf t) : ∃ z, cs[i]? = some (.int .u16 z) ∧ 0 ≤ z ∧ z < 65536 := by
  obtain ⟨v, m, y, h1, h2⟩ := field_of hs hone h i f hf hi
  rw [hft] at h2
  obtain ⟨z, h3, _, h4⟩ := DataW.trod_int Tryd.underlying83 h2
  simp at h3
  have hb := bounds_u16 h4
  exact ⟨z, h3 ▸ h1, by omega, by omega⟩
def StAt (w : World) (A : Option Addr) (L : List StD) : Prop :=
  (∀ z ∈ L, 0 ≤ z.mb ∧ z.mb < 65536) ∧ Lies w A L.length 4 fun i b o =>
    w.cell? ⟨b, o, none⟩ = some (.int .i64 (L.getD i default).kd) ∧ w.cell? ⟨b, o + 1, none⟩ = some (.int .i64 (L.getD i default).a) ∧ w.cell? ⟨b, o + 2, none⟩ = some (.int .i64 (L.getD i default).b) ∧ w.cell? ⟨b, o + 3, none⟩ = some (.int .u16 (L.getD i default).mb)
theorem steps_of {fuel : Nat} {v : Value} {x : DataW H × List MemPlace} (h : DataW.trod enc Tryd.prog w 0 (fun _ => true) true fuel 72 [v] = some x) :
    ∃ (A : Option Addr) (L : List StD) (c : Nat), v = .slice A L.length c ∧ L.length ≤ c ∧ c ≤ maxLen ∧ StAt w A L := by
  have k : Tryd.prog.cellsOf 85 = 4 := by kernel_rfl
  obtain ⟨A, L, c, h1, h2, h3, h4, h5⟩ := lies_of (α := StD) (k := 4) (p := fun z b o => (w.cell? ⟨b, o, none⟩ = some (.int .i64 z.kd) ∧ w.cell? ⟨b, o + 1, none⟩ = some (.int .i64 z.a) ∧ w.cell? ⟨b, o + 2, none⟩ = some (.int .i64 z.b) ∧ w.cell? ⟨b, o + 3, none⟩ = some (.int .u16 z.mb)) ∧ 0 ≤ z.mb ∧ z.mb < 65536) Tryd.underlying72 k (by omega)
    (fun n b o cs y hl hc ht => by
      obtain ⟨z0, e0, i0⟩ := int_field Tryd.underlying85 (by kernel_rfl) ht 0 _ rfl rfl (by omega)
      obtain ⟨z1, e1, i1⟩ := int_field Tryd.underlying85 (by kernel_rfl) ht 1 _ rfl rfl (by omega)
      obtain ⟨z2, e2, i2⟩ := int_field Tryd.underlying85 (by kernel_rfl) ht 2 _ rfl rfl (by omega)
      obtain ⟨z3, e3, i3⟩ := u16_field8 Tryd.underlying85 (by kernel_rfl) ht 3 _ rfl rfl (by omega)
      exact ⟨⟨z0, z1, z2, z3⟩, ⟨(hc 0 (by omega)).trans e0, (hc 1 (by omega)).trans e1, (hc 2 (by omega)).trans e2, (hc 3 (by omega)).trans e3⟩, i3⟩) h
  refine ⟨A, L, c, h1, h2, h3, fun z hz => ?_, ?_⟩
  · rcases h5 with rfl | h5
    · cases hz
    · obtain ⟨b, o, hp⟩ := h5 z hz
      exact hp.2
  · rcases h4 with h4 | ⟨b, off, e, hlt, hp⟩
    · exact .inl h4
    · exact .inr ⟨b, off, e, hlt, fun i hi => (hp i hi).1⟩
end
theorem StAt.below {w w' : World} {A : Option Addr} {L : List StD} (h : StAt w A L) (hb : Below w.heap.size w w') : StAt w' A L :=
  ⟨h.1, h.2.of_below hb (Nat.le_refl _) fun i b o _ hlt ⟨a, b', c, d⟩ => ⟨cell_below hb (Nat.le_refl _) hlt a, cell_below hb (Nat.le_refl _) hlt b', cell_below hb (Nat.le_refl _) hlt c, cell_below hb (Nat.le_refl _) hlt d⟩⟩
theorem StAt.at {w : World} {A : Option Addr} {L : List StD} (h : StAt w A L) {k : Nat} (hk : k < L.length) : ∃ b o, A = some ⟨b, o, none⟩ ∧ b < w.heap.size ∧ (w.cell? ⟨b, o + k * 4, none⟩ = some (.int .i64 (L.getD k default).kd) ∧ w.cell? ⟨b, o + k * 4 + 1, none⟩ = some (.int .i64 (L.getD k default).a) ∧ w.cell? ⟨b, o + k * 4 + 2, none⟩ = some (.int .i64 (L.getD k default).b) ∧ w.cell? ⟨b, o + k * 4 + 3, none⟩ = some (.int .u16 (L.getD k default).mb)) ∧ 0 ≤ (L.getD k default).mb ∧ (L.getD k default).mb < 65536 := by
  rcases h.2 with h0 | ⟨b, o, e, hlt, hc⟩
  · omega
  · exact ⟨b, o, e, hlt, hc k hk, h.1 _ (by rw [List.getD_eq_getElem?_getD, List.getElem?_eq_getElem hk]; exact List.getElem_mem hk)⟩

theorem same_new {c : Conf} {N : Nat} (h : checkF c = 0) (hN : c.nodes = N) : Same2 (ckOf c) ⟨c.nodes, c.drift, c.reading, c.margin, c.bound, 0, List.replicate N 0, List.replicate N false⟩ N := by
  obtain ⟨N', hn, h4, h16, a1, a2, a3, a4⟩ := ck_zero h
  have hnn : N' = N := by omega
  subst hnn
  have hp : 0 ≤ precF c := by unfold precF; omega
  have h0 : ckEnd = 1099511627776 := rfl
  refine ⟨hN, hN, h16, List.length_replicate, List.length_replicate, rfl, rfl, rfl, rfl, rfl, ⟨a1.1, show c.drift ≤ ckEnd by omega⟩, ⟨a2.1, show c.reading ≤ ckEnd by omega⟩, ⟨show 0 ≤ c.margin by omega, show c.margin ≤ ckEnd by omega⟩, ⟨show 0 ≤ c.bound by omega, show c.bound ≤ ckEnd by omega⟩, ⟨show -ckEnd ≤ 0 by omega, show 0 ≤ ckEnd by omega⟩, rfl, fun j hj => ?_⟩
  have e1 : (zero16.getD j default).2 = false := by
    unfold zero16
    rw [List.getD_eq_getElem?_getD, List.getElem?_replicate, if_pos (by omega)]; rfl
  have e2 : (List.replicate N' false).getD j false = false := by
    rw [List.getD_eq_getElem?_getD, List.getElem?_replicate, if_pos hj]; rfl
  exact ⟨e1.trans e2.symm, fun e => by rw [e2] at e; cases e⟩

set_option maxRecDepth 100000 in
set_option maxHeartbeats 8000000 in
theorem plays_walk (c : Conf) (d : Ad) (L : List StD) (A : Option Addr) (cp : Nat) (w : World) (hg : Glo w) (h : ConfAt w c d) (hL : StAt w A L) (hl : L.length ≤ 9223372036854775807) (hSm : ∀ k, k < c.links.length → (c.links.getD k default).dests.length ≤ 17592186043904) :
    Calls Tryd.prog 5 #[c.val d, .slice A L.length cp] w fun e w' => e = .returned (.bool true) ∧ Below w.heap.size w w' := by
  have hS := CfS.first 28 hg h
  have HN := hide (fun W (H : CfS w W c d) => new_at c d W H.g H.cf)
  have HR := hide (fun W (H : CfS w W c d) => rnew_at c d W H.g H.cf hSm)
  have HSt := hide (fun W (hb : Below w.heap.size w W) => hL.below hb)
  have HNP : Hid (∀ w e w', NewPost c w e w' ↔ Below w.heap.size w w' ∧ ((checkF c ≠ 0 ∧ e = .returned (.tuple #[.pointer none, .int .i64 (checkF c)])) ∨ (checkF c = 0 ∧ ∃ g, w.heap.size ≤ g ∧ e = .returned (.tuple #[.pointer (some ⟨g, 0, none⟩), .int .i64 0]) ∧ CkAt w' g (ckOf c)))) := fun _ _ _ => Iff.rfl
  have HRP : Hid (∀ w e w', RNewPost c d w e w' ↔ Below w.heap.size w w' ∧ ((checkF c ≠ 0 ∧ e = .returned (.tuple #[.agg zeroCk, .int .i64 (checkF c)])) ∨
    (checkF c = 0 ∧ ∃ rb hb, w.heap.size ≤ rb ∧ w.heap.size ≤ hb ∧ rb ≠ hb ∧ e = .returned (.tuple #[.agg (c.cells d ++ #[.int .i64 0, .slice (some ⟨rb, 0, none⟩) c.nodes.toNat c.nodes.toNat, .slice (some ⟨hb, 0, none⟩) c.nodes.toNat c.nodes.toNat]), .int .i64 0]) ∧
      w'.heap[rb]? = some (.cells (nums (List.replicate c.nodes.toNat 0)) 3 (0, 0)) ∧ w'.heap[hb]? = some (.cells (bools (List.replicate c.nodes.toNat false)) 4 (0, 0))))) := fun _ _ _ => Iff.rfl
  have HSm2 := hide (fun (h0 : checkF c = 0) (N : Nat) (hn : c.nodes = N) => same_new h0 hn)
  have HNn := hide (fun h0 : checkF c = 0 => nodes_nat h0)
  generalize NewPost c = PP at HN HNP
  generalize RNewPost c d = PR at HR HRP
  generalize checkF c = f at HNP HRP HSm2 HNn
  generalize ckOf c = kk at HNP HSm2
  clear hg h hL hSm
  obtain ⟨oA, oC, pA, pC, wA, wC, qA, qC, lA, lC⟩ := d
  obtain ⟨nodes, owners, drift, reading, margin, bound, rejoin, quota, parts, windows, ports, links⟩ := c
  unfold Conf.val at HN HR ⊢
  unfold Conf.cells at hS HRP
  dsimp only at hS HN HR HNP HRP HSm2 HNn ⊢
  have happ : ∀ x y z : Value, (#[.int .i64 nodes, .slice oA owners.length oC, .int .i64 drift, .int .i64 reading, .int .i64 margin, .int .i64 bound, .int .i64 rejoin, .int .i64 quota, .slice pA parts.length pC, .slice wA windows.length wC, .slice qA ports.length qC, .slice lA links.length lC] ++ #[x, y, z] : Array Value) = #[.int .i64 nodes, .slice oA owners.length oC, .int .i64 drift, .int .i64 reading, .int .i64 margin, .int .i64 bound, .int .i64 rejoin, .int .i64 quota, .slice pA parts.length pC, .slice wA windows.length wC, .slice qA ports.length qC, .slice lA links.length lC, x, y, z] := fun _ _ _ => by simp
  simp only [happ] at HRP
  clear happ
  have HS := hide hS
  have hzc : zeroCk = #[.int .i64 0, .slice none 0 0, .int .i64 0, .int .i64 0, .int .i64 0, .int .i64 0, .int .i64 0, .int .i64 0, .slice none 0 0, .slice none 0 0, .slice none 0 0, .slice none 0 0, .int .i64 0, .slice none 0 0, .slice none 0 0] := rfl
  rw [hzc] at HRP
  have HX0 : Hid ((#[.int .i64 0, .slice none 0 0, .int .i64 0, .int .i64 0, .int .i64 0, .int .i64 0, .int .i64 0, .int .i64 0, .slice none 0 0, .slice none 0 0, .slice none 0 0, .slice none 0 0, .int .i64 0, .slice none 0 0, .slice none 0 0] : Array Value).all (·.oneCell') = true) := by
    show _ = _
    simp [Value.oneCell']
  have HXN : Hid (∀ (rb hb N : Nat), (#[.int .i64 (N : Int), .slice oA owners.length oC, .int .i64 drift, .int .i64 reading, .int .i64 margin, .int .i64 bound, .int .i64 rejoin, .int .i64 quota, .slice pA parts.length pC, .slice wA windows.length wC, .slice qA ports.length qC, .slice lA links.length lC, .int .i64 0, .slice (some ⟨rb, 0, none⟩) N N, .slice (some ⟨hb, 0, none⟩) N N] : Array Value).all (·.oneCell') = true) := fun _ _ _ => by
    simp [Value.oneCell']
  clear hS hzc
  go_enter Tryd.func5, Tryd.ntmps5
  by_cases hL1 : (1000 : Int) < ((L.length : Nat) : Int)
  · go_wp2
    go_ret
    exact ⟨rfl, HS.out.bel⟩
  go_upto_region 3 with fail
  generalize w.alloc (.cells #[.int .i64 nodes, .slice oA owners.length oC, .int .i64 drift, .int .i64 reading, .int .i64 margin, .int .i64 bound, .int .i64 rejoin, .int .i64 quota, .slice pA parts.length pC, .slice wA windows.length wC, .slice qA ports.length qC, .slice lA links.length lC] 28) = w1 at HS ⊢
  obtain ⟨_, ⟨_, e0, e1, e2, e3, e4, e5, e6, e7, e8, e9, e10, e11⟩, _, _⟩ := HS.out
  dsimp only at e0 e1 e2 e3 e4 e5 e6 e7 e8 e9 e10 e11
  go_wp2_with fail
  refine (HN.out _ HS.out).mono ?_
  intro e w2 hp
  obtain ⟨hb2, hp⟩ := (HNP.out _ _ _).1 hp
  have HS2 := hide (HS.out.below hb2)
  clear e0 e1 e2 e3 e4 e5 e6 e7 e8 e9 e10 e11 HN HNP
  obtain ⟨_, ⟨_, e0, e1, e2, e3, e4, e5, e6, e7, e8, e9, e10, e11⟩, _, _⟩ := HS2.out
  dsimp only at e0 e1 e2 e3 e4 e5 e6 e7 e8 e9 e10 e11
  rcases hp with ⟨hf, rfl⟩ | ⟨hf, g, hgz, rfl, hck⟩
  · have hne : (f != 0) = true := by simpa using hf
    clear hb2
    go_wp2_with fail
    refine (HR.out _ HS2.out).mono ?_
    intro e w3 hp
    obtain ⟨hb3, hp⟩ := (HRP.out _ _ _).1 hp
    rcases hp with ⟨_, rfl⟩ | ⟨h0, _⟩
    · have HB3 := hide (HS2.out.bel.trans (hb3.mono HS2.out.bel.size))
      have HZ := hide (heap_alloc_new w3 (.cells #[.int .i64 0, .slice none 0 0, .int .i64 0, .int .i64 0, .int .i64 0, .int .i64 0, .int .i64 0, .int .i64 0, .slice none 0 0, .slice none 0 0, .slice none 0 0, .slice none 0 0, .int .i64 0, .slice none 0 0, .slice none 0 0] 78))
      have HB4 := hide (HB3.out.trans ((bal w3 (.cells #[.int .i64 0, .slice none 0 0, .int .i64 0, .int .i64 0, .int .i64 0, .int .i64 0, .int .i64 0, .int .i64 0, .slice none 0 0, .slice none 0 0, .slice none 0 0, .slice none 0 0, .int .i64 0, .slice none 0 0, .slice none 0 0] 78)).mono HB3.out.size))
      have HBz := hide HB3.out.size
      clear e0 e1 e2 e3 e4 e5 e6 e7 e8 e9 e10 e11 hb3 HR HRP HSt HXN
      go_wp2_with (refine wpList_store_row rfl 78 (.tmp 7) (.tmp 22) rfl _ #[.int .i64 0, .slice none 0 0, .int .i64 0, .int .i64 0, .int .i64 0, .int .i64 0, .int .i64 0, .int .i64 0, .slice none 0 0, .slice none 0 0, .slice none 0 0, .slice none 0 0, .int .i64 0, .slice none 0 0, .slice none 0 0] rfl rfl _ _ HZ.out (by kernel_rfl) rfl HX0.out ?_)
      go_ret
      exact ⟨by simp, below_row8 HB4.out HBz.out _⟩
    · exact absurd h0 hf
  · subst hf
    obtain ⟨N, hN, hN16⟩ := HNn.out rfl
    subst hN
    have HCk := hide hck; have HGz := hide (Nat.le_trans HS.out.bel.size hgz)
    clear hb2 hck hgz HNn
    go_wp2_with fail
    refine (HR.out _ HS2.out).mono ?_
    intro e w3 hp
    obtain ⟨hb3, hp⟩ := (HRP.out _ _ _).1 hp
    rcases hp with ⟨h0, _⟩ | ⟨_, rb, hb, hrz, hhz, hrh, rfl, hr, hh⟩
    · exact absurd rfl h0
    · have HB3 := hide (HS2.out.bel.trans (hb3.mono HS2.out.bel.size))
      have HZ := hide (heap_alloc_new w3 (.cells #[.int .i64 0, .slice none 0 0, .int .i64 0, .int .i64 0, .int .i64 0, .int .i64 0, .int .i64 0, .int .i64 0, .slice none 0 0, .slice none 0 0, .slice none 0 0, .slice none 0 0, .int .i64 0, .slice none 0 0, .slice none 0 0] 78))
      have hb4 := bal w3 (.cells #[.int .i64 0, .slice none 0 0, .int .i64 0, .int .i64 0, .int .i64 0, .int .i64 0, .int .i64 0, .int .i64 0, .slice none 0 0, .slice none 0 0, .slice none 0 0, .slice none 0 0, .int .i64 0, .slice none 0 0, .slice none 0 0] 78)
      have HB4 := hide (HB3.out.trans (hb4.mono HB3.out.size))
      have HCk4 := hide ((HCk.out.below hb3).below hb4)
      have hrl := (Array.getElem?_eq_some_iff.1 hr).1
      have hhl := (Array.getElem?_eq_some_iff.1 hh).1
      have hgl := (HCk.out.below hb3).lt
      have hgl2 := HCk.out.lt
      have HR4 := hide ((hb4.block _ hrl).trans hr); have HH4 := hide ((hb4.block _ hhl).trans hh)
      have HNe := hide (show g ≠ w3.heap.size ∧ rb ≠ w3.heap.size ∧ hb ≠ w3.heap.size ∧ g ≠ rb ∧ g ≠ hb ∧ rb ≠ hb ∧ w.heap.size ≤ g ∧ w.heap.size ≤ rb ∧ w.heap.size ≤ hb ∧ w.heap.size ≤ w3.heap.size from by
        have h1 := HS2.out.bel.size
        have h2 := HGz.out
        have h3 := HB3.out.size
        exact ⟨by omega, by omega, by omega, by omega, by omega, hrh, h2, by omega, by omega, h3⟩)
      rw [Int.toNat_natCast] at HR4 HH4
      simp only [Int.toNat_natCast]
      clear e0 e1 e2 e3 e4 e5 e6 e7 e8 e9 e10 e11 hb3 hb4 HR HRP hrz hhz hrh hr hh hrl hhl hgl hgl2 HCk HGz HX0 HS HS2 HB3
      go_upto_region 5 with (refine wpList_store_row rfl 78 (.tmp 7) (.tmp 22) rfl _ #[.int .i64 (N : Int), .slice oA owners.length oC, .int .i64 drift, .int .i64 reading, .int .i64 margin, .int .i64 bound, .int .i64 rejoin, .int .i64 quota, .slice pA parts.length pC, .slice wA windows.length wC, .slice qA ports.length qC, .slice lA links.length lC, .int .i64 0, .slice (some ⟨rb, 0, none⟩) N N, .slice (some ⟨hb, 0, none⟩) N N] rfl rfl _ _ HZ.out (by kernel_rfl) rfl (HXN.out _ _ _) ?_)
      have HB6 := hide (below_row8 HB4.out HNe.out.2.2.2.2.2.2.2.2.2 #[.int .i64 (N : Int), .slice oA owners.length oC, .int .i64 drift, .int .i64 reading, .int .i64 margin, .int .i64 bound, .int .i64 rejoin, .int .i64 quota, .slice pA parts.length pC, .slice wA windows.length wC, .slice qA ports.length qC, .slice lA links.length lC, .int .i64 0, .slice (some ⟨rb, 0, none⟩) N N, .slice (some ⟨hb, 0, none⟩) N N])
      have HW6 := hide (setRow_heap _ _ _ #[.int .i64 (N : Int), .slice oA owners.length oC, .int .i64 drift, .int .i64 reading, .int .i64 margin, .int .i64 bound, .int .i64 rejoin, .int .i64 quota, .slice pA parts.length pC, .slice wA windows.length wC, .slice qA ports.length qC, .slice lA links.length lC, .int .i64 0, .slice (some ⟨rb, 0, none⟩) N N, .slice (some ⟨hb, 0, none⟩) N N] _ _ HZ.out)
      have HR6 := hide ((setRow_far (w3.alloc (.cells #[.int .i64 0, .slice none 0 0, .int .i64 0, .int .i64 0, .int .i64 0, .int .i64 0, .int .i64 0, .int .i64 0, .slice none 0 0, .slice none 0 0, .slice none 0 0, .slice none 0 0, .int .i64 0, .slice none 0 0, .slice none 0 0] 78)) #[.int .i64 (N : Int), .slice oA owners.length oC, .int .i64 drift, .int .i64 reading, .int .i64 margin, .int .i64 bound, .int .i64 rejoin, .int .i64 quota, .slice pA parts.length pC, .slice wA windows.length wC, .slice qA ports.length qC, .slice lA links.length lC, .int .i64 0, .slice (some ⟨rb, 0, none⟩) N N, .slice (some ⟨hb, 0, none⟩) N N] HNe.out.2.1).trans HR4.out)
      have HH6 := hide ((setRow_far (w3.alloc (.cells #[.int .i64 0, .slice none 0 0, .int .i64 0, .int .i64 0, .int .i64 0, .int .i64 0, .int .i64 0, .int .i64 0, .slice none 0 0, .slice none 0 0, .slice none 0 0, .slice none 0 0, .int .i64 0, .slice none 0 0, .slice none 0 0] 78)) #[.int .i64 (N : Int), .slice oA owners.length oC, .int .i64 drift, .int .i64 reading, .int .i64 margin, .int .i64 bound, .int .i64 rejoin, .int .i64 quota, .slice pA parts.length pC, .slice wA windows.length wC, .slice qA ports.length qC, .slice lA links.length lC, .int .i64 0, .slice (some ⟨rb, 0, none⟩) N N, .slice (some ⟨hb, 0, none⟩) N N] HNe.out.2.2.1).trans HH4.out)
      have HC6 := hide (HCk4.out.kept (setRow_far (w3.alloc (.cells #[.int .i64 0, .slice none 0 0, .int .i64 0, .int .i64 0, .int .i64 0, .int .i64 0, .int .i64 0, .int .i64 0, .slice none 0 0, .slice none 0 0, .slice none 0 0, .slice none 0 0, .int .i64 0, .slice none 0 0, .slice none 0 0] 78)) #[.int .i64 (N : Int), .slice oA owners.length oC, .int .i64 drift, .int .i64 reading, .int .i64 margin, .int .i64 bound, .int .i64 rejoin, .int .i64 quota, .slice pA parts.length pC, .slice wA windows.length wC, .slice qA ports.length qC, .slice lA links.length lC, .int .i64 0, .slice (some ⟨rb, 0, none⟩) N N, .slice (some ⟨hb, 0, none⟩) N N] HNe.out.1))
      have HSm := hide (HSm2.out (by first | trivial | rfl) N rfl)
      clear HB4 HZ HR4 HH4 HCk4 HXN HSm2
      generalize (w3.alloc (.cells #[.int .i64 0, .slice none 0 0, .int .i64 0, .int .i64 0, .int .i64 0, .int .i64 0, .int .i64 0, .int .i64 0, .slice none 0 0, .slice none 0 0, .slice none 0 0, .slice none 0 0, .int .i64 0, .slice none 0 0, .slice none 0 0] 78)).setRow w3.heap.size #[.int .i64 (N : Int), .slice oA owners.length oC, .int .i64 drift, .int .i64 reading, .int .i64 margin, .int .i64 bound, .int .i64 rejoin, .int .i64 quota, .slice pA parts.length pC, .slice wA windows.length wC, .slice qA ports.length qC, .slice lA links.length lC, .int .i64 0, .slice (some ⟨rb, 0, none⟩) N N, .slice (some ⟨hb, 0, none⟩) N N] = w6 at HB6 HW6 HR6 HH6 HC6 ⊢
      generalize w3.heap.size = wb at HW6 HNe ⊢
      have HBo : Hid (Bo2 w6 w.heap.size g wb rb hb kk ⟨(N : Int), drift, reading, margin, bound, 0, List.replicate N 0, List.replicate N false⟩ N) := by
        obtain ⟨q1, q2, q3, q4, q5, q6, q7, q8, q9, q10⟩ := HNe.out
        have hc : ∀ (j : Nat) (u : Value), (#[.int .i64 (N : Int), .slice oA owners.length oC, .int .i64 drift, .int .i64 reading, .int .i64 margin, .int .i64 bound, .int .i64 rejoin, .int .i64 quota, .slice pA parts.length pC, .slice wA windows.length wC, .slice qA ports.length qC, .slice lA links.length lC, .int .i64 0, .slice (some ⟨rb, 0, none⟩) N N, .slice (some ⟨hb, 0, none⟩) N N] : Array Value)[j]? = some u → w6.cell? ⟨wb, j, none⟩ = some u := fun j u hu => (cell_row HW6.out).trans hu
        have hn1 : (List.replicate N (0 : Int)).length = N := List.length_replicate
        have hn2 : (List.replicate N false).length = N := List.length_replicate
        exact ⟨HC6.out, ⟨(Array.getElem?_eq_some_iff.1 HW6.out).1, hc 0 _ rfl, hc 2 _ rfl, hc 3 _ rfl, hc 4 _ rfl, hc 5 _ rfl, hc 12 _ rfl, by rw [hn1]; exact hc 13 _ rfl, by rw [hn2]; exact hc 14 _ rfl, fun j => (by unfold World.frozen?; rw [HW6.out]; simp), HR6.out, HH6.out, q2.symm, q3.symm, q6⟩, HSm.out, q1, q4, q5, q7, q10, q8, q9⟩
      clear HW6 HR6 HH6 HC6 HSm HNe
      go_wp2_with fail
      go_loopw [9, 10] (fun s9 s10 W => ∃ i : Nat, i ≤ L.length ∧ s9 = .int .i64 i ∧ Below w.heap.size w W ∧ ∃ hb k r, Bo2 W w.heap.size g wb rb hb k r N) (fun s9 _ _ => L.length - (intOf s9).toNat)
      case atStart => exact ⟨0, by omega, rfl, HB6.out, _, _, _, HBo.out⟩
      case round =>
        obtain ⟨i, hi, rfl, hbw, hb', k, r, hx⟩ := hrel
        have HBW := hide hbw; have HX := hide hx
        clear hx HBo HB6
        by_cases hlt : i < L.length
        · have HIL := hide (show i + 1 ≤ L.length by omega)
          obtain ⟨sb, so, hA, hsl, ⟨x0, x1, x2, x3⟩, hm1, hm2⟩ := (HSt.out wr hbw).at hlt
          subst hA
          have HSp := hide (step_at HX.out (L.getD i default).kd (L.getD i default).a (L.getD i default).b (L.getD i default).mb ⟨hm1, hm2⟩)
          generalize (L.getD i default).kd = s0 at x0 HSp
          generalize (L.getD i default).a = s1 at x1 HSp
          generalize (L.getD i default).b = s2 at x2 HSp
          generalize (L.getD i default).mb = s3 at x3 HSp
          clear hm1 hm2 hbw hsl
          go_wp2_with fail
          refine HSp.out.mono ?_
          rintro e w2 ⟨rfl, hb2, hb'', k', r', hx2⟩
          have HB2 : Hid (Below w.heap.size w { w2 with drawn := w2.drawn + 1 }) := cdrewN (HBW.out.trans hb2) 1
          have HX2 : Hid (Bo2 { w2 with drawn := w2.drawn + 1 } w.heap.size g wb rb hb'' k' r' N) := hx2.below (cdrewN (Below.refl _ _) 1)
          have HO := hide ((offset_at HX2.out.a).mono (fun _ _ h => (⟨h.1, h.2.symm⟩ : _ ∧ _)))
          have c12 := HX2.out.b.c12
          rw [HX2.out.s.off] at c12
          clear hb2 hx2 x0 x1 x2 x3 HSp HBW HX
          generalize k'.off = off at HO c12
          go_upto_region 11 with fail
          refine wp_region_still_tail 8 (by kernel_rfl) (by kernel_rfl) ?_
          simp only [List.take_succ_cons, List.take_zero, List.drop_succ_cons, List.drop_zero]
          generalize ({ w2 with drawn := w2.drawn + 1 } : World) = w7 at *
          repeat still_step
          still_call (HO.out)
          repeat still_step
          refine wpStill_nil ?_
          go_wp2_with fail
          go_roundw
          case rel => exact ⟨i + 1, HIL.out, by go_num, HB2.out, _, _, _, HX2.out⟩
          case measure => have := HIL.out; simp [intOf]; omega
        · obtain rfl : i = L.length := by omega
          have HB2 : Hid (Below w.heap.size w { wr with drawn := wr.drawn + 1 }) := cdrewN hbw 1
          have HX2 : Hid (Bo2 { wr with drawn := wr.drawn + 1 } w.heap.size g wb rb hb' k r N) := HX.out.below (cdrewN (Below.refl _ _) 1)
          have HO := hide ((offset_at HX2.out.a).mono (fun _ _ h => (⟨h.1, h.2.symm⟩ : _ ∧ _)))
          have c12 := HX2.out.b.c12
          rw [HX2.out.s.off] at c12
          clear hbw HX HBW
          generalize k.off = off at HO c12
          go_wp2_with fail
          refine wp_region_still_tail 5 (by kernel_rfl) (by kernel_rfl) ?_
          simp only [List.take_succ_cons, List.take_zero, List.drop_succ_cons, List.drop_zero]
          generalize ({ wr with drawn := wr.drawn + 1 } : World) = w7 at *
          repeat still_step
          still_call (HO.out)
          repeat still_step
          refine wpStill_nil ?_
          go_wp2
          go_ret
          exact ⟨rfl, HB2.out⟩
end Go.Proofs.YtbeggdahbhfhpaaDoor
