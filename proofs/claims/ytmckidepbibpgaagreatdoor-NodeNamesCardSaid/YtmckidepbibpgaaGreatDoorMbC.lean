/-
  What a member does now: told.
-/
import Derived.Test.YtmckidepbibpgaaGreatDoorMbB
import Derived.LaidEqlPtr
import Derived.BigQuiet
namespace Go.Proofs.YtmckidepbibpgaaGreatDoor
open Go.RowKit Go.Deep
set_option linter.unusedVariables false
set_option linter.unusedSimpArgs false

/-- a member's own block: itself, its state, its counter -/
structure MbM (W : World) (b : Nat) (st sl : Int) : Prop where
  lt : b < W.heap.size
  c0 : W.cell? ⟨b, 0, none⟩ = some (.pointer (some ⟨b, 0, none⟩))
  c14 : W.cell? ⟨b, 14, none⟩ = some (.int .i64 st)
  c15 : W.cell? ⟨b, 15, none⟩ = some (.int .i64 sl)
theorem MbM.below {W W' : World} {b : Nat} {st sl : Int} (h : MbM W b st sl) (hb : Below W.heap.size W W') : MbM W' b st sl :=
  ⟨Nat.lt_of_lt_of_le h.lt hb.size, cell_below hb (Nat.le_refl _) h.lt h.c0, cell_below hb (Nat.le_refl _) h.lt h.c14, cell_below hb (Nat.le_refl _) h.lt h.c15⟩
set_option maxRecDepth 100000 in
theorem isMade_at (b : Nat) (w : World) (h : w.cell? ⟨b, 0, none⟩ = some (.pointer (some ⟨b, 0, none⟩))) :
    Calls Tryz.prog 158 #[.pointer (some ⟨b, 0, none⟩)] w fun e w' => e = .returned (.bool true) ∧ w = w' := by
  obtain ⟨j, hj⟩ := Option.isSome_iff_exists.1 (show (Tryz.prog.info? 206).isSome = true by kernel_rfl)
  have he := fun W => run_eql_ptr_same (P := Tryz.prog) (w := W) (tp := 134) ⟨b, 0, none⟩ Tryz.underlying134 hj
  clear hj
  go_enter Tryz.func158, Tryz.ntmps158
  go_wp2
  go_ret
  exact ⟨rfl, rfl⟩
set_option maxRecDepth 100000 in
theorem isMade_nil (w : World) :
    Calls Tryz.prog 158 #[.pointer none] w fun e w' => e = .returned (.bool false) ∧ w = w' := by
  go_enter Tryz.func158, Tryz.ntmps158
  go_wp2
  go_ret
  exact ⟨rfl, rfl⟩
set_option maxRecDepth 100000 in
theorem hasc_at (b : Nat) (sl : Int) (w : World) (h : w.cell? ⟨b, 15, none⟩ = some (.int .i64 sl)) :
    Calls Tryz.prog 167 #[.pointer (some ⟨b, 0, none⟩)] w fun e w' => e = .returned (.bool (sl != -1)) ∧ w = w' := by
  go_enter Tryz.func167, Tryz.ntmps167
  go_wp2
  go_ret
  exact ⟨rfl, rfl⟩
theorem info_cond : (Tryz.prog.info? 241).map (fun i => (i.zero, i.size)) = some (some cvZ, 3) := by kernel_rfl
theorem zero_cond (W : World) : (zeroValue 241).run Tryz.prog W = .ok cvZ W := by
  have hi := info_cond
  rcases hi' : Tryz.prog.info? 241 with _ | i
  · rw [hi'] at hi; cases hi
  rw [hi'] at hi
  simp only [Option.map_some, Option.some.injEq, Prod.mk.injEq] at hi
  simp [zeroValue, typeInfo, hi', hi.1]
theorem wp_look2 {o : Oper} {a : Act} {W : World} {next : Act → World → Prop} {Q : Exit → Act → World → Prop} (m k : Operand) (ho : o.op = .lookup 299 m k true) (r : Nat) (key : Int × Bool) (v : Value) (ok : Bool)
    (hm : a.eval m = .map (some r)) (hk : a.eval k = kval key) (h : CdM W r) (hv : (condF key).getD cvZ = v) (hok : (condF key).isSome = ok)
    (hn : next (a.put o.dst (.tuple #[v, .bool ok])) W) : o.wp Tryz.prog a W next Q := by
  obtain ⟨l, c, h1, h2⟩ := h
  refine wp_look m k ho r l c key cvZ hm hk (zero_cond W) h1 ?_
  have h3 := h2 key
  subst hv; subst hok
  rw [← h3] at hn
  rcases hf : findE key l 0 with _ | ⟨i, u⟩
  · rw [hf] at hn; exact hn
  · rw [hf] at hn; exact hn
theorem cellOf {w : World} {b : Nat} {cs : Array Value} {e : TypeId} {fz : Nat × Nat} (h : w.heap[b]? = some (.cells cs e fz)) (k : Nat) : w.cell? ⟨b, k, none⟩ = cs[k]? := by simp [World.cell?, h]
theorem setRow_other (w : World) {g k : Nat} (cs : Array Value) (h : k ≠ g) : (w.setRow g cs).heap[k]? = w.heap[k]? := by
  show (w.heap.modify g _)[k]? = _
  rw [Array.getElem?_modify, if_neg (fun e => h e.symm)]
theorem cell_row (w : World) {g b o : Nat} (cs : Array Value) (h : b ≠ g) : (w.setRow g cs).cell? ⟨b, o, none⟩ = w.cell? ⟨b, o, none⟩ := by
  unfold World.cell?
  rw [setRow_other w cs h]
theorem below_row {B : Nat} {w W : World} {g : Nat} (h : Below B w W) (hg : B ≤ g) (cs : Array Value) : Below B w (W.setRow g cs) :=
  ⟨h.os, h.tape, h.output, by show _ ≤ (W.heap.modify g _).size; rw [Array.size_modify]; exact h.size, fun k hk => (setRow_other W cs (by omega)).trans (h.block k hk)⟩
theorem MbM.row {W : World} {b : Nat} {st sl : Int} (h : MbM W b st sl) {g : Nat} (hg : b ≠ g) (cs : Array Value) : MbM (W.setRow g cs) b st sl :=
  ⟨by show _ < (W.heap.modify g _).size; rw [Array.size_modify]; exact h.lt, (cell_row W cs hg).trans h.c0, (cell_row W cs hg).trans h.c14, (cell_row W cs hg).trans h.c15⟩
theorem results_ct {P : Program} {fn : Func} {p q : Tmp} {ty : TypeId} (h : fn.results = #[.cell p ty, .tmp q]) (tmps : Array Value) (w : World) (g : Nat) (t : TypeId) (cs : Array Value) (fr : Nat × Nat) (d : TypeDesc)
    (hp : tmps.getD p undef = .pointer (some ⟨g, 0, none⟩)) (hg : w.heap[g]? = some (.cells cs t fr))
    (hu : P.underlying ty = some d) (hd : (match d with | .struct _ | .array _ _ => true | _ => false) = true) (hi : (P.info? ty).map (·.size) = some cs.size) :
    (results fn tmps).run P w = .ok (.tuple #[.agg cs, tmps.getD q undef]) w := by
  have hp' : tmps[p]?.getD undef = .pointer (some ⟨g, 0, none⟩) := by simpa using hp
  simp [results, h, hp', asAddr, run_loadVar_row w g t ty cs fr d hg hu hd hi]
theorem condF_agg (k : Int × Bool) : ∃ x y z, (condF k).getD cvZ = .agg #[x, y, z] ∧ x.oneCell' = true ∧ y.oneCell' = true ∧ z.oneCell' = true := by
  unfold condF
  split
  · exact ⟨_, _, _, rfl, rfl, rfl, rfl⟩
  · split
    · exact ⟨_, _, _, rfl, rfl, rfl, rfl⟩
    · split
      · exact ⟨_, _, _, rfl, rfl, rfl, rfl⟩
      · exact ⟨_, _, _, rfl, rfl, rfl, rfl⟩

theorem vdrewNy {B : Nat} {w w' : World} (h : Below B w w') (n : Nat) : Below B w (w'.drewN n) := ⟨h.os, h.tape, h.output, h.size, h.block⟩

set_option maxRecDepth 100000 in
set_option maxHeartbeats 2000000 in
theorem conduct_at (b : Nat) (st sl : Int) (w : World) (h : MbM w b st sl) :
    Calls Tryz.prog 152 #[.pointer (some ⟨b, 0, none⟩)] w fun e w' => e = .returned (.tuple #[(condF (st, sl != -1)).getD cvZ, .bool (condF (st, sl != -1)).isSome]) ∧ Below w.heap.size w w' := by
  obtain ⟨x, y, z, hv, x1, x2, x3⟩ := condF_agg (st, sl != -1)
  obtain ⟨ok, hok⟩ : ∃ ok, (condF (st, sl != -1)).isSome = ok := ⟨_, rfl⟩
  have HV := hide hv; have HOK := hide hok
  rw [hv, hok]
  have HX : Hid (#[x, y, z].all (·.oneCell') = true) := by
    show _ = _
    simp [x1, x2, x3]
  have hb1 := bal w (.cells #[.nilFunc, .nilFunc, .nilFunc] 241)
  have HR := hide (heap_alloc_new w (.cells #[.nilFunc, .nilFunc, .nilFunc] 241))
  have HM := hide (h.below hb1); have HB := hide hb1; have HZ := hide hb1.size
  clear h hb1 hv hok x1 x2 x3
  go_enter Tryz.func152, Tryz.ntmps152
  go_upto_region 1 with fail
  generalize w.alloc (.cells #[.nilFunc, .nilFunc, .nilFunc] 241) = w1 at HR HM HB HZ ⊢
  generalize hr : w.heap.size = r at HR HB HZ ⊢
  have HRr := hide hr
  clear hr
  go_wp2_with fail
  refine (isMade_at b _ HM.out.c0).mono ?_
  rintro e w2 ⟨rfl, hw⟩
  subst hw
  go_upto_region 3 with fail
  have HB3 : Hid (Below r w w1.drew) := vdrewNy HB.out 1
  have HZ3 : Hid (r ≤ w1.drew.heap.size) := HZ.out
  have HM3 : Hid (MbM w1.drew b st sl) := HM.out.below (vdrewNy (Below.refl w1.heap.size w1) 1)
  have HR3 : Hid (w1.drew.heap[r]? = _) := HR.out
  clear HB HM HR HZ
  refine wp_region_held_drew (S := fun w' => w'.cell? ⟨b, 14, none⟩ = some (.int .i64 st)) (by kernel_rfl) HM3.out.c14 (fun hHeld => ?_)
  refine wpAnyH_take (i := 1) (v := ?v1) rfl (by kernel_rfl) (by kernel_rfl) (by kernel_rfl) (fun _ _ _ h => h) (Or.inl ⟨by kernel_rfl, ?y1⟩) (by assumption) ?r1
  case y1 => (intro W hSW; (try dsimp only at hSW); go_simp; (try with_reducible rfl))
  change wpAnyH _ _ _ _ _ _ _ (Act.put _ (some 12) _) _
  (try simp only [Act.put, List.setIfInBounds_toArray, List.set_cons_zero, List.set_cons_succ])
  refine wpAnyH_take (i := 2) (v := ?v2) rfl (by kernel_rfl) (by kernel_rfl) (by kernel_rfl) (fun _ _ _ h => h) (Or.inl ⟨by kernel_rfl, ?y2⟩) (by assumption) ?r2
  case y2 => (intro W hSW; (try dsimp only at hSW); go_simp; (try with_reducible rfl))
  change wpAnyH _ _ _ _ _ _ _ (Act.put _ (some 13) _) _
  (try simp only [Act.put, List.setIfInBounds_toArray, List.set_cons_zero, List.set_cons_succ])
  refine wpAnyH_take (i := 3) (v := ?v3) rfl (by kernel_rfl) (by kernel_rfl) (by kernel_rfl) (fun _ _ _ h => h) (Or.inl ⟨by kernel_rfl, ?y3⟩) (by assumption) ?r3
  case y3 => (intro W hSW; (try dsimp only at hSW); go_simp; (try with_reducible rfl))
  change wpAnyH _ _ _ _ _ _ _ (Act.put _ (some 14) _) _
  (try simp only [Act.put, List.setIfInBounds_toArray, List.set_cons_zero, List.set_cons_succ])
  refine wpAnyH_take (i := 4) (v := ?v4) rfl (by kernel_rfl) (by kernel_rfl) (by kernel_rfl) (fun _ _ _ h => h) (Or.inl ⟨by kernel_rfl, ?y4⟩) (by assumption) ?r4
  case y4 => (intro W hSW; (try dsimp only at hSW); go_simp; (try with_reducible rfl))
  change wpAnyH _ _ _ _ _ _ _ (Act.put _ (some 15) _) _
  (try simp only [Act.put, List.setIfInBounds_toArray, List.set_cons_zero, List.set_cons_succ])
  refine wpAnyH_take (i := 5) (v := ?v5) rfl (by kernel_rfl) (by kernel_rfl) (by kernel_rfl) (fun _ _ _ h => h) (Or.inl ⟨by kernel_rfl, ?y5⟩) (by assumption) ?r5
  case y5 => (intro W hSW; (try dsimp only at hSW); go_simp; (try with_reducible rfl))
  change wpAnyH _ _ _ _ _ _ _ (Act.put _ (some 16) _) _
  (try simp only [Act.put, List.setIfInBounds_toArray, List.set_cons_zero, List.set_cons_succ])
  refine wpAnyH_take (i := 6) (v := ?v6) rfl (by kernel_rfl) (by kernel_rfl) (by kernel_rfl) (fun _ _ _ h => h) (Or.inl ⟨by kernel_rfl, ?y6⟩) (by assumption) ?r6
  case y6 => (intro W hSW; (try dsimp only at hSW); go_simp; (try with_reducible rfl))
  change wpAnyH _ _ _ _ _ _ _ (Act.put _ (some 17) _) _
  (try simp only [Act.put, List.setIfInBounds_toArray, List.set_cons_zero, List.set_cons_succ])
  refine wpAnyH_ready (rs := [0, 13]) (by kernel_rfl) (by simp) ?_
  refine AllReadyH.cons rfl (fun K hK => ?_) (AllReadyH.cons rfl (fun K hK => ?_) AllReadyH.nil)
  · rw [if_pos (by rfl)]
    go_simp
    refine (conducts_at _).mono ?_
    rintro e wc ⟨mb, rfl, hmap, hmz, hb⟩
    have HC4 := hide hmap
    have HB4 := hide (HB3.out.trans (hb.mono HZ3.out))
    have HZ4 := hide (Nat.le_trans HZ3.out hb.size)
    have HM4 := hide (HM3.out.below hb)
    have HR4 := hide ((hb.block _ (Array.getElem?_eq_some_iff.1 HR3.out).1).trans HR3.out)
    clear hmap hb
    refine hK.out _ _ (HM4.out.c14) (fun hHeld => ?_)
    clear hK K
    (try change wpAnyH _ _ _ _ _ _ _ (Act.put _ (some 11) _) _)
    (try simp only [Act.put, List.setIfInBounds_toArray, List.set_cons_zero, List.set_cons_succ])
    refine wpAnyH_ready (rs := [7, 13]) (by kernel_rfl) (by simp) ?_
    refine AllReadyH.cons rfl (fun K hK => ?_) (AllReadyH.cons rfl (fun K hK => ?_) AllReadyH.nil)
    · rw [if_pos (by rfl)]
      go_simp
      refine (hasc_at b sl _ HM4.out.c15).mono ?_
      rintro e wh ⟨rfl, hw⟩
      subst hw
      refine hK.out _ _ (HM4.out.c14) (fun hHeld => ?_)
      clear hK K
      (try change wpAnyH _ _ _ _ _ _ _ (Act.put _ (some 18) _) _)
      (try simp only [Act.put, List.setIfInBounds_toArray, List.set_cons_zero, List.set_cons_succ])
      refine wpAnyH_take (i := 8) (v := ?v7) rfl (by kernel_rfl) (by kernel_rfl) (by kernel_rfl) (fun _ _ _ h => h) (Or.inl ⟨by kernel_rfl, ?y7⟩) (by assumption) ?r7
      case y7 => (intro W hSW; (try dsimp only at hSW); go_simp; (try with_reducible rfl))
      change wpAnyH _ _ _ _ _ _ _ (Act.put _ (some 19) _) _
      (try simp only [Act.put, List.setIfInBounds_toArray, List.set_cons_zero, List.set_cons_succ])
      refine wpAnyH_ready (rs := [9, 13]) (by kernel_rfl) (by simp) ?_
      refine AllReadyH.cons rfl (fun K hK => ?_) (AllReadyH.cons rfl (fun K hK => ?_) AllReadyH.nil)
      · rw [if_pos (by rfl)]
        refine wp_look2 (.tmp 11) (.tmp 19) rfl mb (st, sl != -1) _ _ rfl rfl HC4.out HV.out HOK.out ?_
        refine hK.out _ _ (HM4.out.c14) (fun hHeld => ?_)
        clear hK K
        (try change wpAnyH _ _ _ _ _ _ _ (Act.put _ (some 20) _) _)
        (try simp only [Act.put, List.setIfInBounds_toArray, List.set_cons_zero, List.set_cons_succ])
        refine wpAnyH_take (i := 10) (v := ?v8) rfl (by kernel_rfl) (by kernel_rfl) (by kernel_rfl) (fun _ _ _ h => h) (Or.inl ⟨by kernel_rfl, ?y8⟩) (by assumption) ?r8
        case y8 => (intro W hSW; (try dsimp only at hSW); go_simp; (try with_reducible rfl))
        change wpAnyH _ _ _ _ _ _ _ (Act.put _ (some 10) _) _
        (try simp only [Act.put, List.setIfInBounds_toArray, List.set_cons_zero, List.set_cons_succ])
        refine wpAnyH_take (i := 11) (v := ?v9) rfl (by kernel_rfl) (by kernel_rfl) (by kernel_rfl) (fun _ _ _ h => h) (Or.inl ⟨by kernel_rfl, ?y9⟩) (by assumption) ?r9
        case y9 => (intro W hSW; (try dsimp only at hSW); go_simp; (try with_reducible rfl))
        change wpAnyH _ _ _ _ _ _ _ (Act.put _ (some 21) _) _
        (try simp only [Act.put, List.setIfInBounds_toArray, List.set_cons_zero, List.set_cons_succ])
        refine wpAnyH_take (i := 12) (v := ?v10) rfl (by kernel_rfl) (by kernel_rfl) (by kernel_rfl) (fun _ _ _ h => h) (Or.inl ⟨by kernel_rfl, ?y10⟩) (by assumption) ?r10
        case y10 => (intro W hSW; (try dsimp only at hSW); go_simp; (try with_reducible rfl))
        change wpAnyH _ _ _ _ _ _ _ (Act.put _ (some 22) _) _
        (try simp only [Act.put, List.setIfInBounds_toArray, List.set_cons_zero, List.set_cons_succ])
        refine wpAnyH_ready (rs := [13]) (by kernel_rfl) (by simp) ?_
        refine AllReadyH.cons rfl (fun K hK => ?_) AllReadyH.nil
        rw [if_pos (by rfl)]
        go_simp
        have HNq := hide (show b ≠ (wc).heap.size ∧ r ≠ (wc).heap.size ∧ r ≤ (wc).heap.size from ⟨Nat.ne_of_lt HM4.out.lt, Nat.ne_of_lt (Array.getElem?_eq_some_iff.1 HR4.out).1, HZ4.out⟩)
        have hb := bal (wc) (.cells #[.nilFunc, .nilFunc, .nilFunc] 241)
        have HQ5 := hide (heap_alloc_new (wc) (.cells #[.nilFunc, .nilFunc, .nilFunc] 241))
        have HB5 := hide (HB4.out.trans (hb.mono HZ4.out))
        have HZ5 := hide (Nat.le_trans HZ4.out hb.size)
        have HM5 := hide (HM4.out.below hb)
        have HR5 := hide ((hb.block _ (Array.getElem?_eq_some_iff.1 HR4.out).1).trans HR4.out)
        have HC5 := hide (HC4.out.below hb)
        clear hb
        refine hK.out _ _ (HM5.out.c14) (fun hHeld => ?_)
        clear hK K
        (try change wpAnyH _ _ _ _ _ _ _ (Act.put _ (some 4) _) _)
        (try simp only [Act.put, List.setIfInBounds_toArray, List.set_cons_zero, List.set_cons_succ])
        refine wpAnyH_ready (rs := [14]) (by kernel_rfl) (by simp) ?_
        refine AllReadyH.cons rfl (fun K hK => ?_) AllReadyH.nil
        rw [if_pos (by rfl)]
        refine wp_store_row 241 (.tmp 4) (.tmp 21) rfl _ #[x, y, z] rfl rfl _ _ HQ5.out (by kernel_rfl) rfl HX.out ?_
        have HBs : Hid (Below r w ((((wc).alloc (.cells #[.nilFunc, .nilFunc, .nilFunc] 241))).setRow (wc.heap.size) #[x, y, z])) := below_row HB5.out HNq.out.2.2 #[x, y, z]
        have HRs : Hid (((((wc).alloc (.cells #[.nilFunc, .nilFunc, .nilFunc] 241))).setRow (wc.heap.size) #[x, y, z]).heap[r]? = some (.cells #[.nilFunc, .nilFunc, .nilFunc] 241)) := (setRow_other ((wc).alloc (.cells #[.nilFunc, .nilFunc, .nilFunc] 241)) #[x, y, z] HNq.out.2.1).trans HR5.out
        have HQs : Hid (((((wc).alloc (.cells #[.nilFunc, .nilFunc, .nilFunc] 241))).setRow (wc.heap.size) #[x, y, z]).heap[wc.heap.size]? = some (.cells #[x, y, z] 241)) := setRow_heap _ _ _ #[x, y, z] _ _ HQ5.out
        have HMs := HM5.out.row HNq.out.1 #[x, y, z]
        refine hK.out _ _ (HMs.c14) (fun hHeld => ?_)
        clear hK K
        (try change wpAnyH _ _ _ _ _ _ _ (Act.put _ (none) _) _)
        (try simp only [Act.put, List.setIfInBounds_toArray, List.set_cons_zero, List.set_cons_succ])
        refine wpAnyH_take (i := 15) (v := ?v11) rfl (by kernel_rfl) (by kernel_rfl) (by kernel_rfl) (fun _ _ _ h => h) (Or.inl ⟨by kernel_rfl, ?y11⟩) (by assumption) ?r11
        case y11 => (intro W hSW; (try dsimp only at hSW); go_simp; (try with_reducible rfl))
        change wpAnyH _ _ _ _ _ _ _ (Act.put _ (some 5) _) _
        (try simp only [Act.put, List.setIfInBounds_toArray, List.set_cons_zero, List.set_cons_succ])
        refine wpAnyH_done (by kernel_rfl) ?_ _
        have q0 : ((((wc).alloc (.cells #[.nilFunc, .nilFunc, .nilFunc] 241))).setRow (wc.heap.size) #[x, y, z]).cell? ⟨wc.heap.size, 0, none⟩ = some x := (cellOf HQs.out 0).trans rfl
        have q1 : ((((wc).alloc (.cells #[.nilFunc, .nilFunc, .nilFunc] 241))).setRow (wc.heap.size) #[x, y, z]).cell? ⟨wc.heap.size, 1, none⟩ = some y := (cellOf HQs.out 1).trans rfl
        have q2 : ((((wc).alloc (.cells #[.nilFunc, .nilFunc, .nilFunc] 241))).setRow (wc.heap.size) #[x, y, z]).cell? ⟨wc.heap.size, 2, none⟩ = some z := (cellOf HQs.out 2).trans rfl
        clear HQs HMs HNq hHeld
        generalize (((wc).alloc (.cells #[.nilFunc, .nilFunc, .nilFunc] 241))).setRow (wc.heap.size) #[x, y, z] = w8 at q0 q1 q2 HBs HRs ⊢
        generalize wc.heap.size = g at q0 q1 q2 ⊢
        go_wp2_with (refine wpList_store_row rfl 241 (.tmp 2) (.tmp 23) rfl _ #[x, y, z] rfl rfl _ _ HRs.out (by kernel_rfl) rfl HX.out ?_)
        exact bodyPost_ret (results_ct (fn := Tryz.f152) rfl _ _ r _ _ (0, 0) _ rfl (setRow_heap _ _ _ #[x, y, z] _ _ HRs.out) Tryz.underlying241 rfl (by kernel_rfl)) rfl ⟨rfl, by rw [HRr.out]; exact below_row HBs.out (Nat.le_refl _) _⟩
      · rw [if_pos (by rfl)]
        go_simp
        have HNq := hide (show b ≠ (wc).heap.size ∧ r ≠ (wc).heap.size ∧ r ≤ (wc).heap.size from ⟨Nat.ne_of_lt HM4.out.lt, Nat.ne_of_lt (Array.getElem?_eq_some_iff.1 HR4.out).1, HZ4.out⟩)
        have hb := bal (wc) (.cells #[.nilFunc, .nilFunc, .nilFunc] 241)
        have HQ5 := hide (heap_alloc_new (wc) (.cells #[.nilFunc, .nilFunc, .nilFunc] 241))
        have HB5 := hide (HB4.out.trans (hb.mono HZ4.out))
        have HZ5 := hide (Nat.le_trans HZ4.out hb.size)
        have HM5 := hide (HM4.out.below hb)
        have HR5 := hide ((hb.block _ (Array.getElem?_eq_some_iff.1 HR4.out).1).trans HR4.out)
        have HC5 := hide (HC4.out.below hb)
        clear hb
        refine hK.out _ _ (HM5.out.c14) (fun hHeld => ?_)
        clear hK K
        (try change wpAnyH _ _ _ _ _ _ _ (Act.put _ (some 4) _) _)
        (try simp only [Act.put, List.setIfInBounds_toArray, List.set_cons_zero, List.set_cons_succ])
        refine wpAnyH_ready (rs := [9]) (by kernel_rfl) (by simp) ?_
        refine AllReadyH.cons rfl (fun K hK => ?_) AllReadyH.nil
        rw [if_pos (by rfl)]
        refine wp_look2 (.tmp 11) (.tmp 19) rfl mb (st, sl != -1) _ _ rfl rfl HC5.out HV.out HOK.out ?_
        refine hK.out _ _ (HM5.out.c14) (fun hHeld => ?_)
        clear hK K
        (try change wpAnyH _ _ _ _ _ _ _ (Act.put _ (some 20) _) _)
        (try simp only [Act.put, List.setIfInBounds_toArray, List.set_cons_zero, List.set_cons_succ])
        refine wpAnyH_take (i := 10) (v := ?v12) rfl (by kernel_rfl) (by kernel_rfl) (by kernel_rfl) (fun _ _ _ h => h) (Or.inl ⟨by kernel_rfl, ?y12⟩) (by assumption) ?r12
        case y12 => (intro W hSW; (try dsimp only at hSW); go_simp; (try with_reducible rfl))
        change wpAnyH _ _ _ _ _ _ _ (Act.put _ (some 10) _) _
        (try simp only [Act.put, List.setIfInBounds_toArray, List.set_cons_zero, List.set_cons_succ])
        refine wpAnyH_take (i := 11) (v := ?v13) rfl (by kernel_rfl) (by kernel_rfl) (by kernel_rfl) (fun _ _ _ h => h) (Or.inl ⟨by kernel_rfl, ?y13⟩) (by assumption) ?r13
        case y13 => (intro W hSW; (try dsimp only at hSW); go_simp; (try with_reducible rfl))
        change wpAnyH _ _ _ _ _ _ _ (Act.put _ (some 21) _) _
        (try simp only [Act.put, List.setIfInBounds_toArray, List.set_cons_zero, List.set_cons_succ])
        refine wpAnyH_take (i := 12) (v := ?v14) rfl (by kernel_rfl) (by kernel_rfl) (by kernel_rfl) (fun _ _ _ h => h) (Or.inl ⟨by kernel_rfl, ?y14⟩) (by assumption) ?r14
        case y14 => (intro W hSW; (try dsimp only at hSW); go_simp; (try with_reducible rfl))
        change wpAnyH _ _ _ _ _ _ _ (Act.put _ (some 22) _) _
        (try simp only [Act.put, List.setIfInBounds_toArray, List.set_cons_zero, List.set_cons_succ])
        refine wpAnyH_ready (rs := [14]) (by kernel_rfl) (by simp) ?_
        refine AllReadyH.cons rfl (fun K hK => ?_) AllReadyH.nil
        rw [if_pos (by rfl)]
        refine wp_store_row 241 (.tmp 4) (.tmp 21) rfl _ #[x, y, z] rfl rfl _ _ HQ5.out (by kernel_rfl) rfl HX.out ?_
        have HBs : Hid (Below r w ((((wc).alloc (.cells #[.nilFunc, .nilFunc, .nilFunc] 241))).setRow (wc.heap.size) #[x, y, z])) := below_row HB5.out HNq.out.2.2 #[x, y, z]
        have HRs : Hid (((((wc).alloc (.cells #[.nilFunc, .nilFunc, .nilFunc] 241))).setRow (wc.heap.size) #[x, y, z]).heap[r]? = some (.cells #[.nilFunc, .nilFunc, .nilFunc] 241)) := (setRow_other ((wc).alloc (.cells #[.nilFunc, .nilFunc, .nilFunc] 241)) #[x, y, z] HNq.out.2.1).trans HR5.out
        have HQs : Hid (((((wc).alloc (.cells #[.nilFunc, .nilFunc, .nilFunc] 241))).setRow (wc.heap.size) #[x, y, z]).heap[wc.heap.size]? = some (.cells #[x, y, z] 241)) := setRow_heap _ _ _ #[x, y, z] _ _ HQ5.out
        have HMs := HM5.out.row HNq.out.1 #[x, y, z]
        refine hK.out _ _ (HMs.c14) (fun hHeld => ?_)
        clear hK K
        (try change wpAnyH _ _ _ _ _ _ _ (Act.put _ (none) _) _)
        (try simp only [Act.put, List.setIfInBounds_toArray, List.set_cons_zero, List.set_cons_succ])
        refine wpAnyH_take (i := 15) (v := ?v15) rfl (by kernel_rfl) (by kernel_rfl) (by kernel_rfl) (fun _ _ _ h => h) (Or.inl ⟨by kernel_rfl, ?y15⟩) (by assumption) ?r15
        case y15 => (intro W hSW; (try dsimp only at hSW); go_simp; (try with_reducible rfl))
        change wpAnyH _ _ _ _ _ _ _ (Act.put _ (some 5) _) _
        (try simp only [Act.put, List.setIfInBounds_toArray, List.set_cons_zero, List.set_cons_succ])
        refine wpAnyH_done (by kernel_rfl) ?_ _
        have q0 : ((((wc).alloc (.cells #[.nilFunc, .nilFunc, .nilFunc] 241))).setRow (wc.heap.size) #[x, y, z]).cell? ⟨wc.heap.size, 0, none⟩ = some x := (cellOf HQs.out 0).trans rfl
        have q1 : ((((wc).alloc (.cells #[.nilFunc, .nilFunc, .nilFunc] 241))).setRow (wc.heap.size) #[x, y, z]).cell? ⟨wc.heap.size, 1, none⟩ = some y := (cellOf HQs.out 1).trans rfl
        have q2 : ((((wc).alloc (.cells #[.nilFunc, .nilFunc, .nilFunc] 241))).setRow (wc.heap.size) #[x, y, z]).cell? ⟨wc.heap.size, 2, none⟩ = some z := (cellOf HQs.out 2).trans rfl
        clear HQs HMs HNq hHeld
        generalize (((wc).alloc (.cells #[.nilFunc, .nilFunc, .nilFunc] 241))).setRow (wc.heap.size) #[x, y, z] = w8 at q0 q1 q2 HBs HRs ⊢
        generalize wc.heap.size = g at q0 q1 q2 ⊢
        go_wp2_with (refine wpList_store_row rfl 241 (.tmp 2) (.tmp 23) rfl _ #[x, y, z] rfl rfl _ _ HRs.out (by kernel_rfl) rfl HX.out ?_)
        exact bodyPost_ret (results_ct (fn := Tryz.f152) rfl _ _ r _ _ (0, 0) _ rfl (setRow_heap _ _ _ #[x, y, z] _ _ HRs.out) Tryz.underlying241 rfl (by kernel_rfl)) rfl ⟨rfl, by rw [HRr.out]; exact below_row HBs.out (Nat.le_refl _) _⟩
    · rw [if_pos (by rfl)]
      go_simp
      have HNq := hide (show b ≠ (wc).heap.size ∧ r ≠ (wc).heap.size ∧ r ≤ (wc).heap.size from ⟨Nat.ne_of_lt HM4.out.lt, Nat.ne_of_lt (Array.getElem?_eq_some_iff.1 HR4.out).1, HZ4.out⟩)
      have hb := bal (wc) (.cells #[.nilFunc, .nilFunc, .nilFunc] 241)
      have HQ5 := hide (heap_alloc_new (wc) (.cells #[.nilFunc, .nilFunc, .nilFunc] 241))
      have HB5 := hide (HB4.out.trans (hb.mono HZ4.out))
      have HZ5 := hide (Nat.le_trans HZ4.out hb.size)
      have HM5 := hide (HM4.out.below hb)
      have HR5 := hide ((hb.block _ (Array.getElem?_eq_some_iff.1 HR4.out).1).trans HR4.out)
      have HC5 := hide (HC4.out.below hb)
      clear hb
      refine hK.out _ _ (HM5.out.c14) (fun hHeld => ?_)
      clear hK K
      (try change wpAnyH _ _ _ _ _ _ _ (Act.put _ (some 4) _) _)
      (try simp only [Act.put, List.setIfInBounds_toArray, List.set_cons_zero, List.set_cons_succ])
      refine wpAnyH_ready (rs := [7]) (by kernel_rfl) (by simp) ?_
      refine AllReadyH.cons rfl (fun K hK => ?_) AllReadyH.nil
      rw [if_pos (by rfl)]
      go_simp
      refine (hasc_at b sl _ HM5.out.c15).mono ?_
      rintro e wh ⟨rfl, hw⟩
      subst hw
      refine hK.out _ _ (HM5.out.c14) (fun hHeld => ?_)
      clear hK K
      (try change wpAnyH _ _ _ _ _ _ _ (Act.put _ (some 18) _) _)
      (try simp only [Act.put, List.setIfInBounds_toArray, List.set_cons_zero, List.set_cons_succ])
      refine wpAnyH_take (i := 8) (v := ?v16) rfl (by kernel_rfl) (by kernel_rfl) (by kernel_rfl) (fun _ _ _ h => h) (Or.inl ⟨by kernel_rfl, ?y16⟩) (by assumption) ?r16
      case y16 => (intro W hSW; (try dsimp only at hSW); go_simp; (try with_reducible rfl))
      change wpAnyH _ _ _ _ _ _ _ (Act.put _ (some 19) _) _
      (try simp only [Act.put, List.setIfInBounds_toArray, List.set_cons_zero, List.set_cons_succ])
      refine wpAnyH_ready (rs := [9]) (by kernel_rfl) (by simp) ?_
      refine AllReadyH.cons rfl (fun K hK => ?_) AllReadyH.nil
      rw [if_pos (by rfl)]
      refine wp_look2 (.tmp 11) (.tmp 19) rfl mb (st, sl != -1) _ _ rfl rfl HC5.out HV.out HOK.out ?_
      refine hK.out _ _ (HM5.out.c14) (fun hHeld => ?_)
      clear hK K
      (try change wpAnyH _ _ _ _ _ _ _ (Act.put _ (some 20) _) _)
      (try simp only [Act.put, List.setIfInBounds_toArray, List.set_cons_zero, List.set_cons_succ])
      refine wpAnyH_take (i := 10) (v := ?v17) rfl (by kernel_rfl) (by kernel_rfl) (by kernel_rfl) (fun _ _ _ h => h) (Or.inl ⟨by kernel_rfl, ?y17⟩) (by assumption) ?r17
      case y17 => (intro W hSW; (try dsimp only at hSW); go_simp; (try with_reducible rfl))
      change wpAnyH _ _ _ _ _ _ _ (Act.put _ (some 10) _) _
      (try simp only [Act.put, List.setIfInBounds_toArray, List.set_cons_zero, List.set_cons_succ])
      refine wpAnyH_take (i := 11) (v := ?v18) rfl (by kernel_rfl) (by kernel_rfl) (by kernel_rfl) (fun _ _ _ h => h) (Or.inl ⟨by kernel_rfl, ?y18⟩) (by assumption) ?r18
      case y18 => (intro W hSW; (try dsimp only at hSW); go_simp; (try with_reducible rfl))
      change wpAnyH _ _ _ _ _ _ _ (Act.put _ (some 21) _) _
      (try simp only [Act.put, List.setIfInBounds_toArray, List.set_cons_zero, List.set_cons_succ])
      refine wpAnyH_take (i := 12) (v := ?v19) rfl (by kernel_rfl) (by kernel_rfl) (by kernel_rfl) (fun _ _ _ h => h) (Or.inl ⟨by kernel_rfl, ?y19⟩) (by assumption) ?r19
      case y19 => (intro W hSW; (try dsimp only at hSW); go_simp; (try with_reducible rfl))
      change wpAnyH _ _ _ _ _ _ _ (Act.put _ (some 22) _) _
      (try simp only [Act.put, List.setIfInBounds_toArray, List.set_cons_zero, List.set_cons_succ])
      refine wpAnyH_ready (rs := [14]) (by kernel_rfl) (by simp) ?_
      refine AllReadyH.cons rfl (fun K hK => ?_) AllReadyH.nil
      rw [if_pos (by rfl)]
      refine wp_store_row 241 (.tmp 4) (.tmp 21) rfl _ #[x, y, z] rfl rfl _ _ HQ5.out (by kernel_rfl) rfl HX.out ?_
      have HBs : Hid (Below r w ((((wc).alloc (.cells #[.nilFunc, .nilFunc, .nilFunc] 241))).setRow (wc.heap.size) #[x, y, z])) := below_row HB5.out HNq.out.2.2 #[x, y, z]
      have HRs : Hid (((((wc).alloc (.cells #[.nilFunc, .nilFunc, .nilFunc] 241))).setRow (wc.heap.size) #[x, y, z]).heap[r]? = some (.cells #[.nilFunc, .nilFunc, .nilFunc] 241)) := (setRow_other ((wc).alloc (.cells #[.nilFunc, .nilFunc, .nilFunc] 241)) #[x, y, z] HNq.out.2.1).trans HR5.out
      have HQs : Hid (((((wc).alloc (.cells #[.nilFunc, .nilFunc, .nilFunc] 241))).setRow (wc.heap.size) #[x, y, z]).heap[wc.heap.size]? = some (.cells #[x, y, z] 241)) := setRow_heap _ _ _ #[x, y, z] _ _ HQ5.out
      have HMs := HM5.out.row HNq.out.1 #[x, y, z]
      refine hK.out _ _ (HMs.c14) (fun hHeld => ?_)
      clear hK K
      (try change wpAnyH _ _ _ _ _ _ _ (Act.put _ (none) _) _)
      (try simp only [Act.put, List.setIfInBounds_toArray, List.set_cons_zero, List.set_cons_succ])
      refine wpAnyH_take (i := 15) (v := ?v20) rfl (by kernel_rfl) (by kernel_rfl) (by kernel_rfl) (fun _ _ _ h => h) (Or.inl ⟨by kernel_rfl, ?y20⟩) (by assumption) ?r20
      case y20 => (intro W hSW; (try dsimp only at hSW); go_simp; (try with_reducible rfl))
      change wpAnyH _ _ _ _ _ _ _ (Act.put _ (some 5) _) _
      (try simp only [Act.put, List.setIfInBounds_toArray, List.set_cons_zero, List.set_cons_succ])
      refine wpAnyH_done (by kernel_rfl) ?_ _
      have q0 : ((((wc).alloc (.cells #[.nilFunc, .nilFunc, .nilFunc] 241))).setRow (wc.heap.size) #[x, y, z]).cell? ⟨wc.heap.size, 0, none⟩ = some x := (cellOf HQs.out 0).trans rfl
      have q1 : ((((wc).alloc (.cells #[.nilFunc, .nilFunc, .nilFunc] 241))).setRow (wc.heap.size) #[x, y, z]).cell? ⟨wc.heap.size, 1, none⟩ = some y := (cellOf HQs.out 1).trans rfl
      have q2 : ((((wc).alloc (.cells #[.nilFunc, .nilFunc, .nilFunc] 241))).setRow (wc.heap.size) #[x, y, z]).cell? ⟨wc.heap.size, 2, none⟩ = some z := (cellOf HQs.out 2).trans rfl
      clear HQs HMs HNq hHeld
      generalize (((wc).alloc (.cells #[.nilFunc, .nilFunc, .nilFunc] 241))).setRow (wc.heap.size) #[x, y, z] = w8 at q0 q1 q2 HBs HRs ⊢
      generalize wc.heap.size = g at q0 q1 q2 ⊢
      go_wp2_with (refine wpList_store_row rfl 241 (.tmp 2) (.tmp 23) rfl _ #[x, y, z] rfl rfl _ _ HRs.out (by kernel_rfl) rfl HX.out ?_)
      exact bodyPost_ret (results_ct (fn := Tryz.f152) rfl _ _ r _ _ (0, 0) _ rfl (setRow_heap _ _ _ #[x, y, z] _ _ HRs.out) Tryz.underlying241 rfl (by kernel_rfl)) rfl ⟨rfl, by rw [HRr.out]; exact below_row HBs.out (Nat.le_refl _) _⟩
  · rw [if_pos (by rfl)]
    go_simp
    have HNq := hide (show b ≠ (w1.drew).heap.size ∧ r ≠ (w1.drew).heap.size ∧ r ≤ (w1.drew).heap.size from ⟨Nat.ne_of_lt HM3.out.lt, Nat.ne_of_lt (Array.getElem?_eq_some_iff.1 HR3.out).1, HZ3.out⟩)
    have hb := bal (w1.drew) (.cells #[.nilFunc, .nilFunc, .nilFunc] 241)
    have HQ4 := hide (heap_alloc_new (w1.drew) (.cells #[.nilFunc, .nilFunc, .nilFunc] 241))
    have HB4 := hide (HB3.out.trans (hb.mono HZ3.out))
    have HZ4 := hide (Nat.le_trans HZ3.out hb.size)
    have HM4 := hide (HM3.out.below hb)
    have HR4 := hide ((hb.block _ (Array.getElem?_eq_some_iff.1 HR3.out).1).trans HR3.out)
    clear hb
    refine hK.out _ _ (HM4.out.c14) (fun hHeld => ?_)
    clear hK K
    (try change wpAnyH _ _ _ _ _ _ _ (Act.put _ (some 4) _) _)
    (try simp only [Act.put, List.setIfInBounds_toArray, List.set_cons_zero, List.set_cons_succ])
    refine wpAnyH_ready (rs := [0]) (by kernel_rfl) (by simp) ?_
    refine AllReadyH.cons rfl (fun K hK => ?_) AllReadyH.nil
    rw [if_pos (by rfl)]
    go_simp
    refine (conducts_at _).mono ?_
    rintro e wc ⟨mb, rfl, hmap, hmz, hb⟩
    have HC5 := hide hmap
    have HB5 := hide (HB4.out.trans (hb.mono HZ4.out))
    have HZ5 := hide (Nat.le_trans HZ4.out hb.size)
    have HM5 := hide (HM4.out.below hb)
    have HR5 := hide ((hb.block _ (Array.getElem?_eq_some_iff.1 HR4.out).1).trans HR4.out)
    have HQ5 := hide ((hb.block _ (Array.getElem?_eq_some_iff.1 HQ4.out).1).trans HQ4.out)
    clear hmap hb
    refine hK.out _ _ (HM5.out.c14) (fun hHeld => ?_)
    clear hK K
    (try change wpAnyH _ _ _ _ _ _ _ (Act.put _ (some 11) _) _)
    (try simp only [Act.put, List.setIfInBounds_toArray, List.set_cons_zero, List.set_cons_succ])
    refine wpAnyH_ready (rs := [7]) (by kernel_rfl) (by simp) ?_
    refine AllReadyH.cons rfl (fun K hK => ?_) AllReadyH.nil
    rw [if_pos (by rfl)]
    go_simp
    refine (hasc_at b sl _ HM5.out.c15).mono ?_
    rintro e wh ⟨rfl, hw⟩
    subst hw
    refine hK.out _ _ (HM5.out.c14) (fun hHeld => ?_)
    clear hK K
    (try change wpAnyH _ _ _ _ _ _ _ (Act.put _ (some 18) _) _)
    (try simp only [Act.put, List.setIfInBounds_toArray, List.set_cons_zero, List.set_cons_succ])
    refine wpAnyH_take (i := 8) (v := ?v21) rfl (by kernel_rfl) (by kernel_rfl) (by kernel_rfl) (fun _ _ _ h => h) (Or.inl ⟨by kernel_rfl, ?y21⟩) (by assumption) ?r21
    case y21 => (intro W hSW; (try dsimp only at hSW); go_simp; (try with_reducible rfl))
    change wpAnyH _ _ _ _ _ _ _ (Act.put _ (some 19) _) _
    (try simp only [Act.put, List.setIfInBounds_toArray, List.set_cons_zero, List.set_cons_succ])
    refine wpAnyH_ready (rs := [9]) (by kernel_rfl) (by simp) ?_
    refine AllReadyH.cons rfl (fun K hK => ?_) AllReadyH.nil
    rw [if_pos (by rfl)]
    refine wp_look2 (.tmp 11) (.tmp 19) rfl mb (st, sl != -1) _ _ rfl rfl HC5.out HV.out HOK.out ?_
    refine hK.out _ _ (HM5.out.c14) (fun hHeld => ?_)
    clear hK K
    (try change wpAnyH _ _ _ _ _ _ _ (Act.put _ (some 20) _) _)
    (try simp only [Act.put, List.setIfInBounds_toArray, List.set_cons_zero, List.set_cons_succ])
    refine wpAnyH_take (i := 10) (v := ?v22) rfl (by kernel_rfl) (by kernel_rfl) (by kernel_rfl) (fun _ _ _ h => h) (Or.inl ⟨by kernel_rfl, ?y22⟩) (by assumption) ?r22
    case y22 => (intro W hSW; (try dsimp only at hSW); go_simp; (try with_reducible rfl))
    change wpAnyH _ _ _ _ _ _ _ (Act.put _ (some 10) _) _
    (try simp only [Act.put, List.setIfInBounds_toArray, List.set_cons_zero, List.set_cons_succ])
    refine wpAnyH_take (i := 11) (v := ?v23) rfl (by kernel_rfl) (by kernel_rfl) (by kernel_rfl) (fun _ _ _ h => h) (Or.inl ⟨by kernel_rfl, ?y23⟩) (by assumption) ?r23
    case y23 => (intro W hSW; (try dsimp only at hSW); go_simp; (try with_reducible rfl))
    change wpAnyH _ _ _ _ _ _ _ (Act.put _ (some 21) _) _
    (try simp only [Act.put, List.setIfInBounds_toArray, List.set_cons_zero, List.set_cons_succ])
    refine wpAnyH_take (i := 12) (v := ?v24) rfl (by kernel_rfl) (by kernel_rfl) (by kernel_rfl) (fun _ _ _ h => h) (Or.inl ⟨by kernel_rfl, ?y24⟩) (by assumption) ?r24
    case y24 => (intro W hSW; (try dsimp only at hSW); go_simp; (try with_reducible rfl))
    change wpAnyH _ _ _ _ _ _ _ (Act.put _ (some 22) _) _
    (try simp only [Act.put, List.setIfInBounds_toArray, List.set_cons_zero, List.set_cons_succ])
    refine wpAnyH_ready (rs := [14]) (by kernel_rfl) (by simp) ?_
    refine AllReadyH.cons rfl (fun K hK => ?_) AllReadyH.nil
    rw [if_pos (by rfl)]
    refine wp_store_row 241 (.tmp 4) (.tmp 21) rfl _ #[x, y, z] rfl rfl _ _ HQ5.out (by kernel_rfl) rfl HX.out ?_
    have HBs : Hid (Below r w ((wc).setRow (w1.heap.size) #[x, y, z])) := below_row HB5.out HNq.out.2.2 #[x, y, z]
    have HRs : Hid (((wc).setRow (w1.heap.size) #[x, y, z]).heap[r]? = some (.cells #[.nilFunc, .nilFunc, .nilFunc] 241)) := (setRow_other wc #[x, y, z] HNq.out.2.1).trans HR5.out
    have HQs : Hid (((wc).setRow (w1.heap.size) #[x, y, z]).heap[w1.heap.size]? = some (.cells #[x, y, z] 241)) := setRow_heap _ _ _ #[x, y, z] _ _ HQ5.out
    have HMs := HM5.out.row HNq.out.1 #[x, y, z]
    refine hK.out _ _ (HMs.c14) (fun hHeld => ?_)
    clear hK K
    (try change wpAnyH _ _ _ _ _ _ _ (Act.put _ (none) _) _)
    (try simp only [Act.put, List.setIfInBounds_toArray, List.set_cons_zero, List.set_cons_succ])
    refine wpAnyH_take (i := 15) (v := ?v25) rfl (by kernel_rfl) (by kernel_rfl) (by kernel_rfl) (fun _ _ _ h => h) (Or.inl ⟨by kernel_rfl, ?y25⟩) (by assumption) ?r25
    case y25 => (intro W hSW; (try dsimp only at hSW); go_simp; (try with_reducible rfl))
    change wpAnyH _ _ _ _ _ _ _ (Act.put _ (some 5) _) _
    (try simp only [Act.put, List.setIfInBounds_toArray, List.set_cons_zero, List.set_cons_succ])
    refine wpAnyH_done (by kernel_rfl) ?_ _
    have q0 : ((wc).setRow (w1.heap.size) #[x, y, z]).cell? ⟨w1.heap.size, 0, none⟩ = some x := (cellOf HQs.out 0).trans rfl
    have q1 : ((wc).setRow (w1.heap.size) #[x, y, z]).cell? ⟨w1.heap.size, 1, none⟩ = some y := (cellOf HQs.out 1).trans rfl
    have q2 : ((wc).setRow (w1.heap.size) #[x, y, z]).cell? ⟨w1.heap.size, 2, none⟩ = some z := (cellOf HQs.out 2).trans rfl
    clear HQs HMs HNq hHeld
    generalize (wc).setRow (w1.heap.size) #[x, y, z] = w8 at q0 q1 q2 HBs HRs ⊢
    generalize w1.heap.size = g at q0 q1 q2 ⊢
    go_wp2_with (refine wpList_store_row rfl 241 (.tmp 2) (.tmp 23) rfl _ #[x, y, z] rfl rfl _ _ HRs.out (by kernel_rfl) rfl HX.out ?_)
    exact bodyPost_ret (results_ct (fn := Tryz.f152) rfl _ _ r _ _ (0, 0) _ rfl (setRow_heap _ _ _ #[x, y, z] _ _ HRs.out) Tryz.underlying241 rfl (by kernel_rfl)) rfl ⟨rfl, by rw [HRr.out]; exact below_row HBs.out (Nat.le_refl _) _⟩
set_option maxRecDepth 100000 in
set_option maxHeartbeats 1000000 in
theorem conduct_nil (w : World) :
    Calls Tryz.prog 152 #[.pointer none] w fun e w' => e = .returned (.tuple #[cvZ, .bool false]) ∧ Below w.heap.size w w' := by
  have hb1 := bal w (.cells #[.nilFunc, .nilFunc, .nilFunc] 241)
  have HR := hide (heap_alloc_new w (.cells #[.nilFunc, .nilFunc, .nilFunc] 241))
  have HB := hide hb1
  have HN3 : Hid (#[Value.nilFunc, .nilFunc, .nilFunc].all (·.oneCell') = true) := by
    show _ = _
    simp [Value.oneCell']
  clear hb1
  go_enter Tryz.func152, Tryz.ntmps152
  go_upto_region 1 with fail
  generalize w.alloc (.cells #[.nilFunc, .nilFunc, .nilFunc] 241) = w1 at HR HB ⊢
  generalize hr : w.heap.size = r at HR HB ⊢
  have HRr := hide hr
  clear hr
  go_wp2_with fail
  refine (isMade_nil _).mono ?_
  rintro e w2 ⟨rfl, hw⟩
  subst hw
  go_wp2_with (refine wpList_store_row rfl 241 (.tmp 2) (.tmp 9) rfl _ #[.nilFunc, .nilFunc, .nilFunc] rfl rfl _ _ HR.out (by kernel_rfl) rfl HN3.out ?_)
  exact bodyPost_ret (results_ct (fn := Tryz.f152) rfl _ _ r _ _ (0, 0) _ rfl (setRow_heap _ _ _ #[.nilFunc, .nilFunc, .nilFunc] _ _ HR.out) Tryz.underlying241 rfl (by kernel_rfl)) rfl ⟨rfl, by rw [HRr.out]; exact below_row HB.out (Nat.le_refl _) _⟩
end Go.Proofs.YtmckidepbibpgaaGreatDoor
