/-
  What the program asks of a link by itself.
-/
import Derived.Test.YtmckidepbibpgaaGreatDoorChkF
import Derived.RegionCalls
namespace Go.Proofs.YtmckidepbibpgaaGreatDoor
open Go.RowKit Go.Deep
set_option linter.unusedVariables false
set_option linter.unusedSimpArgs false

theorem portB_size {p : Po} (h : PortB p = true) : 1 ≤ p.size ∧ p.size ≤ 32 := by
  unfold PortB at h
  simp only [Bool.and_eq_true, inB, decide_eq_true_eq] at h
  exact h.1.1.2

/-- may it be a port that a link of this one goes to? -/
def DestOk (c : Conf) (s : Po) (z : Int) : Prop := ofB z c.ports.length = true ∧ (c.ports.getD z.toNat default).dir = 2 ∧ (c.ports.getD z.toNat default).kind = s.kind ∧ (c.ports.getD z.toNat default).size = s.size
instance (c : Conf) (s : Po) (z : Int) : Decidable (DestOk c s z) := by unfold DestOk; infer_instance
/-- may a link be by itself? -/
def LinkOk (c : Conf) (l : Lk) : Prop := ofB l.source c.ports.length = true ∧ (c.ports.getD l.source.toNat default).dir = 1 ∧ l.dests ≠ [] ∧ (∀ k, k < l.dests.length → DestOk c (c.ports.getD l.source.toNat default) (l.dests.getD k 0)) ∧
  inB l.offset 0 (64 - (1 + (c.ports.getD l.source.toNat default).size)) = true
instance (c : Conf) (l : Lk) : Decidable (LinkOk c l) := by unfold LinkOk; infer_instance

/-- a link in a block of a function's own -/
structure LkAt (W : World) (b : Nat) (s : Int) (A : Option Addr) (n m : Nat) (o : Int) : Prop where
  lt : b < W.heap.size
  c0 : W.cell? ⟨b, 0, none⟩ = some (.int .i64 s)
  c1 : W.cell? ⟨b, 1, none⟩ = some (.slice A n m)
  c2 : W.cell? ⟨b, 2, none⟩ = some (.int .i64 o)
theorem LkAt.below {w w' : World} {b B : Nat} {s : Int} {A : Option Addr} {n m : Nat} {o : Int} (h : LkAt w b s A n m o) (hb : Below B w w') (hB : w.heap.size ≤ B) : LkAt w' b s A n m o :=
  ⟨Nat.lt_of_lt_of_le h.lt hb.size, cell_below hb hB h.lt h.c0, cell_below hb hB h.lt h.c1, cell_below hb hB h.lt h.c2⟩
theorem lk_new (w : World) (s : Int) (A : Option Addr) (n m : Nat) (o : Int) (t : TypeId) : LkAt (w.alloc (.cells #[.int .i64 s, .slice A n m, .int .i64 o] t)) w.heap.size s A n m o := by
  have h : ∀ k v, (#[.int .i64 s, .slice A n m, .int .i64 o] : Array Value)[k]? = some v → (w.alloc (.cells #[.int .i64 s, .slice A n m, .int .i64 o] t)).cell? ⟨w.heap.size, k, none⟩ = some v := fun k v hv => by
    unfold World.cell?
    rw [heap_alloc_new]
    exact hv
  exact ⟨alloc_lt w _, h 0 _ rfl, h 1 _ rfl, h 2 _ rfl⟩

/-- what stands while a link is looked at -/
structure LkS (w W : World) (c : Conf) (d : Ad) (s : Int) (A : Option Addr) (l : List Int) (m : Nat) (o : Int) : Prop where
  cf : CfS w W c d
  k : LkAt W (w.heap.size + 1) s A l.length m o
  i : Ints W A l
theorem LkS.below {w W W' : World} {c : Conf} {d : Ad} {s : Int} {A : Option Addr} {l : List Int} {m : Nat} {o : Int} (h : LkS w W c d s A l m o) (hb : Below W.heap.size W W') : LkS w W' c d s A l m o :=
  ⟨h.cf.below hb, h.k.below hb (Nat.le_refl _), h.i.of_below hb (Nat.le_refl _)⟩
theorem LkS.first {w : World} {c : Conf} {d : Ad} {s : Int} {A : Option Addr} {l : List Int} {m : Nat} {o : Int} (t u : TypeId) (hg : Glo w) (h : ConfAt w c d) (hi : Ints w A l) :
    LkS w ((w.alloc (.cells (c.cells d) t)).alloc (.cells #[.int .i64 s, .slice A l.length m, .int .i64 o] u)) c d s A l m o := by
  have h1 := CfS.first t hg h
  have h2 := (Below.refl (w.alloc (.cells (c.cells d) t)).heap.size (w.alloc (.cells (c.cells d) t))).alloc (Nat.le_refl _) (.cells #[.int .i64 s, .slice A l.length m, .int .i64 o] u)
  have h3 := lk_new (w.alloc (.cells (c.cells d) t)) s A l.length m o u
  rw [show (w.alloc (.cells (c.cells d) t)).heap.size = w.heap.size + 1 from Array.size_push _] at h3
  exact ⟨h1.below h2, h3, (hi.of_below h1.bel (Nat.le_refl _)).of_below h2 (Nat.le_refl _)⟩

theorem LkP.below {w W W' : World} {c : Conf} {d : Ad} {s : Int} {A : Option Addr} {l : List Int} {m : Nat} {o : Int} {b : Nat} {p : Po} (h : LkS w W c d s A l m o ∧ PoAt W b p) (hb : Below W.heap.size W W') : LkS w W' c d s A l m o ∧ PoAt W' b p :=
  ⟨h.1.below hb, h.2.below hb (Nat.le_refl _)⟩
theorem Ports.here {w : World} {b off : Nat} {l : List Po} (h : Ports w (some ⟨b, off, none⟩) l) {k : Nat} (hk : k < l.length) :
    w.cell? ⟨b, off + k * 6, none⟩ = some (.int .i64 (l.getD k default).part) ∧ w.cell? ⟨b, off + k * 6 + 1, none⟩ = some (.int .i64 (l.getD k default).kind) ∧ w.cell? ⟨b, off + k * 6 + 2, none⟩ = some (.int .i64 (l.getD k default).dir) ∧
      w.cell? ⟨b, off + k * 6 + 3, none⟩ = some (.int .i64 (l.getD k default).size) ∧ w.cell? ⟨b, off + k * 6 + 4, none⟩ = some (.int .i64 (l.getD k default).depth) ∧ w.cell? ⟨b, off + k * 6 + 5, none⟩ = some (.int .i64 (l.getD k default).fresh) := by
  obtain ⟨b', off', e, _, h⟩ := h.at hk
  cases e
  exact h
theorem lk_port {w : World} {c : Conf} {d : Ad} {s : Int} {A : Option Addr} {l : List Int} {m : Nat} {o : Int} {p : Po} {t u : TypeId} (v : TypeId) (h : LkS w ((w.alloc (.cells (c.cells d) t)).alloc (.cells #[.int .i64 s, .slice A l.length m, .int .i64 o] u)) c d s A l m o) :
    LkS w (((w.alloc (.cells (c.cells d) t)).alloc (.cells #[.int .i64 s, .slice A l.length m, .int .i64 o] u)).alloc (.cells p.cells v)) c d s A l m o ∧
      PoAt (((w.alloc (.cells (c.cells d) t)).alloc (.cells #[.int .i64 s, .slice A l.length m, .int .i64 o] u)).alloc (.cells p.cells v)) (w.heap.size + 2) p := by
  have h3 := po_new ((w.alloc (.cells (c.cells d) t)).alloc (.cells #[.int .i64 s, .slice A l.length m, .int .i64 o] u)) p v
  rw [show ((w.alloc (.cells (c.cells d) t)).alloc (.cells #[.int .i64 s, .slice A l.length m, .int .i64 o] u)).heap.size = w.heap.size + 2 from (Array.size_push _).trans (congrArg (· + 1) (Array.size_push _))] at h3
  exact ⟨h.below ((Below.refl _ _).alloc (Nat.le_refl _) _), h3⟩

set_option maxRecDepth 100000 in
set_option maxHeartbeats 16000000 in
theorem link_any (c : Conf) (d : Ad) (l : Lk) (Ai : Option Addr) (ci : Nat) (w : World) (hg : Glo w) (h : ConfAt w c d) (hi : Ints w Ai l.dests) (hci : l.dests.length ≤ ci) (hcm : ci ≤ maxLen) (hP : ∀ k, k < c.ports.length → PortB (c.ports.getD k default) = true) :
    Calls Tryz.prog 227 #[c.val d, .agg #[.int .i64 l.source, .slice Ai l.dests.length ci, .int .i64 l.offset]] w fun e w' => e = .returned (.bool (decide (LinkOk c l))) ∧ Below w.heap.size w w' := by
  have hS := LkS.first (s := l.source) (m := ci) (o := l.offset) 28 70 hg h hi
  clear hg h hi
  obtain ⟨oA, oC, pA, pC, wA, wC, qA, qC, lA, lC⟩ := d
  obtain ⟨source, dests, offset⟩ := l
  unfold Conf.val
  unfold Conf.cells at hS
  dsimp only at hS hci ⊢
  obtain ⟨⟨hb, ⟨hl, e0, e1, e2, e3, e4, e5, e6, e7, e8, e9, e10, e11⟩, hg, hc⟩, ⟨hkl, k0, k1, k2⟩, hi⟩ := id hS
  dsimp only at e1 e8 e9 e10 e11
  go_enter Tryz.func227, Tryz.ntmps227
  by_cases ho : ofB source c.ports.length = true
  · have ho2 := ho
    simp only [ofB, Bool.and_eq_true, decide_eq_true_eq] at ho2
    obtain ⟨u1, u2⟩ := ho2
    obtain ⟨s, rfl⟩ := Int.eq_ofNat_of_zero_le u1
    have hsl : s < c.ports.length := by omega
    obtain ⟨pb, po, hA, hpb, x0, x1, x2, x3, x4, x5⟩ := hc.ports.at hsl
    dsimp only at hA
    subst hA
    have hPs := hP s hsl
    obtain ⟨sp, hsp⟩ : ∃ p, c.ports.getD s default = p := ⟨_, rfl⟩
    rw [hsp] at x0 x1 x2 x3 x4 x5 hPs
    have HO := hide ho
    have HSP := hide hsp
    have HI := hide hi
    clear ho hsp hi hc hg
    by_cases hdir : sp.dir = 1
    · by_cases hne : dests.length = 0
      · have H : Hid (decide (LinkOk c ⟨s, dests, offset⟩) = false) := by
          show _ = _
          rw [decide_eq_false_iff_not]
          rintro ⟨_, _, a, _⟩
          exact a (List.eq_nil_of_length_eq_zero hne)
        have hnb : (((dests.length : Nat) : Int) == 0) = true := by simp; exact List.eq_nil_of_length_eq_zero hne
        have hdb : (sp.dir != 1) = false := by simp [hdir]
        clear hdir hne
        go_wp2_with (go_at_call 269; refine (of_ports _ _ _ _ _).mono ?_; rintro e w1 ⟨rfl, rfl⟩; rw [HO.out])
        go_ret
        exact ⟨by rw [H.out]; rfl, hb⟩
      · obtain ⟨spart, skind, sdir, ssize, sdepth, sfresh⟩ := sp
        dsimp only at hdir x0 x1 x2 x3 x4 x5
        subst hdir
        have hnb : (((dests.length : Nat) : Int) == 0) = false := by rw [beq_eq_false_iff_ne]; omega
        have HT1 := hide (show LkS w _ c ⟨oA, oC, pA, pC, wA, wC, some ⟨pb, po, none⟩, qC, lA, lC⟩ s Ai dests ci offset ∧ PoAt _ (w.heap.size + 2) ⟨spart, skind, 1, ssize, sdepth, sfresh⟩ from lk_port 47 hS)
        have HPS := hide hPs
        have hdm : dests.length ≤ 9223372036854775807 := Nat.le_trans hci hcm
        unfold Po.cells at HT1
        dsimp only at HT1
        clear hS hPs
        go_upto_region 5 with (go_at_call 269; refine (of_ports _ _ _ _ _).mono ?_; rintro e w1 ⟨rfl, rfl⟩; rw [HO.out])
        clear hb hl e0 e1 e2 e3 e4 e5 e6 e7 e8 e9 e10 e11 hkl k0 k1 k2 x0 x1 x2 x3 x4 x5
        (try simp only [hnb])
        go_loopw [39] (fun i W => ∃ j : Nat, j ≤ dests.length ∧ i = .int .i64 j ∧ (LkS w W c ⟨oA, oC, pA, pC, wA, wC, some ⟨pb, po, none⟩, qC, lA, lC⟩ s Ai dests ci offset ∧ PoAt W (w.heap.size + 2) ⟨spart, skind, 1, ssize, sdepth, sfresh⟩) ∧ Hid (∀ t, t < j → DestOk c ⟨spart, skind, 1, ssize, sdepth, sfresh⟩ (dests.getD t 0))) (fun i _ => dests.length - (intOf i).toNat)
        case atStart => exact ⟨0, by omega, rfl, HT1.out, fun t ht => by omega⟩
        case round =>
-- LOOP
            obtain ⟨j, hj, rfl, hT, H⟩ := hrel
            by_cases hjl : j < dests.length
            · obtain ⟨⟨⟨hb, ⟨hl, e0, e1, e2, e3, e4, e5, e6, e7, e8, e9, e10, e11⟩, hg, hc⟩, ⟨hkl, k0, k1, k2⟩, hi⟩, ⟨hpl, y0, y1, y2, y3, y4, y5⟩⟩ := id hT
              dsimp only at e1 e8 e9 e10 e11 y0 y1 y2 y3 y4 y5
              obtain ⟨ab, ao, hAi, hab, g0⟩ := hi.at hjl
              subst hAi
              obtain ⟨z, hz⟩ : ∃ z, dests.getD j 0 = z := ⟨_, rfl⟩
              rw [hz] at g0
              have HN : Hid (DestOk c ⟨spart, skind, 1, ssize, sdepth, sfresh⟩ z → ∀ t, t < j + 1 → DestOk c ⟨spart, skind, 1, ssize, sdepth, sfresh⟩ (dests.getD t 0)) := fun g t ht => by
                rcases Nat.lt_succ_iff_lt_or_eq.1 ht with h5 | rfl
                · exact H.out t h5
                · rw [hz]; exact g
              have HF : Hid (¬ DestOk c ⟨spart, skind, 1, ssize, sdepth, sfresh⟩ z → decide (LinkOk c ⟨s, dests, offset⟩) = false) := fun g => by
                rw [decide_eq_false_iff_not]
                rintro ⟨_, _, _, a, _⟩
                have a1 := a j hjl
                dsimp only at a1
                rw [show c.ports.getD ((s : Int)).toNat default = ⟨spart, skind, 1, ssize, sdepth, sfresh⟩ from HSP.out, hz] at a1
                exact g a1
              clear H hz
              by_cases hzo : ofB z c.ports.length = true
              · have HZ := hide hzo
                have hz2 := hzo
                simp only [ofB, Bool.and_eq_true, decide_eq_true_eq] at hz2
                obtain ⟨v1, v2⟩ := hz2
                obtain ⟨zn, rfl⟩ := Int.eq_ofNat_of_zero_le v1
                obtain ⟨t0, t1, t2, t3, t4, t5⟩ := hc.ports.here (k := zn) (by omega)
                obtain ⟨zp, hzp⟩ : ∃ p, c.ports.getD zn default = p := ⟨_, rfl⟩
                rw [hzp] at t0 t1 t2 t3 t4 t5
                obtain ⟨zpart, zkind, zdir, zsize, zdepth, zfresh⟩ := zp
                dsimp only at t0 t1 t2 t3 t4 t5
                have HZP := hide hzp
                have HD : Hid (DestOk c ⟨spart, skind, 1, ssize, sdepth, sfresh⟩ zn ↔ zdir = 2 ∧ zkind = skind ∧ zsize = ssize) := by
                  show _ ↔ _
                  unfold DestOk
                  rw [show c.ports.getD ((zn : Int)).toNat default = ⟨zpart, zkind, zdir, zsize, zdepth, zfresh⟩ from HZP.out]
                  exact ⟨fun g => g.2, fun g => ⟨HZ.out, g⟩⟩
                clear hzo hzp hc hg hi
                by_cases d1 : zdir = 2
                · subst d1
                  by_cases d2 : zkind = skind
                  · subst d2
                    by_cases d3 : zsize = ssize
                    · subst d3
                      have HK := hide (HN.out (HD.out.2 ⟨rfl, rfl, rfl⟩))
                      go_wp2_with fail
                      have hT' := hide (show LkS w wr.drew c ⟨oA, oC, pA, pC, wA, wC, some ⟨pb, po, none⟩, qC, lA, lC⟩ s (some ⟨ab, ao, none⟩) dests ci offset ∧ PoAt wr.drew (w.heap.size + 2) ⟨spart, zkind, 1, zsize, sdepth, sfresh⟩ from ⟨hT.1.below (Below.refl _ _).drew, hT.2.below (Below.refl _ _).drew (Nat.le_refl _)⟩)
                      refine wp_region_held_drew (S := fun w' => w'.cell? ⟨w.heap.size, 10, none⟩ = some (.slice (some ⟨pb, po, none⟩) c.ports.length qC) ∧ w'.cell? ⟨w.heap.size + 2, 1, none⟩ = some (.int .i64 zkind) ∧ w'.cell? ⟨w.heap.size + 2, 3, none⟩ = some (.int .i64 zsize) ∧ w'.cell? ⟨pb, po + zn * 6 + 2, none⟩ = some (.int .i64 2) ∧ w'.cell? ⟨pb, po + zn * 6 + 1, none⟩ = some (.int .i64 zkind) ∧ w'.cell? ⟨pb, po + zn * 6 + 3, none⟩ = some (.int .i64 zsize)) (by kernel_rfl) (⟨e10, y1, y3, t2, t1, t3⟩) (fun hHeld => ?_)
                      refine wpAnyH_take (i := 0) (v := ?v1_0) rfl (by kernel_rfl) (by kernel_rfl) (by kernel_rfl) (fun _ _ _ h => h) (Or.inl ⟨by kernel_rfl, ?y1_0⟩) (by assumption) ?r1_0
                      case y1_0 => (intro W hSW; (try dsimp only at hSW); go_simp; (try with_reducible rfl))
                      change wpAnyH _ _ _ _ _ _ _ (Act.put _ (some 43) _) _
                      (try simp only [Act.put, List.setIfInBounds_toArray, List.set_cons_zero, List.set_cons_succ])
                      refine wpAnyH_take (i := 1) (v := ?v1_1) rfl (by kernel_rfl) (by kernel_rfl) (by kernel_rfl) (fun _ _ _ h => h) (Or.inl ⟨by kernel_rfl, ?y1_1⟩) (by assumption) ?r1_1
                      case y1_1 => (intro W hSW; (try dsimp only at hSW); go_simp; (try with_reducible rfl))
                      change wpAnyH _ _ _ _ _ _ _ (Act.put _ (some 44) _) _
                      (try simp only [Act.put, List.setIfInBounds_toArray, List.set_cons_zero, List.set_cons_succ])
                      refine wpAnyH_take (i := 2) (v := ?v1_2) rfl (by kernel_rfl) (by kernel_rfl) (by kernel_rfl) (fun _ _ _ h => h) (Or.inl ⟨by kernel_rfl, ?y1_2⟩) (by assumption) ?r1_2
                      case y1_2 => (intro W hSW; (try dsimp only at hSW); go_simp; (try with_reducible rfl))
                      change wpAnyH _ _ _ _ _ _ _ (Act.put _ (some 45) _) _
                      (try simp only [Act.put, List.setIfInBounds_toArray, List.set_cons_zero, List.set_cons_succ])
                      refine wpAnyH_ready (rs := [3]) (by kernel_rfl) (by simp) ?_
                      refine AllReadyH.cons rfl (fun K hK => ?_) AllReadyH.nil
                      rw [if_pos (by rfl)]
                      go_simp
                      refine (of_ports _ _ _ _ _).mono ?_
                      rintro e w1 ⟨rfl, rfl⟩
                      rw [HZ.out]
                      go_wp2_with fail
                      refine hK.out _ _ (⟨e10, y1, y3, t2, t1, t3⟩) (fun hHeld => ?_)
                      clear hK K
                      (try simp only [Act.put, List.setIfInBounds_toArray, List.set_cons_zero, List.set_cons_succ])
                      refine wpAnyH_take (i := 4) (v := ?v1_4) rfl (by kernel_rfl) (by kernel_rfl) (by kernel_rfl) (fun _ _ _ h => h) (Or.inl ⟨by kernel_rfl, ?y1_4⟩) (by assumption) ?r1_4
                      case y1_4 => (intro W hSW; (try dsimp only at hSW); go_simp; (try with_reducible rfl))
                      change wpAnyH _ _ _ _ _ _ _ (Act.put _ (some 47) _) _
                      (try simp only [Act.put, List.setIfInBounds_toArray, List.set_cons_zero, List.set_cons_succ])
                      refine wpAnyH_take (i := 5) (v := ?v1_5) rfl (by kernel_rfl) (by kernel_rfl) (by kernel_rfl) (fun _ _ _ h => h) (Or.inl ⟨by kernel_rfl, ?y1_5⟩) (by assumption) ?r1_5
                      case y1_5 => (intro W hSW; (try dsimp only at hSW); go_simp; (try with_reducible rfl))
                      change wpAnyH _ _ _ _ _ _ _ (Act.put _ (some 48) _) _
                      (try simp only [Act.put, List.setIfInBounds_toArray, List.set_cons_zero, List.set_cons_succ])
                      refine wpAnyH_take (i := 6) (v := ?v1_6) rfl (by kernel_rfl) (by kernel_rfl) (by kernel_rfl) (fun _ _ _ h => h) (Or.inl ⟨by kernel_rfl, ?y1_6⟩) (by assumption) ?r1_6
                      case y1_6 => (intro W hSW; (try dsimp only at hSW); go_simp; (try with_reducible rfl))
                      change wpAnyH _ _ _ _ _ _ _ (Act.put _ (some 49) _) _
                      (try simp only [Act.put, List.setIfInBounds_toArray, List.set_cons_zero, List.set_cons_succ])
                      refine wpAnyH_take (i := 7) (v := ?v1_7) rfl (by kernel_rfl) (by kernel_rfl) (by kernel_rfl) (fun _ _ _ h => h) (Or.inl ⟨by kernel_rfl, ?y1_7⟩) (by assumption) ?r1_7
                      case y1_7 => (intro W hSW; (try dsimp only at hSW); go_simp; (try with_reducible rfl))
                      change wpAnyH _ _ _ _ _ _ _ (Act.put _ (some 50) _) _
                      (try simp only [Act.put, List.setIfInBounds_toArray, List.set_cons_zero, List.set_cons_succ])
                      refine wpAnyH_take (i := 8) (v := ?v1_8) rfl (by kernel_rfl) (by kernel_rfl) (by kernel_rfl) (fun _ _ _ h => h) (Or.inl ⟨by kernel_rfl, ?y1_8⟩) (by assumption) ?r1_8
                      case y1_8 => (intro W hSW; (try dsimp only at hSW); go_simp; (try with_reducible rfl))
                      change wpAnyH _ _ _ _ _ _ _ (Act.put _ (some 51) _) _
                      (try simp only [Act.put, List.setIfInBounds_toArray, List.set_cons_zero, List.set_cons_succ])
                      refine wpAnyH_take (i := 9) (v := ?v1_9) rfl (by kernel_rfl) (by kernel_rfl) (by kernel_rfl) (fun _ _ _ h => h) (Or.inl ⟨by kernel_rfl, ?y1_9⟩) (by assumption) ?r1_9
                      case y1_9 => (intro W hSW; (try dsimp only at hSW); go_simp; (try with_reducible rfl))
                      change wpAnyH _ _ _ _ _ _ _ (Act.put _ (some 52) _) _
                      (try simp only [Act.put, List.setIfInBounds_toArray, List.set_cons_zero, List.set_cons_succ])
                      refine wpAnyH_take (i := 10) (v := ?v1_10) rfl (by kernel_rfl) (by kernel_rfl) (by kernel_rfl) (fun _ _ _ h => h) (Or.inl ⟨by kernel_rfl, ?y1_10⟩) (by assumption) ?r1_10
                      case y1_10 => (intro W hSW; (try dsimp only at hSW); go_simp; (try with_reducible rfl))
                      change wpAnyH _ _ _ _ _ _ _ (Act.put _ (some 53) _) _
                      (try simp only [Act.put, List.setIfInBounds_toArray, List.set_cons_zero, List.set_cons_succ])
                      refine wpAnyH_take (i := 11) (v := ?v1_11) rfl (by kernel_rfl) (by kernel_rfl) (by kernel_rfl) (fun _ _ _ h => h) (Or.inl ⟨by kernel_rfl, ?y1_11⟩) (by assumption) ?r1_11
                      case y1_11 => (intro W hSW; (try dsimp only at hSW); go_simp; (try with_reducible rfl))
                      change wpAnyH _ _ _ _ _ _ _ (Act.put _ (some 54) _) _
                      (try simp only [Act.put, List.setIfInBounds_toArray, List.set_cons_zero, List.set_cons_succ])
                      refine wpAnyH_take (i := 12) (v := ?v1_12) rfl (by kernel_rfl) (by kernel_rfl) (by kernel_rfl) (fun _ _ _ h => h) (Or.inl ⟨by kernel_rfl, ?y1_12⟩) (by assumption) ?r1_12
                      case y1_12 => (intro W hSW; (try dsimp only at hSW); go_simp; (try with_reducible rfl))
                      change wpAnyH _ _ _ _ _ _ _ (Act.put _ (some 55) _) _
                      (try simp only [Act.put, List.setIfInBounds_toArray, List.set_cons_zero, List.set_cons_succ])
                      refine wpAnyH_take (i := 13) (v := ?v1_13) rfl (by kernel_rfl) (by kernel_rfl) (by kernel_rfl) (fun _ _ _ h => h) (Or.inl ⟨by kernel_rfl, ?y1_13⟩) (by assumption) ?r1_13
                      case y1_13 => (intro W hSW; (try dsimp only at hSW); go_simp; (try with_reducible rfl))
                      change wpAnyH _ _ _ _ _ _ _ (Act.put _ (some 56) _) _
                      (try simp only [Act.put, List.setIfInBounds_toArray, List.set_cons_zero, List.set_cons_succ])
                      refine wpAnyH_take (i := 14) (v := ?v1_14) rfl (by kernel_rfl) (by kernel_rfl) (by kernel_rfl) (fun _ _ _ h => h) (Or.inl ⟨by kernel_rfl, ?y1_14⟩) (by assumption) ?r1_14
                      case y1_14 => (intro W hSW; (try dsimp only at hSW); go_simp; (try with_reducible rfl))
                      change wpAnyH _ _ _ _ _ _ _ (Act.put _ (some 57) _) _
                      (try simp only [Act.put, List.setIfInBounds_toArray, List.set_cons_zero, List.set_cons_succ])
                      refine wpAnyH_take (i := 15) (v := ?v1_15) rfl (by kernel_rfl) (by kernel_rfl) (by kernel_rfl) (fun _ _ _ h => h) (Or.inl ⟨by kernel_rfl, ?y1_15⟩) (by assumption) ?r1_15
                      case y1_15 => (intro W hSW; (try dsimp only at hSW); go_simp; (try with_reducible rfl))
                      change wpAnyH _ _ _ _ _ _ _ (Act.put _ (some 58) _) _
                      (try simp only [Act.put, List.setIfInBounds_toArray, List.set_cons_zero, List.set_cons_succ])
                      refine wpAnyH_take (i := 16) (v := ?v1_16) rfl (by kernel_rfl) (by kernel_rfl) (by kernel_rfl) (fun _ _ _ h => h) (Or.inl ⟨by kernel_rfl, ?y1_16⟩) (by assumption) ?r1_16
                      case y1_16 => (intro W hSW; (try dsimp only at hSW); go_simp; (try with_reducible rfl))
                      change wpAnyH _ _ _ _ _ _ _ (Act.put _ (some 59) _) _
                      (try simp only [Act.put, List.setIfInBounds_toArray, List.set_cons_zero, List.set_cons_succ])
                      refine wpAnyH_take (i := 17) (v := ?v1_17) rfl (by kernel_rfl) (by kernel_rfl) (by kernel_rfl) (fun _ _ _ h => h) (Or.inl ⟨by kernel_rfl, ?y1_17⟩) (by assumption) ?r1_17
                      case y1_17 => (intro W hSW; (try dsimp only at hSW); go_simp; (try with_reducible rfl))
                      change wpAnyH _ _ _ _ _ _ _ (Act.put _ (some 60) _) _
                      (try simp only [Act.put, List.setIfInBounds_toArray, List.set_cons_zero, List.set_cons_succ])
                      refine wpAnyH_take (i := 18) (v := ?v1_18) rfl (by kernel_rfl) (by kernel_rfl) (by kernel_rfl) (fun _ _ _ h => h) (Or.inl ⟨by kernel_rfl, ?y1_18⟩) (by assumption) ?r1_18
                      case y1_18 => (intro W hSW; (try dsimp only at hSW); go_simp; (try with_reducible rfl))
                      change wpAnyH _ _ _ _ _ _ _ (Act.put _ (some 61) _) _
                      (try simp only [Act.put, List.setIfInBounds_toArray, List.set_cons_zero, List.set_cons_succ])
                      refine wpAnyH_take (i := 19) (v := ?v1_19) rfl (by kernel_rfl) (by kernel_rfl) (by kernel_rfl) (fun _ _ _ h => h) (Or.inl ⟨by kernel_rfl, ?y1_19⟩) (by assumption) ?r1_19
                      case y1_19 => (intro W hSW; (try dsimp only at hSW); go_simp; (try with_reducible rfl))
                      change wpAnyH _ _ _ _ _ _ _ (Act.put _ (some 62) _) _
                      (try simp only [Act.put, List.setIfInBounds_toArray, List.set_cons_zero, List.set_cons_succ])
                      refine wpAnyH_take (i := 20) (v := ?v1_20) rfl (by kernel_rfl) (by kernel_rfl) (by kernel_rfl) (fun _ _ _ h => h) (Or.inl ⟨by kernel_rfl, ?y1_20⟩) (by assumption) ?r1_20
                      case y1_20 => (intro W hSW; (try dsimp only at hSW); go_simp; (try with_reducible rfl))
                      change wpAnyH _ _ _ _ _ _ _ (Act.put _ (some 63) _) _
                      (try simp only [Act.put, List.setIfInBounds_toArray, List.set_cons_zero, List.set_cons_succ])
                      refine wpAnyH_take (i := 21) (v := ?v1_21) rfl (by kernel_rfl) (by kernel_rfl) (by kernel_rfl) (fun _ _ _ h => h) (Or.inl ⟨by kernel_rfl, ?y1_21⟩) (by assumption) ?r1_21
                      case y1_21 => (intro W hSW; (try dsimp only at hSW); go_simp; (try with_reducible rfl))
                      change wpAnyH _ _ _ _ _ _ _ (Act.put _ (some 64) _) _
                      (try simp only [Act.put, List.setIfInBounds_toArray, List.set_cons_zero, List.set_cons_succ])
                      refine wpAnyH_take (i := 22) (v := ?v1_22) rfl (by kernel_rfl) (by kernel_rfl) (by kernel_rfl) (fun _ _ _ h => h) (Or.inl ⟨by kernel_rfl, ?y1_22⟩) (by assumption) ?r1_22
                      case y1_22 => (intro W hSW; (try dsimp only at hSW); go_simp; (try with_reducible rfl))
                      change wpAnyH _ _ _ _ _ _ _ (Act.put _ (some 65) _) _
                      (try simp only [Act.put, List.setIfInBounds_toArray, List.set_cons_zero, List.set_cons_succ])
                      refine wpAnyH_take (i := 23) (v := ?v1_23) rfl (by kernel_rfl) (by kernel_rfl) (by kernel_rfl) (fun _ _ _ h => h) (Or.inl ⟨by kernel_rfl, ?y1_23⟩) (by assumption) ?r1_23
                      case y1_23 => (intro W hSW; (try dsimp only at hSW); go_simp; (try with_reducible rfl))
                      change wpAnyH _ _ _ _ _ _ _ (Act.put _ (some 66) _) _
                      (try simp only [Act.put, List.setIfInBounds_toArray, List.set_cons_zero, List.set_cons_succ])
                      refine wpAnyH_take (i := 24) (v := ?v1_24) rfl (by kernel_rfl) (by kernel_rfl) (by kernel_rfl) (fun _ _ _ h => h) (Or.inl ⟨by kernel_rfl, ?y1_24⟩) (by assumption) ?r1_24
                      case y1_24 => (intro W hSW; (try dsimp only at hSW); go_simp; (try with_reducible rfl))
                      change wpAnyH _ _ _ _ _ _ _ (Act.put _ (some 67) _) _
                      (try simp only [Act.put, List.setIfInBounds_toArray, List.set_cons_zero, List.set_cons_succ])
                      refine wpAnyH_take (i := 25) (v := ?v1_25) rfl (by kernel_rfl) (by kernel_rfl) (by kernel_rfl) (fun _ _ _ h => h) (Or.inl ⟨by kernel_rfl, ?y1_25⟩) (by assumption) ?r1_25
                      case y1_25 => (intro W hSW; (try dsimp only at hSW); go_simp; (try with_reducible rfl))
                      change wpAnyH _ _ _ _ _ _ _ (Act.put _ (some 68) _) _
                      (try simp only [Act.put, List.setIfInBounds_toArray, List.set_cons_zero, List.set_cons_succ])
                      refine wpAnyH_take (i := 26) (v := ?v1_26) rfl (by kernel_rfl) (by kernel_rfl) (by kernel_rfl) (fun _ _ _ h => h) (Or.inl ⟨by kernel_rfl, ?y1_26⟩) (by assumption) ?r1_26
                      case y1_26 => (intro W hSW; (try dsimp only at hSW); go_simp; (try with_reducible rfl))
                      change wpAnyH _ _ _ _ _ _ _ (Act.put _ (some 69) _) _
                      (try simp only [Act.put, List.setIfInBounds_toArray, List.set_cons_zero, List.set_cons_succ])
                      refine wpAnyH_take (i := 27) (v := ?v1_27) rfl (by kernel_rfl) (by kernel_rfl) (by kernel_rfl) (fun _ _ _ h => h) (Or.inl ⟨by kernel_rfl, ?y1_27⟩) (by assumption) ?r1_27
                      case y1_27 => (intro W hSW; (try dsimp only at hSW); go_simp; (try with_reducible rfl))
                      change wpAnyH _ _ _ _ _ _ _ (Act.put _ (some 70) _) _
                      (try simp only [Act.put, List.setIfInBounds_toArray, List.set_cons_zero, List.set_cons_succ])
                      refine wpAnyH_take (i := 28) (v := ?v1_28) rfl (by kernel_rfl) (by kernel_rfl) (by kernel_rfl) (fun _ _ _ h => h) (Or.inl ⟨by kernel_rfl, ?y1_28⟩) (by assumption) ?r1_28
                      case y1_28 => (intro W hSW; (try dsimp only at hSW); go_simp; (try with_reducible rfl))
                      change wpAnyH _ _ _ _ _ _ _ (Act.put _ (some 71) _) _
                      (try simp only [Act.put, List.setIfInBounds_toArray, List.set_cons_zero, List.set_cons_succ])
                      refine wpAnyH_take (i := 29) (v := ?v1_29) rfl (by kernel_rfl) (by kernel_rfl) (by kernel_rfl) (fun _ _ _ h => h) (Or.inl ⟨by kernel_rfl, ?y1_29⟩) (by assumption) ?r1_29
                      case y1_29 => (intro W hSW; (try dsimp only at hSW); go_simp; (try with_reducible rfl))
                      change wpAnyH _ _ _ _ _ _ _ (Act.put _ (some 72) _) _
                      (try simp only [Act.put, List.setIfInBounds_toArray, List.set_cons_zero, List.set_cons_succ])
                      refine wpAnyH_take (i := 30) (v := ?v1_30) rfl (by kernel_rfl) (by kernel_rfl) (by kernel_rfl) (fun _ _ _ h => h) (Or.inl ⟨by kernel_rfl, ?y1_30⟩) (by assumption) ?r1_30
                      case y1_30 => (intro W hSW; (try dsimp only at hSW); go_simp; (try with_reducible rfl))
                      change wpAnyH _ _ _ _ _ _ _ (Act.put _ (some 73) _) _
                      (try simp only [Act.put, List.setIfInBounds_toArray, List.set_cons_zero, List.set_cons_succ])
                      refine wpAnyH_take (i := 31) (v := ?v1_31) rfl (by kernel_rfl) (by kernel_rfl) (by kernel_rfl) (fun _ _ _ h => h) (Or.inl ⟨by kernel_rfl, ?y1_31⟩) (by assumption) ?r1_31
                      case y1_31 => (intro W hSW; (try dsimp only at hSW); go_simp; (try with_reducible rfl))
                      change wpAnyH _ _ _ _ _ _ _ (Act.put _ (some 74) _) _
                      (try simp only [Act.put, List.setIfInBounds_toArray, List.set_cons_zero, List.set_cons_succ])
                      refine wpAnyH_take (i := 32) (v := ?v1_32) rfl (by kernel_rfl) (by kernel_rfl) (by kernel_rfl) (fun _ _ _ h => h) (Or.inl ⟨by kernel_rfl, ?y1_32⟩) (by assumption) ?r1_32
                      case y1_32 => (intro W hSW; (try dsimp only at hSW); go_simp; (try with_reducible rfl))
                      change wpAnyH _ _ _ _ _ _ _ (Act.put _ (some 75) _) _
                      (try simp only [Act.put, List.setIfInBounds_toArray, List.set_cons_zero, List.set_cons_succ])
                      refine wpAnyH_take (i := 33) (v := ?v1_33) rfl (by kernel_rfl) (by kernel_rfl) (by kernel_rfl) (fun _ _ _ h => h) (Or.inl ⟨by kernel_rfl, ?y1_33⟩) (by assumption) ?r1_33
                      case y1_33 => (intro W hSW; (try dsimp only at hSW); go_simp; (try with_reducible rfl))
                      change wpAnyH _ _ _ _ _ _ _ (Act.put _ (some 76) _) _
                      (try simp only [Act.put, List.setIfInBounds_toArray, List.set_cons_zero, List.set_cons_succ])
                      refine wpAnyH_take (i := 34) (v := ?v1_34) rfl (by kernel_rfl) (by kernel_rfl) (by kernel_rfl) (fun _ _ _ h => h) (Or.inl ⟨by kernel_rfl, ?y1_34⟩) (by assumption) ?r1_34
                      case y1_34 => (intro W hSW; (try dsimp only at hSW); go_simp; (try with_reducible rfl))
                      change wpAnyH _ _ _ _ _ _ _ (Act.put _ (some 77) _) _
                      (try simp only [Act.put, List.setIfInBounds_toArray, List.set_cons_zero, List.set_cons_succ])
                      refine wpAnyH_take (i := 35) (v := ?v1_35) rfl (by kernel_rfl) (by kernel_rfl) (by kernel_rfl) (fun _ _ _ h => h) (Or.inl ⟨by kernel_rfl, ?y1_35⟩) (by assumption) ?r1_35
                      case y1_35 => (intro W hSW; (try dsimp only at hSW); go_simp; (try with_reducible rfl))
                      change wpAnyH _ _ _ _ _ _ _ (Act.put _ (some 78) _) _
                      (try simp only [Act.put, List.setIfInBounds_toArray, List.set_cons_zero, List.set_cons_succ])
                      refine wpAnyH_done (by kernel_rfl) ?_ _
                      go_wp2_with fail
                      go_roundw
                      case rel => exact ⟨j + 1, by omega, by go_num, hT'.out, HK⟩
                      case measure => simp [intOf]; omega
                    · have K : True := trivial
                      have HX := hide (HF.out (fun g => d3 (HD.out.1 g).2.2))
                      have n3 : (zsize != ssize) = true := by simpa using d3
                      go_wp2_with fail
                      refine wp_region_held_drew (S := fun w' => w'.cell? ⟨w.heap.size, 10, none⟩ = some (.slice (some ⟨pb, po, none⟩) c.ports.length qC) ∧ w'.cell? ⟨w.heap.size + 2, 1, none⟩ = some (.int .i64 zkind) ∧ w'.cell? ⟨w.heap.size + 2, 3, none⟩ = some (.int .i64 ssize) ∧ w'.cell? ⟨pb, po + zn * 6 + 2, none⟩ = some (.int .i64 2) ∧ w'.cell? ⟨pb, po + zn * 6 + 1, none⟩ = some (.int .i64 zkind) ∧ w'.cell? ⟨pb, po + zn * 6 + 3, none⟩ = some (.int .i64 zsize)) (by kernel_rfl) (⟨e10, y1, y3, t2, t1, t3⟩) (fun hHeld => ?_)
                      refine wpAnyH_take (i := 0) (v := ?v2_0) rfl (by kernel_rfl) (by kernel_rfl) (by kernel_rfl) (fun _ _ _ h => h) (Or.inl ⟨by kernel_rfl, ?y2_0⟩) (by assumption) ?r2_0
                      case y2_0 => (intro W hSW; (try dsimp only at hSW); go_simp; (try with_reducible rfl))
                      change wpAnyH _ _ _ _ _ _ _ (Act.put _ (some 43) _) _
                      (try simp only [Act.put, List.setIfInBounds_toArray, List.set_cons_zero, List.set_cons_succ])
                      refine wpAnyH_take (i := 1) (v := ?v2_1) rfl (by kernel_rfl) (by kernel_rfl) (by kernel_rfl) (fun _ _ _ h => h) (Or.inl ⟨by kernel_rfl, ?y2_1⟩) (by assumption) ?r2_1
                      case y2_1 => (intro W hSW; (try dsimp only at hSW); go_simp; (try with_reducible rfl))
                      change wpAnyH _ _ _ _ _ _ _ (Act.put _ (some 44) _) _
                      (try simp only [Act.put, List.setIfInBounds_toArray, List.set_cons_zero, List.set_cons_succ])
                      refine wpAnyH_take (i := 2) (v := ?v2_2) rfl (by kernel_rfl) (by kernel_rfl) (by kernel_rfl) (fun _ _ _ h => h) (Or.inl ⟨by kernel_rfl, ?y2_2⟩) (by assumption) ?r2_2
                      case y2_2 => (intro W hSW; (try dsimp only at hSW); go_simp; (try with_reducible rfl))
                      change wpAnyH _ _ _ _ _ _ _ (Act.put _ (some 45) _) _
                      (try simp only [Act.put, List.setIfInBounds_toArray, List.set_cons_zero, List.set_cons_succ])
                      refine wpAnyH_ready (rs := [3]) (by kernel_rfl) (by simp) ?_
                      refine AllReadyH.cons rfl (fun K hK => ?_) AllReadyH.nil
                      rw [if_pos (by rfl)]
                      go_simp
                      refine (of_ports _ _ _ _ _).mono ?_
                      rintro e w1 ⟨rfl, rfl⟩
                      rw [HZ.out]
                      go_wp2_with fail
                      refine hK.out _ _ (⟨e10, y1, y3, t2, t1, t3⟩) (fun hHeld => ?_)
                      clear hK K
                      (try simp only [Act.put, List.setIfInBounds_toArray, List.set_cons_zero, List.set_cons_succ])
                      refine wpAnyH_take (i := 4) (v := ?v2_4) rfl (by kernel_rfl) (by kernel_rfl) (by kernel_rfl) (fun _ _ _ h => h) (Or.inl ⟨by kernel_rfl, ?y2_4⟩) (by assumption) ?r2_4
                      case y2_4 => (intro W hSW; (try dsimp only at hSW); go_simp; (try with_reducible rfl))
                      change wpAnyH _ _ _ _ _ _ _ (Act.put _ (some 47) _) _
                      (try simp only [Act.put, List.setIfInBounds_toArray, List.set_cons_zero, List.set_cons_succ])
                      refine wpAnyH_take (i := 5) (v := ?v2_5) rfl (by kernel_rfl) (by kernel_rfl) (by kernel_rfl) (fun _ _ _ h => h) (Or.inl ⟨by kernel_rfl, ?y2_5⟩) (by assumption) ?r2_5
                      case y2_5 => (intro W hSW; (try dsimp only at hSW); go_simp; (try with_reducible rfl))
                      change wpAnyH _ _ _ _ _ _ _ (Act.put _ (some 48) _) _
                      (try simp only [Act.put, List.setIfInBounds_toArray, List.set_cons_zero, List.set_cons_succ])
                      refine wpAnyH_take (i := 6) (v := ?v2_6) rfl (by kernel_rfl) (by kernel_rfl) (by kernel_rfl) (fun _ _ _ h => h) (Or.inl ⟨by kernel_rfl, ?y2_6⟩) (by assumption) ?r2_6
                      case y2_6 => (intro W hSW; (try dsimp only at hSW); go_simp; (try with_reducible rfl))
                      change wpAnyH _ _ _ _ _ _ _ (Act.put _ (some 49) _) _
                      (try simp only [Act.put, List.setIfInBounds_toArray, List.set_cons_zero, List.set_cons_succ])
                      refine wpAnyH_take (i := 7) (v := ?v2_7) rfl (by kernel_rfl) (by kernel_rfl) (by kernel_rfl) (fun _ _ _ h => h) (Or.inl ⟨by kernel_rfl, ?y2_7⟩) (by assumption) ?r2_7
                      case y2_7 => (intro W hSW; (try dsimp only at hSW); go_simp; (try with_reducible rfl))
                      change wpAnyH _ _ _ _ _ _ _ (Act.put _ (some 50) _) _
                      (try simp only [Act.put, List.setIfInBounds_toArray, List.set_cons_zero, List.set_cons_succ])
                      refine wpAnyH_take (i := 8) (v := ?v2_8) rfl (by kernel_rfl) (by kernel_rfl) (by kernel_rfl) (fun _ _ _ h => h) (Or.inl ⟨by kernel_rfl, ?y2_8⟩) (by assumption) ?r2_8
                      case y2_8 => (intro W hSW; (try dsimp only at hSW); go_simp; (try with_reducible rfl))
                      change wpAnyH _ _ _ _ _ _ _ (Act.put _ (some 51) _) _
                      (try simp only [Act.put, List.setIfInBounds_toArray, List.set_cons_zero, List.set_cons_succ])
                      refine wpAnyH_take (i := 9) (v := ?v2_9) rfl (by kernel_rfl) (by kernel_rfl) (by kernel_rfl) (fun _ _ _ h => h) (Or.inl ⟨by kernel_rfl, ?y2_9⟩) (by assumption) ?r2_9
                      case y2_9 => (intro W hSW; (try dsimp only at hSW); go_simp; (try with_reducible rfl))
                      change wpAnyH _ _ _ _ _ _ _ (Act.put _ (some 52) _) _
                      (try simp only [Act.put, List.setIfInBounds_toArray, List.set_cons_zero, List.set_cons_succ])
                      refine wpAnyH_take (i := 10) (v := ?v2_10) rfl (by kernel_rfl) (by kernel_rfl) (by kernel_rfl) (fun _ _ _ h => h) (Or.inl ⟨by kernel_rfl, ?y2_10⟩) (by assumption) ?r2_10
                      case y2_10 => (intro W hSW; (try dsimp only at hSW); go_simp; (try with_reducible rfl))
                      change wpAnyH _ _ _ _ _ _ _ (Act.put _ (some 53) _) _
                      (try simp only [Act.put, List.setIfInBounds_toArray, List.set_cons_zero, List.set_cons_succ])
                      refine wpAnyH_take (i := 11) (v := ?v2_11) rfl (by kernel_rfl) (by kernel_rfl) (by kernel_rfl) (fun _ _ _ h => h) (Or.inl ⟨by kernel_rfl, ?y2_11⟩) (by assumption) ?r2_11
                      case y2_11 => (intro W hSW; (try dsimp only at hSW); go_simp; (try with_reducible rfl))
                      change wpAnyH _ _ _ _ _ _ _ (Act.put _ (some 54) _) _
                      (try simp only [Act.put, List.setIfInBounds_toArray, List.set_cons_zero, List.set_cons_succ])
                      refine wpAnyH_take (i := 12) (v := ?v2_12) rfl (by kernel_rfl) (by kernel_rfl) (by kernel_rfl) (fun _ _ _ h => h) (Or.inl ⟨by kernel_rfl, ?y2_12⟩) (by assumption) ?r2_12
                      case y2_12 => (intro W hSW; (try dsimp only at hSW); go_simp; (try with_reducible rfl))
                      change wpAnyH _ _ _ _ _ _ _ (Act.put _ (some 55) _) _
                      (try simp only [Act.put, List.setIfInBounds_toArray, List.set_cons_zero, List.set_cons_succ])
                      refine wpAnyH_take (i := 13) (v := ?v2_13) rfl (by kernel_rfl) (by kernel_rfl) (by kernel_rfl) (fun _ _ _ h => h) (Or.inl ⟨by kernel_rfl, ?y2_13⟩) (by assumption) ?r2_13
                      case y2_13 => (intro W hSW; (try dsimp only at hSW); go_simp; (try with_reducible rfl))
                      change wpAnyH _ _ _ _ _ _ _ (Act.put _ (some 56) _) _
                      (try simp only [Act.put, List.setIfInBounds_toArray, List.set_cons_zero, List.set_cons_succ])
                      refine wpAnyH_take (i := 14) (v := ?v2_14) rfl (by kernel_rfl) (by kernel_rfl) (by kernel_rfl) (fun _ _ _ h => h) (Or.inl ⟨by kernel_rfl, ?y2_14⟩) (by assumption) ?r2_14
                      case y2_14 => (intro W hSW; (try dsimp only at hSW); go_simp; (try with_reducible rfl))
                      change wpAnyH _ _ _ _ _ _ _ (Act.put _ (some 57) _) _
                      (try simp only [Act.put, List.setIfInBounds_toArray, List.set_cons_zero, List.set_cons_succ])
                      refine wpAnyH_take (i := 15) (v := ?v2_15) rfl (by kernel_rfl) (by kernel_rfl) (by kernel_rfl) (fun _ _ _ h => h) (Or.inl ⟨by kernel_rfl, ?y2_15⟩) (by assumption) ?r2_15
                      case y2_15 => (intro W hSW; (try dsimp only at hSW); go_simp; (try with_reducible rfl))
                      change wpAnyH _ _ _ _ _ _ _ (Act.put _ (some 58) _) _
                      (try simp only [Act.put, List.setIfInBounds_toArray, List.set_cons_zero, List.set_cons_succ])
                      refine wpAnyH_take (i := 16) (v := ?v2_16) rfl (by kernel_rfl) (by kernel_rfl) (by kernel_rfl) (fun _ _ _ h => h) (Or.inl ⟨by kernel_rfl, ?y2_16⟩) (by assumption) ?r2_16
                      case y2_16 => (intro W hSW; (try dsimp only at hSW); go_simp; (try with_reducible rfl))
                      change wpAnyH _ _ _ _ _ _ _ (Act.put _ (some 59) _) _
                      (try simp only [Act.put, List.setIfInBounds_toArray, List.set_cons_zero, List.set_cons_succ])
                      refine wpAnyH_take (i := 17) (v := ?v2_17) rfl (by kernel_rfl) (by kernel_rfl) (by kernel_rfl) (fun _ _ _ h => h) (Or.inl ⟨by kernel_rfl, ?y2_17⟩) (by assumption) ?r2_17
                      case y2_17 => (intro W hSW; (try dsimp only at hSW); go_simp; (try with_reducible rfl))
                      change wpAnyH _ _ _ _ _ _ _ (Act.put _ (some 60) _) _
                      (try simp only [Act.put, List.setIfInBounds_toArray, List.set_cons_zero, List.set_cons_succ])
                      refine wpAnyH_take (i := 18) (v := ?v2_18) rfl (by kernel_rfl) (by kernel_rfl) (by kernel_rfl) (fun _ _ _ h => h) (Or.inl ⟨by kernel_rfl, ?y2_18⟩) (by assumption) ?r2_18
                      case y2_18 => (intro W hSW; (try dsimp only at hSW); go_simp; (try with_reducible rfl))
                      change wpAnyH _ _ _ _ _ _ _ (Act.put _ (some 61) _) _
                      (try simp only [Act.put, List.setIfInBounds_toArray, List.set_cons_zero, List.set_cons_succ])
                      refine wpAnyH_take (i := 19) (v := ?v2_19) rfl (by kernel_rfl) (by kernel_rfl) (by kernel_rfl) (fun _ _ _ h => h) (Or.inl ⟨by kernel_rfl, ?y2_19⟩) (by assumption) ?r2_19
                      case y2_19 => (intro W hSW; (try dsimp only at hSW); go_simp; (try with_reducible rfl))
                      change wpAnyH _ _ _ _ _ _ _ (Act.put _ (some 62) _) _
                      (try simp only [Act.put, List.setIfInBounds_toArray, List.set_cons_zero, List.set_cons_succ])
                      refine wpAnyH_take (i := 20) (v := ?v2_20) rfl (by kernel_rfl) (by kernel_rfl) (by kernel_rfl) (fun _ _ _ h => h) (Or.inl ⟨by kernel_rfl, ?y2_20⟩) (by assumption) ?r2_20
                      case y2_20 => (intro W hSW; (try dsimp only at hSW); go_simp; (try with_reducible rfl))
                      change wpAnyH _ _ _ _ _ _ _ (Act.put _ (some 63) _) _
                      (try simp only [Act.put, List.setIfInBounds_toArray, List.set_cons_zero, List.set_cons_succ])
                      refine wpAnyH_take (i := 21) (v := ?v2_21) rfl (by kernel_rfl) (by kernel_rfl) (by kernel_rfl) (fun _ _ _ h => h) (Or.inl ⟨by kernel_rfl, ?y2_21⟩) (by assumption) ?r2_21
                      case y2_21 => (intro W hSW; (try dsimp only at hSW); go_simp; (try with_reducible rfl))
                      change wpAnyH _ _ _ _ _ _ _ (Act.put _ (some 64) _) _
                      (try simp only [Act.put, List.setIfInBounds_toArray, List.set_cons_zero, List.set_cons_succ])
                      refine wpAnyH_take (i := 22) (v := ?v2_22) rfl (by kernel_rfl) (by kernel_rfl) (by kernel_rfl) (fun _ _ _ h => h) (Or.inl ⟨by kernel_rfl, ?y2_22⟩) (by assumption) ?r2_22
                      case y2_22 => (intro W hSW; (try dsimp only at hSW); go_simp; (try with_reducible rfl))
                      change wpAnyH _ _ _ _ _ _ _ (Act.put _ (some 65) _) _
                      (try simp only [Act.put, List.setIfInBounds_toArray, List.set_cons_zero, List.set_cons_succ])
                      refine wpAnyH_take (i := 23) (v := ?v2_23) rfl (by kernel_rfl) (by kernel_rfl) (by kernel_rfl) (fun _ _ _ h => h) (Or.inl ⟨by kernel_rfl, ?y2_23⟩) (by assumption) ?r2_23
                      case y2_23 => (intro W hSW; (try dsimp only at hSW); go_simp; (try with_reducible rfl))
                      change wpAnyH _ _ _ _ _ _ _ (Act.put _ (some 66) _) _
                      (try simp only [Act.put, List.setIfInBounds_toArray, List.set_cons_zero, List.set_cons_succ])
                      refine wpAnyH_take (i := 24) (v := ?v2_24) rfl (by kernel_rfl) (by kernel_rfl) (by kernel_rfl) (fun _ _ _ h => h) (Or.inl ⟨by kernel_rfl, ?y2_24⟩) (by assumption) ?r2_24
                      case y2_24 => (intro W hSW; (try dsimp only at hSW); go_simp; (try with_reducible rfl))
                      change wpAnyH _ _ _ _ _ _ _ (Act.put _ (some 67) _) _
                      (try simp only [Act.put, List.setIfInBounds_toArray, List.set_cons_zero, List.set_cons_succ])
                      refine wpAnyH_take (i := 25) (v := ?v2_25) rfl (by kernel_rfl) (by kernel_rfl) (by kernel_rfl) (fun _ _ _ h => h) (Or.inl ⟨by kernel_rfl, ?y2_25⟩) (by assumption) ?r2_25
                      case y2_25 => (intro W hSW; (try dsimp only at hSW); go_simp; (try with_reducible rfl))
                      change wpAnyH _ _ _ _ _ _ _ (Act.put _ (some 68) _) _
                      (try simp only [Act.put, List.setIfInBounds_toArray, List.set_cons_zero, List.set_cons_succ])
                      refine wpAnyH_take (i := 26) (v := ?v2_26) rfl (by kernel_rfl) (by kernel_rfl) (by kernel_rfl) (fun _ _ _ h => h) (Or.inl ⟨by kernel_rfl, ?y2_26⟩) (by assumption) ?r2_26
                      case y2_26 => (intro W hSW; (try dsimp only at hSW); go_simp; (try with_reducible rfl))
                      change wpAnyH _ _ _ _ _ _ _ (Act.put _ (some 69) _) _
                      (try simp only [Act.put, List.setIfInBounds_toArray, List.set_cons_zero, List.set_cons_succ])
                      refine wpAnyH_take (i := 27) (v := ?v2_27) rfl (by kernel_rfl) (by kernel_rfl) (by kernel_rfl) (fun _ _ _ h => h) (Or.inl ⟨by kernel_rfl, ?y2_27⟩) (by assumption) ?r2_27
                      case y2_27 => (intro W hSW; (try dsimp only at hSW); go_simp; (try with_reducible rfl))
                      change wpAnyH _ _ _ _ _ _ _ (Act.put _ (some 70) _) _
                      (try simp only [Act.put, List.setIfInBounds_toArray, List.set_cons_zero, List.set_cons_succ])
                      refine wpAnyH_take (i := 28) (v := ?v2_28) rfl (by kernel_rfl) (by kernel_rfl) (by kernel_rfl) (fun _ _ _ h => h) (Or.inl ⟨by kernel_rfl, ?y2_28⟩) (by assumption) ?r2_28
                      case y2_28 => (intro W hSW; (try dsimp only at hSW); go_simp; (try with_reducible rfl))
                      change wpAnyH _ _ _ _ _ _ _ (Act.put _ (some 71) _) _
                      (try simp only [Act.put, List.setIfInBounds_toArray, List.set_cons_zero, List.set_cons_succ])
                      refine wpAnyH_take (i := 29) (v := ?v2_29) rfl (by kernel_rfl) (by kernel_rfl) (by kernel_rfl) (fun _ _ _ h => h) (Or.inl ⟨by kernel_rfl, ?y2_29⟩) (by assumption) ?r2_29
                      case y2_29 => (intro W hSW; (try dsimp only at hSW); go_simp; (try with_reducible rfl))
                      change wpAnyH _ _ _ _ _ _ _ (Act.put _ (some 72) _) _
                      (try simp only [Act.put, List.setIfInBounds_toArray, List.set_cons_zero, List.set_cons_succ])
                      refine wpAnyH_take (i := 30) (v := ?v2_30) rfl (by kernel_rfl) (by kernel_rfl) (by kernel_rfl) (fun _ _ _ h => h) (Or.inl ⟨by kernel_rfl, ?y2_30⟩) (by assumption) ?r2_30
                      case y2_30 => (intro W hSW; (try dsimp only at hSW); go_simp; (try with_reducible rfl))
                      change wpAnyH _ _ _ _ _ _ _ (Act.put _ (some 73) _) _
                      (try simp only [Act.put, List.setIfInBounds_toArray, List.set_cons_zero, List.set_cons_succ])
                      refine wpAnyH_take (i := 31) (v := ?v2_31) rfl (by kernel_rfl) (by kernel_rfl) (by kernel_rfl) (fun _ _ _ h => h) (Or.inl ⟨by kernel_rfl, ?y2_31⟩) (by assumption) ?r2_31
                      case y2_31 => (intro W hSW; (try dsimp only at hSW); go_simp; (try with_reducible rfl))
                      change wpAnyH _ _ _ _ _ _ _ (Act.put _ (some 74) _) _
                      (try simp only [Act.put, List.setIfInBounds_toArray, List.set_cons_zero, List.set_cons_succ])
                      refine wpAnyH_take (i := 32) (v := ?v2_32) rfl (by kernel_rfl) (by kernel_rfl) (by kernel_rfl) (fun _ _ _ h => h) (Or.inl ⟨by kernel_rfl, ?y2_32⟩) (by assumption) ?r2_32
                      case y2_32 => (intro W hSW; (try dsimp only at hSW); go_simp; (try with_reducible rfl))
                      change wpAnyH _ _ _ _ _ _ _ (Act.put _ (some 75) _) _
                      (try simp only [Act.put, List.setIfInBounds_toArray, List.set_cons_zero, List.set_cons_succ])
                      refine wpAnyH_take (i := 33) (v := ?v2_33) rfl (by kernel_rfl) (by kernel_rfl) (by kernel_rfl) (fun _ _ _ h => h) (Or.inl ⟨by kernel_rfl, ?y2_33⟩) (by assumption) ?r2_33
                      case y2_33 => (intro W hSW; (try dsimp only at hSW); go_simp; (try with_reducible rfl))
                      change wpAnyH _ _ _ _ _ _ _ (Act.put _ (some 76) _) _
                      (try simp only [Act.put, List.setIfInBounds_toArray, List.set_cons_zero, List.set_cons_succ])
                      refine wpAnyH_take (i := 34) (v := ?v2_34) rfl (by kernel_rfl) (by kernel_rfl) (by kernel_rfl) (fun _ _ _ h => h) (Or.inl ⟨by kernel_rfl, ?y2_34⟩) (by assumption) ?r2_34
                      case y2_34 => (intro W hSW; (try dsimp only at hSW); go_simp; (try with_reducible rfl))
                      change wpAnyH _ _ _ _ _ _ _ (Act.put _ (some 77) _) _
                      (try simp only [Act.put, List.setIfInBounds_toArray, List.set_cons_zero, List.set_cons_succ])
                      refine wpAnyH_take (i := 35) (v := ?v2_35) rfl (by kernel_rfl) (by kernel_rfl) (by kernel_rfl) (fun _ _ _ h => h) (Or.inl ⟨by kernel_rfl, ?y2_35⟩) (by assumption) ?r2_35
                      case y2_35 => (intro W hSW; (try dsimp only at hSW); go_simp; (try with_reducible rfl))
                      change wpAnyH _ _ _ _ _ _ _ (Act.put _ (some 78) _) _
                      (try simp only [Act.put, List.setIfInBounds_toArray, List.set_cons_zero, List.set_cons_succ])
                      refine wpAnyH_done (by kernel_rfl) ?_ _
                      go_wp2_with fail
                      go_ret
                      exact ⟨by rw [HX.out]; rfl, hT.1.cf.bel.drew⟩
                  · have K : True := trivial
                    have HX := hide (HF.out (fun g => d2 (HD.out.1 g).2.1))
                    have n2 : (zkind != skind) = true := by simpa using d2
                    go_wp2_with fail
                    refine wp_region_held_drew (S := fun w' => w'.cell? ⟨w.heap.size, 10, none⟩ = some (.slice (some ⟨pb, po, none⟩) c.ports.length qC) ∧ w'.cell? ⟨w.heap.size + 2, 1, none⟩ = some (.int .i64 skind) ∧ w'.cell? ⟨w.heap.size + 2, 3, none⟩ = some (.int .i64 ssize) ∧ w'.cell? ⟨pb, po + zn * 6 + 2, none⟩ = some (.int .i64 2) ∧ w'.cell? ⟨pb, po + zn * 6 + 1, none⟩ = some (.int .i64 zkind) ∧ w'.cell? ⟨pb, po + zn * 6 + 3, none⟩ = some (.int .i64 zsize)) (by kernel_rfl) (⟨e10, y1, y3, t2, t1, t3⟩) (fun hHeld => ?_)
                    refine wpAnyH_take (i := 0) (v := ?v3_0) rfl (by kernel_rfl) (by kernel_rfl) (by kernel_rfl) (fun _ _ _ h => h) (Or.inl ⟨by kernel_rfl, ?y3_0⟩) (by assumption) ?r3_0
                    case y3_0 => (intro W hSW; (try dsimp only at hSW); go_simp; (try with_reducible rfl))
                    change wpAnyH _ _ _ _ _ _ _ (Act.put _ (some 43) _) _
                    (try simp only [Act.put, List.setIfInBounds_toArray, List.set_cons_zero, List.set_cons_succ])
                    refine wpAnyH_take (i := 1) (v := ?v3_1) rfl (by kernel_rfl) (by kernel_rfl) (by kernel_rfl) (fun _ _ _ h => h) (Or.inl ⟨by kernel_rfl, ?y3_1⟩) (by assumption) ?r3_1
                    case y3_1 => (intro W hSW; (try dsimp only at hSW); go_simp; (try with_reducible rfl))
                    change wpAnyH _ _ _ _ _ _ _ (Act.put _ (some 44) _) _
                    (try simp only [Act.put, List.setIfInBounds_toArray, List.set_cons_zero, List.set_cons_succ])
                    refine wpAnyH_take (i := 2) (v := ?v3_2) rfl (by kernel_rfl) (by kernel_rfl) (by kernel_rfl) (fun _ _ _ h => h) (Or.inl ⟨by kernel_rfl, ?y3_2⟩) (by assumption) ?r3_2
                    case y3_2 => (intro W hSW; (try dsimp only at hSW); go_simp; (try with_reducible rfl))
                    change wpAnyH _ _ _ _ _ _ _ (Act.put _ (some 45) _) _
                    (try simp only [Act.put, List.setIfInBounds_toArray, List.set_cons_zero, List.set_cons_succ])
                    refine wpAnyH_ready (rs := [3]) (by kernel_rfl) (by simp) ?_
                    refine AllReadyH.cons rfl (fun K hK => ?_) AllReadyH.nil
                    rw [if_pos (by rfl)]
                    go_simp
                    refine (of_ports _ _ _ _ _).mono ?_
                    rintro e w1 ⟨rfl, rfl⟩
                    rw [HZ.out]
                    go_wp2_with fail
                    refine hK.out _ _ (⟨e10, y1, y3, t2, t1, t3⟩) (fun hHeld => ?_)
                    clear hK K
                    (try simp only [Act.put, List.setIfInBounds_toArray, List.set_cons_zero, List.set_cons_succ])
                    refine wpAnyH_take (i := 4) (v := ?v3_4) rfl (by kernel_rfl) (by kernel_rfl) (by kernel_rfl) (fun _ _ _ h => h) (Or.inl ⟨by kernel_rfl, ?y3_4⟩) (by assumption) ?r3_4
                    case y3_4 => (intro W hSW; (try dsimp only at hSW); go_simp; (try with_reducible rfl))
                    change wpAnyH _ _ _ _ _ _ _ (Act.put _ (some 47) _) _
                    (try simp only [Act.put, List.setIfInBounds_toArray, List.set_cons_zero, List.set_cons_succ])
                    refine wpAnyH_take (i := 5) (v := ?v3_5) rfl (by kernel_rfl) (by kernel_rfl) (by kernel_rfl) (fun _ _ _ h => h) (Or.inl ⟨by kernel_rfl, ?y3_5⟩) (by assumption) ?r3_5
                    case y3_5 => (intro W hSW; (try dsimp only at hSW); go_simp; (try with_reducible rfl))
                    change wpAnyH _ _ _ _ _ _ _ (Act.put _ (some 48) _) _
                    (try simp only [Act.put, List.setIfInBounds_toArray, List.set_cons_zero, List.set_cons_succ])
                    refine wpAnyH_take (i := 6) (v := ?v3_6) rfl (by kernel_rfl) (by kernel_rfl) (by kernel_rfl) (fun _ _ _ h => h) (Or.inl ⟨by kernel_rfl, ?y3_6⟩) (by assumption) ?r3_6
                    case y3_6 => (intro W hSW; (try dsimp only at hSW); go_simp; (try with_reducible rfl))
                    change wpAnyH _ _ _ _ _ _ _ (Act.put _ (some 49) _) _
                    (try simp only [Act.put, List.setIfInBounds_toArray, List.set_cons_zero, List.set_cons_succ])
                    refine wpAnyH_take (i := 7) (v := ?v3_7) rfl (by kernel_rfl) (by kernel_rfl) (by kernel_rfl) (fun _ _ _ h => h) (Or.inl ⟨by kernel_rfl, ?y3_7⟩) (by assumption) ?r3_7
                    case y3_7 => (intro W hSW; (try dsimp only at hSW); go_simp; (try with_reducible rfl))
                    change wpAnyH _ _ _ _ _ _ _ (Act.put _ (some 50) _) _
                    (try simp only [Act.put, List.setIfInBounds_toArray, List.set_cons_zero, List.set_cons_succ])
                    refine wpAnyH_take (i := 8) (v := ?v3_8) rfl (by kernel_rfl) (by kernel_rfl) (by kernel_rfl) (fun _ _ _ h => h) (Or.inl ⟨by kernel_rfl, ?y3_8⟩) (by assumption) ?r3_8
                    case y3_8 => (intro W hSW; (try dsimp only at hSW); go_simp; (try with_reducible rfl))
                    change wpAnyH _ _ _ _ _ _ _ (Act.put _ (some 51) _) _
                    (try simp only [Act.put, List.setIfInBounds_toArray, List.set_cons_zero, List.set_cons_succ])
                    refine wpAnyH_take (i := 9) (v := ?v3_9) rfl (by kernel_rfl) (by kernel_rfl) (by kernel_rfl) (fun _ _ _ h => h) (Or.inl ⟨by kernel_rfl, ?y3_9⟩) (by assumption) ?r3_9
                    case y3_9 => (intro W hSW; (try dsimp only at hSW); go_simp; (try with_reducible rfl))
                    change wpAnyH _ _ _ _ _ _ _ (Act.put _ (some 52) _) _
                    (try simp only [Act.put, List.setIfInBounds_toArray, List.set_cons_zero, List.set_cons_succ])
                    refine wpAnyH_take (i := 10) (v := ?v3_10) rfl (by kernel_rfl) (by kernel_rfl) (by kernel_rfl) (fun _ _ _ h => h) (Or.inl ⟨by kernel_rfl, ?y3_10⟩) (by assumption) ?r3_10
                    case y3_10 => (intro W hSW; (try dsimp only at hSW); go_simp; (try with_reducible rfl))
                    change wpAnyH _ _ _ _ _ _ _ (Act.put _ (some 53) _) _
                    (try simp only [Act.put, List.setIfInBounds_toArray, List.set_cons_zero, List.set_cons_succ])
                    refine wpAnyH_take (i := 11) (v := ?v3_11) rfl (by kernel_rfl) (by kernel_rfl) (by kernel_rfl) (fun _ _ _ h => h) (Or.inl ⟨by kernel_rfl, ?y3_11⟩) (by assumption) ?r3_11
                    case y3_11 => (intro W hSW; (try dsimp only at hSW); go_simp; (try with_reducible rfl))
                    change wpAnyH _ _ _ _ _ _ _ (Act.put _ (some 54) _) _
                    (try simp only [Act.put, List.setIfInBounds_toArray, List.set_cons_zero, List.set_cons_succ])
                    refine wpAnyH_take (i := 12) (v := ?v3_12) rfl (by kernel_rfl) (by kernel_rfl) (by kernel_rfl) (fun _ _ _ h => h) (Or.inl ⟨by kernel_rfl, ?y3_12⟩) (by assumption) ?r3_12
                    case y3_12 => (intro W hSW; (try dsimp only at hSW); go_simp; (try with_reducible rfl))
                    change wpAnyH _ _ _ _ _ _ _ (Act.put _ (some 55) _) _
                    (try simp only [Act.put, List.setIfInBounds_toArray, List.set_cons_zero, List.set_cons_succ])
                    refine wpAnyH_take (i := 13) (v := ?v3_13) rfl (by kernel_rfl) (by kernel_rfl) (by kernel_rfl) (fun _ _ _ h => h) (Or.inl ⟨by kernel_rfl, ?y3_13⟩) (by assumption) ?r3_13
                    case y3_13 => (intro W hSW; (try dsimp only at hSW); go_simp; (try with_reducible rfl))
                    change wpAnyH _ _ _ _ _ _ _ (Act.put _ (some 56) _) _
                    (try simp only [Act.put, List.setIfInBounds_toArray, List.set_cons_zero, List.set_cons_succ])
                    refine wpAnyH_take (i := 14) (v := ?v3_14) rfl (by kernel_rfl) (by kernel_rfl) (by kernel_rfl) (fun _ _ _ h => h) (Or.inl ⟨by kernel_rfl, ?y3_14⟩) (by assumption) ?r3_14
                    case y3_14 => (intro W hSW; (try dsimp only at hSW); go_simp; (try with_reducible rfl))
                    change wpAnyH _ _ _ _ _ _ _ (Act.put _ (some 57) _) _
                    (try simp only [Act.put, List.setIfInBounds_toArray, List.set_cons_zero, List.set_cons_succ])
                    refine wpAnyH_take (i := 15) (v := ?v3_15) rfl (by kernel_rfl) (by kernel_rfl) (by kernel_rfl) (fun _ _ _ h => h) (Or.inl ⟨by kernel_rfl, ?y3_15⟩) (by assumption) ?r3_15
                    case y3_15 => (intro W hSW; (try dsimp only at hSW); go_simp; (try with_reducible rfl))
                    change wpAnyH _ _ _ _ _ _ _ (Act.put _ (some 58) _) _
                    (try simp only [Act.put, List.setIfInBounds_toArray, List.set_cons_zero, List.set_cons_succ])
                    refine wpAnyH_take (i := 16) (v := ?v3_16) rfl (by kernel_rfl) (by kernel_rfl) (by kernel_rfl) (fun _ _ _ h => h) (Or.inl ⟨by kernel_rfl, ?y3_16⟩) (by assumption) ?r3_16
                    case y3_16 => (intro W hSW; (try dsimp only at hSW); go_simp; (try with_reducible rfl))
                    change wpAnyH _ _ _ _ _ _ _ (Act.put _ (some 59) _) _
                    (try simp only [Act.put, List.setIfInBounds_toArray, List.set_cons_zero, List.set_cons_succ])
                    refine wpAnyH_take (i := 17) (v := ?v3_17) rfl (by kernel_rfl) (by kernel_rfl) (by kernel_rfl) (fun _ _ _ h => h) (Or.inl ⟨by kernel_rfl, ?y3_17⟩) (by assumption) ?r3_17
                    case y3_17 => (intro W hSW; (try dsimp only at hSW); go_simp; (try with_reducible rfl))
                    change wpAnyH _ _ _ _ _ _ _ (Act.put _ (some 60) _) _
                    (try simp only [Act.put, List.setIfInBounds_toArray, List.set_cons_zero, List.set_cons_succ])
                    refine wpAnyH_take (i := 18) (v := ?v3_18) rfl (by kernel_rfl) (by kernel_rfl) (by kernel_rfl) (fun _ _ _ h => h) (Or.inl ⟨by kernel_rfl, ?y3_18⟩) (by assumption) ?r3_18
                    case y3_18 => (intro W hSW; (try dsimp only at hSW); go_simp; (try with_reducible rfl))
                    change wpAnyH _ _ _ _ _ _ _ (Act.put _ (some 61) _) _
                    (try simp only [Act.put, List.setIfInBounds_toArray, List.set_cons_zero, List.set_cons_succ])
                    refine wpAnyH_take (i := 19) (v := ?v3_19) rfl (by kernel_rfl) (by kernel_rfl) (by kernel_rfl) (fun _ _ _ h => h) (Or.inl ⟨by kernel_rfl, ?y3_19⟩) (by assumption) ?r3_19
                    case y3_19 => (intro W hSW; (try dsimp only at hSW); go_simp; (try with_reducible rfl))
                    change wpAnyH _ _ _ _ _ _ _ (Act.put _ (some 62) _) _
                    (try simp only [Act.put, List.setIfInBounds_toArray, List.set_cons_zero, List.set_cons_succ])
                    refine wpAnyH_take (i := 20) (v := ?v3_20) rfl (by kernel_rfl) (by kernel_rfl) (by kernel_rfl) (fun _ _ _ h => h) (Or.inl ⟨by kernel_rfl, ?y3_20⟩) (by assumption) ?r3_20
                    case y3_20 => (intro W hSW; (try dsimp only at hSW); go_simp; (try with_reducible rfl))
                    change wpAnyH _ _ _ _ _ _ _ (Act.put _ (some 63) _) _
                    (try simp only [Act.put, List.setIfInBounds_toArray, List.set_cons_zero, List.set_cons_succ])
                    refine wpAnyH_take (i := 21) (v := ?v3_21) rfl (by kernel_rfl) (by kernel_rfl) (by kernel_rfl) (fun _ _ _ h => h) (Or.inl ⟨by kernel_rfl, ?y3_21⟩) (by assumption) ?r3_21
                    case y3_21 => (intro W hSW; (try dsimp only at hSW); go_simp; (try with_reducible rfl))
                    change wpAnyH _ _ _ _ _ _ _ (Act.put _ (some 64) _) _
                    (try simp only [Act.put, List.setIfInBounds_toArray, List.set_cons_zero, List.set_cons_succ])
                    refine wpAnyH_take (i := 22) (v := ?v3_22) rfl (by kernel_rfl) (by kernel_rfl) (by kernel_rfl) (fun _ _ _ h => h) (Or.inl ⟨by kernel_rfl, ?y3_22⟩) (by assumption) ?r3_22
                    case y3_22 => (intro W hSW; (try dsimp only at hSW); go_simp; (try with_reducible rfl))
                    change wpAnyH _ _ _ _ _ _ _ (Act.put _ (some 65) _) _
                    (try simp only [Act.put, List.setIfInBounds_toArray, List.set_cons_zero, List.set_cons_succ])
                    refine wpAnyH_take (i := 23) (v := ?v3_23) rfl (by kernel_rfl) (by kernel_rfl) (by kernel_rfl) (fun _ _ _ h => h) (Or.inl ⟨by kernel_rfl, ?y3_23⟩) (by assumption) ?r3_23
                    case y3_23 => (intro W hSW; (try dsimp only at hSW); go_simp; (try with_reducible rfl))
                    change wpAnyH _ _ _ _ _ _ _ (Act.put _ (some 66) _) _
                    (try simp only [Act.put, List.setIfInBounds_toArray, List.set_cons_zero, List.set_cons_succ])
                    refine wpAnyH_take (i := 24) (v := ?v3_24) rfl (by kernel_rfl) (by kernel_rfl) (by kernel_rfl) (fun _ _ _ h => h) (Or.inl ⟨by kernel_rfl, ?y3_24⟩) (by assumption) ?r3_24
                    case y3_24 => (intro W hSW; (try dsimp only at hSW); go_simp; (try with_reducible rfl))
                    change wpAnyH _ _ _ _ _ _ _ (Act.put _ (some 67) _) _
                    (try simp only [Act.put, List.setIfInBounds_toArray, List.set_cons_zero, List.set_cons_succ])
                    refine wpAnyH_take (i := 25) (v := ?v3_25) rfl (by kernel_rfl) (by kernel_rfl) (by kernel_rfl) (fun _ _ _ h => h) (Or.inl ⟨by kernel_rfl, ?y3_25⟩) (by assumption) ?r3_25
                    case y3_25 => (intro W hSW; (try dsimp only at hSW); go_simp; (try with_reducible rfl))
                    change wpAnyH _ _ _ _ _ _ _ (Act.put _ (some 68) _) _
                    (try simp only [Act.put, List.setIfInBounds_toArray, List.set_cons_zero, List.set_cons_succ])
                    refine wpAnyH_take (i := 26) (v := undef) rfl (by kernel_rfl) (by kernel_rfl) (by kernel_rfl) (fun _ _ _ h => h) (Or.inr ⟨by kernel_rfl, rfl⟩) (by assumption) ?_
                    change wpAnyH _ _ _ _ _ _ _ (Act.put _ (some 69) _) _
                    (try simp only [Act.put, List.setIfInBounds_toArray, List.set_cons_zero, List.set_cons_succ])
                    refine wpAnyH_take (i := 27) (v := undef) rfl (by kernel_rfl) (by kernel_rfl) (by kernel_rfl) (fun _ _ _ h => h) (Or.inr ⟨by kernel_rfl, rfl⟩) (by assumption) ?_
                    change wpAnyH _ _ _ _ _ _ _ (Act.put _ (some 70) _) _
                    (try simp only [Act.put, List.setIfInBounds_toArray, List.set_cons_zero, List.set_cons_succ])
                    refine wpAnyH_take (i := 28) (v := undef) rfl (by kernel_rfl) (by kernel_rfl) (by kernel_rfl) (fun _ _ _ h => h) (Or.inr ⟨by kernel_rfl, rfl⟩) (by assumption) ?_
                    change wpAnyH _ _ _ _ _ _ _ (Act.put _ (some 71) _) _
                    (try simp only [Act.put, List.setIfInBounds_toArray, List.set_cons_zero, List.set_cons_succ])
                    refine wpAnyH_take (i := 29) (v := undef) rfl (by kernel_rfl) (by kernel_rfl) (by kernel_rfl) (fun _ _ _ h => h) (Or.inr ⟨by kernel_rfl, rfl⟩) (by assumption) ?_
                    change wpAnyH _ _ _ _ _ _ _ (Act.put _ (some 72) _) _
                    (try simp only [Act.put, List.setIfInBounds_toArray, List.set_cons_zero, List.set_cons_succ])
                    refine wpAnyH_take (i := 30) (v := undef) rfl (by kernel_rfl) (by kernel_rfl) (by kernel_rfl) (fun _ _ _ h => h) (Or.inr ⟨by kernel_rfl, rfl⟩) (by assumption) ?_
                    change wpAnyH _ _ _ _ _ _ _ (Act.put _ (some 73) _) _
                    (try simp only [Act.put, List.setIfInBounds_toArray, List.set_cons_zero, List.set_cons_succ])
                    refine wpAnyH_take (i := 31) (v := undef) rfl (by kernel_rfl) (by kernel_rfl) (by kernel_rfl) (fun _ _ _ h => h) (Or.inr ⟨by kernel_rfl, rfl⟩) (by assumption) ?_
                    change wpAnyH _ _ _ _ _ _ _ (Act.put _ (some 74) _) _
                    (try simp only [Act.put, List.setIfInBounds_toArray, List.set_cons_zero, List.set_cons_succ])
                    refine wpAnyH_take (i := 32) (v := undef) rfl (by kernel_rfl) (by kernel_rfl) (by kernel_rfl) (fun _ _ _ h => h) (Or.inr ⟨by kernel_rfl, rfl⟩) (by assumption) ?_
                    change wpAnyH _ _ _ _ _ _ _ (Act.put _ (some 75) _) _
                    (try simp only [Act.put, List.setIfInBounds_toArray, List.set_cons_zero, List.set_cons_succ])
                    refine wpAnyH_take (i := 33) (v := undef) rfl (by kernel_rfl) (by kernel_rfl) (by kernel_rfl) (fun _ _ _ h => h) (Or.inr ⟨by kernel_rfl, rfl⟩) (by assumption) ?_
                    change wpAnyH _ _ _ _ _ _ _ (Act.put _ (some 76) _) _
                    (try simp only [Act.put, List.setIfInBounds_toArray, List.set_cons_zero, List.set_cons_succ])
                    refine wpAnyH_take (i := 34) (v := undef) rfl (by kernel_rfl) (by kernel_rfl) (by kernel_rfl) (fun _ _ _ h => h) (Or.inr ⟨by kernel_rfl, rfl⟩) (by assumption) ?_
                    change wpAnyH _ _ _ _ _ _ _ (Act.put _ (some 77) _) _
                    (try simp only [Act.put, List.setIfInBounds_toArray, List.set_cons_zero, List.set_cons_succ])
                    refine wpAnyH_take (i := 35) (v := ?v3_35) rfl (by kernel_rfl) (by kernel_rfl) (by kernel_rfl) (fun _ _ _ h => h) (Or.inl ⟨by kernel_rfl, ?y3_35⟩) (by assumption) ?r3_35
                    case y3_35 => (intro W hSW; (try dsimp only at hSW); go_simp; (try with_reducible rfl))
                    change wpAnyH _ _ _ _ _ _ _ (Act.put _ (some 78) _) _
                    (try simp only [Act.put, List.setIfInBounds_toArray, List.set_cons_zero, List.set_cons_succ])
                    refine wpAnyH_done (by kernel_rfl) ?_ _
                    go_wp2_with fail
                    go_ret
                    exact ⟨by rw [HX.out]; rfl, hT.1.cf.bel.drew⟩
                · have K : True := trivial
                  have HX := hide (HF.out (fun g => d1 (HD.out.1 g).1))
                  have n1 : (zdir != 2) = true := by simpa using d1
                  go_wp2_with fail
                  refine wp_region_held_drew (S := fun w' => w'.cell? ⟨w.heap.size, 10, none⟩ = some (.slice (some ⟨pb, po, none⟩) c.ports.length qC) ∧ w'.cell? ⟨w.heap.size + 2, 1, none⟩ = some (.int .i64 skind) ∧ w'.cell? ⟨w.heap.size + 2, 3, none⟩ = some (.int .i64 ssize) ∧ w'.cell? ⟨pb, po + zn * 6 + 2, none⟩ = some (.int .i64 zdir) ∧ w'.cell? ⟨pb, po + zn * 6 + 1, none⟩ = some (.int .i64 zkind) ∧ w'.cell? ⟨pb, po + zn * 6 + 3, none⟩ = some (.int .i64 zsize)) (by kernel_rfl) (⟨e10, y1, y3, t2, t1, t3⟩) (fun hHeld => ?_)
                  refine wpAnyH_take (i := 0) (v := ?v4_0) rfl (by kernel_rfl) (by kernel_rfl) (by kernel_rfl) (fun _ _ _ h => h) (Or.inl ⟨by kernel_rfl, ?y4_0⟩) (by assumption) ?r4_0
                  case y4_0 => (intro W hSW; (try dsimp only at hSW); go_simp; (try with_reducible rfl))
                  change wpAnyH _ _ _ _ _ _ _ (Act.put _ (some 43) _) _
                  (try simp only [Act.put, List.setIfInBounds_toArray, List.set_cons_zero, List.set_cons_succ])
                  refine wpAnyH_take (i := 1) (v := ?v4_1) rfl (by kernel_rfl) (by kernel_rfl) (by kernel_rfl) (fun _ _ _ h => h) (Or.inl ⟨by kernel_rfl, ?y4_1⟩) (by assumption) ?r4_1
                  case y4_1 => (intro W hSW; (try dsimp only at hSW); go_simp; (try with_reducible rfl))
                  change wpAnyH _ _ _ _ _ _ _ (Act.put _ (some 44) _) _
                  (try simp only [Act.put, List.setIfInBounds_toArray, List.set_cons_zero, List.set_cons_succ])
                  refine wpAnyH_take (i := 2) (v := ?v4_2) rfl (by kernel_rfl) (by kernel_rfl) (by kernel_rfl) (fun _ _ _ h => h) (Or.inl ⟨by kernel_rfl, ?y4_2⟩) (by assumption) ?r4_2
                  case y4_2 => (intro W hSW; (try dsimp only at hSW); go_simp; (try with_reducible rfl))
                  change wpAnyH _ _ _ _ _ _ _ (Act.put _ (some 45) _) _
                  (try simp only [Act.put, List.setIfInBounds_toArray, List.set_cons_zero, List.set_cons_succ])
                  refine wpAnyH_ready (rs := [3]) (by kernel_rfl) (by simp) ?_
                  refine AllReadyH.cons rfl (fun K hK => ?_) AllReadyH.nil
                  rw [if_pos (by rfl)]
                  go_simp
                  refine (of_ports _ _ _ _ _).mono ?_
                  rintro e w1 ⟨rfl, rfl⟩
                  rw [HZ.out]
                  go_wp2_with fail
                  refine hK.out _ _ (⟨e10, y1, y3, t2, t1, t3⟩) (fun hHeld => ?_)
                  clear hK K
                  (try simp only [Act.put, List.setIfInBounds_toArray, List.set_cons_zero, List.set_cons_succ])
                  refine wpAnyH_take (i := 4) (v := ?v4_4) rfl (by kernel_rfl) (by kernel_rfl) (by kernel_rfl) (fun _ _ _ h => h) (Or.inl ⟨by kernel_rfl, ?y4_4⟩) (by assumption) ?r4_4
                  case y4_4 => (intro W hSW; (try dsimp only at hSW); go_simp; (try with_reducible rfl))
                  change wpAnyH _ _ _ _ _ _ _ (Act.put _ (some 47) _) _
                  (try simp only [Act.put, List.setIfInBounds_toArray, List.set_cons_zero, List.set_cons_succ])
                  refine wpAnyH_take (i := 5) (v := ?v4_5) rfl (by kernel_rfl) (by kernel_rfl) (by kernel_rfl) (fun _ _ _ h => h) (Or.inl ⟨by kernel_rfl, ?y4_5⟩) (by assumption) ?r4_5
                  case y4_5 => (intro W hSW; (try dsimp only at hSW); go_simp; (try with_reducible rfl))
                  change wpAnyH _ _ _ _ _ _ _ (Act.put _ (some 48) _) _
                  (try simp only [Act.put, List.setIfInBounds_toArray, List.set_cons_zero, List.set_cons_succ])
                  refine wpAnyH_take (i := 6) (v := ?v4_6) rfl (by kernel_rfl) (by kernel_rfl) (by kernel_rfl) (fun _ _ _ h => h) (Or.inl ⟨by kernel_rfl, ?y4_6⟩) (by assumption) ?r4_6
                  case y4_6 => (intro W hSW; (try dsimp only at hSW); go_simp; (try with_reducible rfl))
                  change wpAnyH _ _ _ _ _ _ _ (Act.put _ (some 49) _) _
                  (try simp only [Act.put, List.setIfInBounds_toArray, List.set_cons_zero, List.set_cons_succ])
                  refine wpAnyH_take (i := 7) (v := ?v4_7) rfl (by kernel_rfl) (by kernel_rfl) (by kernel_rfl) (fun _ _ _ h => h) (Or.inl ⟨by kernel_rfl, ?y4_7⟩) (by assumption) ?r4_7
                  case y4_7 => (intro W hSW; (try dsimp only at hSW); go_simp; (try with_reducible rfl))
                  change wpAnyH _ _ _ _ _ _ _ (Act.put _ (some 50) _) _
                  (try simp only [Act.put, List.setIfInBounds_toArray, List.set_cons_zero, List.set_cons_succ])
                  refine wpAnyH_take (i := 8) (v := ?v4_8) rfl (by kernel_rfl) (by kernel_rfl) (by kernel_rfl) (fun _ _ _ h => h) (Or.inl ⟨by kernel_rfl, ?y4_8⟩) (by assumption) ?r4_8
                  case y4_8 => (intro W hSW; (try dsimp only at hSW); go_simp; (try with_reducible rfl))
                  change wpAnyH _ _ _ _ _ _ _ (Act.put _ (some 51) _) _
                  (try simp only [Act.put, List.setIfInBounds_toArray, List.set_cons_zero, List.set_cons_succ])
                  refine wpAnyH_take (i := 9) (v := ?v4_9) rfl (by kernel_rfl) (by kernel_rfl) (by kernel_rfl) (fun _ _ _ h => h) (Or.inl ⟨by kernel_rfl, ?y4_9⟩) (by assumption) ?r4_9
                  case y4_9 => (intro W hSW; (try dsimp only at hSW); go_simp; (try with_reducible rfl))
                  change wpAnyH _ _ _ _ _ _ _ (Act.put _ (some 52) _) _
                  (try simp only [Act.put, List.setIfInBounds_toArray, List.set_cons_zero, List.set_cons_succ])
                  refine wpAnyH_take (i := 10) (v := ?v4_10) rfl (by kernel_rfl) (by kernel_rfl) (by kernel_rfl) (fun _ _ _ h => h) (Or.inl ⟨by kernel_rfl, ?y4_10⟩) (by assumption) ?r4_10
                  case y4_10 => (intro W hSW; (try dsimp only at hSW); go_simp; (try with_reducible rfl))
                  change wpAnyH _ _ _ _ _ _ _ (Act.put _ (some 53) _) _
                  (try simp only [Act.put, List.setIfInBounds_toArray, List.set_cons_zero, List.set_cons_succ])
                  refine wpAnyH_take (i := 11) (v := ?v4_11) rfl (by kernel_rfl) (by kernel_rfl) (by kernel_rfl) (fun _ _ _ h => h) (Or.inl ⟨by kernel_rfl, ?y4_11⟩) (by assumption) ?r4_11
                  case y4_11 => (intro W hSW; (try dsimp only at hSW); go_simp; (try with_reducible rfl))
                  change wpAnyH _ _ _ _ _ _ _ (Act.put _ (some 54) _) _
                  (try simp only [Act.put, List.setIfInBounds_toArray, List.set_cons_zero, List.set_cons_succ])
                  refine wpAnyH_take (i := 12) (v := ?v4_12) rfl (by kernel_rfl) (by kernel_rfl) (by kernel_rfl) (fun _ _ _ h => h) (Or.inl ⟨by kernel_rfl, ?y4_12⟩) (by assumption) ?r4_12
                  case y4_12 => (intro W hSW; (try dsimp only at hSW); go_simp; (try with_reducible rfl))
                  change wpAnyH _ _ _ _ _ _ _ (Act.put _ (some 55) _) _
                  (try simp only [Act.put, List.setIfInBounds_toArray, List.set_cons_zero, List.set_cons_succ])
                  refine wpAnyH_take (i := 13) (v := ?v4_13) rfl (by kernel_rfl) (by kernel_rfl) (by kernel_rfl) (fun _ _ _ h => h) (Or.inl ⟨by kernel_rfl, ?y4_13⟩) (by assumption) ?r4_13
                  case y4_13 => (intro W hSW; (try dsimp only at hSW); go_simp; (try with_reducible rfl))
                  change wpAnyH _ _ _ _ _ _ _ (Act.put _ (some 56) _) _
                  (try simp only [Act.put, List.setIfInBounds_toArray, List.set_cons_zero, List.set_cons_succ])
                  refine wpAnyH_take (i := 14) (v := ?v4_14) rfl (by kernel_rfl) (by kernel_rfl) (by kernel_rfl) (fun _ _ _ h => h) (Or.inl ⟨by kernel_rfl, ?y4_14⟩) (by assumption) ?r4_14
                  case y4_14 => (intro W hSW; (try dsimp only at hSW); go_simp; (try with_reducible rfl))
                  change wpAnyH _ _ _ _ _ _ _ (Act.put _ (some 57) _) _
                  (try simp only [Act.put, List.setIfInBounds_toArray, List.set_cons_zero, List.set_cons_succ])
                  refine wpAnyH_take (i := 15) (v := undef) rfl (by kernel_rfl) (by kernel_rfl) (by kernel_rfl) (fun _ _ _ h => h) (Or.inr ⟨by kernel_rfl, rfl⟩) (by assumption) ?_
                  change wpAnyH _ _ _ _ _ _ _ (Act.put _ (some 58) _) _
                  (try simp only [Act.put, List.setIfInBounds_toArray, List.set_cons_zero, List.set_cons_succ])
                  refine wpAnyH_take (i := 16) (v := undef) rfl (by kernel_rfl) (by kernel_rfl) (by kernel_rfl) (fun _ _ _ h => h) (Or.inr ⟨by kernel_rfl, rfl⟩) (by assumption) ?_
                  change wpAnyH _ _ _ _ _ _ _ (Act.put _ (some 59) _) _
                  (try simp only [Act.put, List.setIfInBounds_toArray, List.set_cons_zero, List.set_cons_succ])
                  refine wpAnyH_take (i := 17) (v := undef) rfl (by kernel_rfl) (by kernel_rfl) (by kernel_rfl) (fun _ _ _ h => h) (Or.inr ⟨by kernel_rfl, rfl⟩) (by assumption) ?_
                  change wpAnyH _ _ _ _ _ _ _ (Act.put _ (some 60) _) _
                  (try simp only [Act.put, List.setIfInBounds_toArray, List.set_cons_zero, List.set_cons_succ])
                  refine wpAnyH_take (i := 18) (v := undef) rfl (by kernel_rfl) (by kernel_rfl) (by kernel_rfl) (fun _ _ _ h => h) (Or.inr ⟨by kernel_rfl, rfl⟩) (by assumption) ?_
                  change wpAnyH _ _ _ _ _ _ _ (Act.put _ (some 61) _) _
                  (try simp only [Act.put, List.setIfInBounds_toArray, List.set_cons_zero, List.set_cons_succ])
                  refine wpAnyH_take (i := 19) (v := undef) rfl (by kernel_rfl) (by kernel_rfl) (by kernel_rfl) (fun _ _ _ h => h) (Or.inr ⟨by kernel_rfl, rfl⟩) (by assumption) ?_
                  change wpAnyH _ _ _ _ _ _ _ (Act.put _ (some 62) _) _
                  (try simp only [Act.put, List.setIfInBounds_toArray, List.set_cons_zero, List.set_cons_succ])
                  refine wpAnyH_take (i := 20) (v := undef) rfl (by kernel_rfl) (by kernel_rfl) (by kernel_rfl) (fun _ _ _ h => h) (Or.inr ⟨by kernel_rfl, rfl⟩) (by assumption) ?_
                  change wpAnyH _ _ _ _ _ _ _ (Act.put _ (some 63) _) _
                  (try simp only [Act.put, List.setIfInBounds_toArray, List.set_cons_zero, List.set_cons_succ])
                  refine wpAnyH_take (i := 21) (v := undef) rfl (by kernel_rfl) (by kernel_rfl) (by kernel_rfl) (fun _ _ _ h => h) (Or.inr ⟨by kernel_rfl, rfl⟩) (by assumption) ?_
                  change wpAnyH _ _ _ _ _ _ _ (Act.put _ (some 64) _) _
                  (try simp only [Act.put, List.setIfInBounds_toArray, List.set_cons_zero, List.set_cons_succ])
                  refine wpAnyH_take (i := 22) (v := undef) rfl (by kernel_rfl) (by kernel_rfl) (by kernel_rfl) (fun _ _ _ h => h) (Or.inr ⟨by kernel_rfl, rfl⟩) (by assumption) ?_
                  change wpAnyH _ _ _ _ _ _ _ (Act.put _ (some 65) _) _
                  (try simp only [Act.put, List.setIfInBounds_toArray, List.set_cons_zero, List.set_cons_succ])
                  refine wpAnyH_take (i := 23) (v := undef) rfl (by kernel_rfl) (by kernel_rfl) (by kernel_rfl) (fun _ _ _ h => h) (Or.inr ⟨by kernel_rfl, rfl⟩) (by assumption) ?_
                  change wpAnyH _ _ _ _ _ _ _ (Act.put _ (some 66) _) _
                  (try simp only [Act.put, List.setIfInBounds_toArray, List.set_cons_zero, List.set_cons_succ])
                  refine wpAnyH_take (i := 24) (v := ?v4_24) rfl (by kernel_rfl) (by kernel_rfl) (by kernel_rfl) (fun _ _ _ h => h) (Or.inl ⟨by kernel_rfl, ?y4_24⟩) (by assumption) ?r4_24
                  case y4_24 => (intro W hSW; (try dsimp only at hSW); go_simp; (try with_reducible rfl))
                  change wpAnyH _ _ _ _ _ _ _ (Act.put _ (some 67) _) _
                  (try simp only [Act.put, List.setIfInBounds_toArray, List.set_cons_zero, List.set_cons_succ])
                  refine wpAnyH_take (i := 25) (v := ?v4_25) rfl (by kernel_rfl) (by kernel_rfl) (by kernel_rfl) (fun _ _ _ h => h) (Or.inl ⟨by kernel_rfl, ?y4_25⟩) (by assumption) ?r4_25
                  case y4_25 => (intro W hSW; (try dsimp only at hSW); go_simp; (try with_reducible rfl))
                  change wpAnyH _ _ _ _ _ _ _ (Act.put _ (some 68) _) _
                  (try simp only [Act.put, List.setIfInBounds_toArray, List.set_cons_zero, List.set_cons_succ])
                  refine wpAnyH_take (i := 26) (v := undef) rfl (by kernel_rfl) (by kernel_rfl) (by kernel_rfl) (fun _ _ _ h => h) (Or.inr ⟨by kernel_rfl, rfl⟩) (by assumption) ?_
                  change wpAnyH _ _ _ _ _ _ _ (Act.put _ (some 69) _) _
                  (try simp only [Act.put, List.setIfInBounds_toArray, List.set_cons_zero, List.set_cons_succ])
                  refine wpAnyH_take (i := 27) (v := undef) rfl (by kernel_rfl) (by kernel_rfl) (by kernel_rfl) (fun _ _ _ h => h) (Or.inr ⟨by kernel_rfl, rfl⟩) (by assumption) ?_
                  change wpAnyH _ _ _ _ _ _ _ (Act.put _ (some 70) _) _
                  (try simp only [Act.put, List.setIfInBounds_toArray, List.set_cons_zero, List.set_cons_succ])
                  refine wpAnyH_take (i := 28) (v := undef) rfl (by kernel_rfl) (by kernel_rfl) (by kernel_rfl) (fun _ _ _ h => h) (Or.inr ⟨by kernel_rfl, rfl⟩) (by assumption) ?_
                  change wpAnyH _ _ _ _ _ _ _ (Act.put _ (some 71) _) _
                  (try simp only [Act.put, List.setIfInBounds_toArray, List.set_cons_zero, List.set_cons_succ])
                  refine wpAnyH_take (i := 29) (v := undef) rfl (by kernel_rfl) (by kernel_rfl) (by kernel_rfl) (fun _ _ _ h => h) (Or.inr ⟨by kernel_rfl, rfl⟩) (by assumption) ?_
                  change wpAnyH _ _ _ _ _ _ _ (Act.put _ (some 72) _) _
                  (try simp only [Act.put, List.setIfInBounds_toArray, List.set_cons_zero, List.set_cons_succ])
                  refine wpAnyH_take (i := 30) (v := undef) rfl (by kernel_rfl) (by kernel_rfl) (by kernel_rfl) (fun _ _ _ h => h) (Or.inr ⟨by kernel_rfl, rfl⟩) (by assumption) ?_
                  change wpAnyH _ _ _ _ _ _ _ (Act.put _ (some 73) _) _
                  (try simp only [Act.put, List.setIfInBounds_toArray, List.set_cons_zero, List.set_cons_succ])
                  refine wpAnyH_take (i := 31) (v := undef) rfl (by kernel_rfl) (by kernel_rfl) (by kernel_rfl) (fun _ _ _ h => h) (Or.inr ⟨by kernel_rfl, rfl⟩) (by assumption) ?_
                  change wpAnyH _ _ _ _ _ _ _ (Act.put _ (some 74) _) _
                  (try simp only [Act.put, List.setIfInBounds_toArray, List.set_cons_zero, List.set_cons_succ])
                  refine wpAnyH_take (i := 32) (v := undef) rfl (by kernel_rfl) (by kernel_rfl) (by kernel_rfl) (fun _ _ _ h => h) (Or.inr ⟨by kernel_rfl, rfl⟩) (by assumption) ?_
                  change wpAnyH _ _ _ _ _ _ _ (Act.put _ (some 75) _) _
                  (try simp only [Act.put, List.setIfInBounds_toArray, List.set_cons_zero, List.set_cons_succ])
                  refine wpAnyH_take (i := 33) (v := undef) rfl (by kernel_rfl) (by kernel_rfl) (by kernel_rfl) (fun _ _ _ h => h) (Or.inr ⟨by kernel_rfl, rfl⟩) (by assumption) ?_
                  change wpAnyH _ _ _ _ _ _ _ (Act.put _ (some 76) _) _
                  (try simp only [Act.put, List.setIfInBounds_toArray, List.set_cons_zero, List.set_cons_succ])
                  refine wpAnyH_take (i := 34) (v := undef) rfl (by kernel_rfl) (by kernel_rfl) (by kernel_rfl) (fun _ _ _ h => h) (Or.inr ⟨by kernel_rfl, rfl⟩) (by assumption) ?_
                  change wpAnyH _ _ _ _ _ _ _ (Act.put _ (some 77) _) _
                  (try simp only [Act.put, List.setIfInBounds_toArray, List.set_cons_zero, List.set_cons_succ])
                  refine wpAnyH_take (i := 35) (v := ?v4_35) rfl (by kernel_rfl) (by kernel_rfl) (by kernel_rfl) (fun _ _ _ h => h) (Or.inl ⟨by kernel_rfl, ?y4_35⟩) (by assumption) ?r4_35
                  case y4_35 => (intro W hSW; (try dsimp only at hSW); go_simp; (try with_reducible rfl))
                  change wpAnyH _ _ _ _ _ _ _ (Act.put _ (some 78) _) _
                  (try simp only [Act.put, List.setIfInBounds_toArray, List.set_cons_zero, List.set_cons_succ])
                  refine wpAnyH_done (by kernel_rfl) ?_ _
                  go_wp2_with fail
                  go_ret
                  exact ⟨by rw [HX.out]; rfl, hT.1.cf.bel.drew⟩
              · have HX := hide (HF.out (fun g => hzo g.1))
                have HZ : Hid (ofB z c.ports.length = false) := Bool.not_eq_true _ ▸ hzo
                clear hzo hc hg hi
                go_wp2_with fail
                refine wp_region_held_drew (S := fun w' => w'.cell? ⟨w.heap.size, 10, none⟩ = some (.slice (some ⟨pb, po, none⟩) c.ports.length qC)) (by kernel_rfl) (e10) (fun hHeld => ?_)
                refine wpAnyH_take (i := 0) (v := ?v5_0) rfl (by kernel_rfl) (by kernel_rfl) (by kernel_rfl) (fun _ _ _ h => h) (Or.inl ⟨by kernel_rfl, ?y5_0⟩) (by assumption) ?r5_0
                case y5_0 => (intro W hSW; (try dsimp only at hSW); go_simp; (try with_reducible rfl))
                change wpAnyH _ _ _ _ _ _ _ (Act.put _ (some 43) _) _
                (try simp only [Act.put, List.setIfInBounds_toArray, List.set_cons_zero, List.set_cons_succ])
                refine wpAnyH_take (i := 1) (v := ?v5_1) rfl (by kernel_rfl) (by kernel_rfl) (by kernel_rfl) (fun _ _ _ h => h) (Or.inl ⟨by kernel_rfl, ?y5_1⟩) (by assumption) ?r5_1
                case y5_1 => (intro W hSW; (try dsimp only at hSW); go_simp; (try with_reducible rfl))
                change wpAnyH _ _ _ _ _ _ _ (Act.put _ (some 44) _) _
                (try simp only [Act.put, List.setIfInBounds_toArray, List.set_cons_zero, List.set_cons_succ])
                refine wpAnyH_take (i := 2) (v := ?v5_2) rfl (by kernel_rfl) (by kernel_rfl) (by kernel_rfl) (fun _ _ _ h => h) (Or.inl ⟨by kernel_rfl, ?y5_2⟩) (by assumption) ?r5_2
                case y5_2 => (intro W hSW; (try dsimp only at hSW); go_simp; (try with_reducible rfl))
                change wpAnyH _ _ _ _ _ _ _ (Act.put _ (some 45) _) _
                (try simp only [Act.put, List.setIfInBounds_toArray, List.set_cons_zero, List.set_cons_succ])
                refine wpAnyH_ready (rs := [3]) (by kernel_rfl) (by simp) ?_
                refine AllReadyH.cons rfl (fun K hK => ?_) AllReadyH.nil
                rw [if_pos (by rfl)]
                go_simp
                refine (of_ports _ _ _ _ _).mono ?_
                rintro e w1 ⟨rfl, rfl⟩
                rw [HZ.out]
                go_wp2_with fail
                refine hK.out _ _ (e10) (fun hHeld => ?_)
                clear hK K
                (try simp only [Act.put, List.setIfInBounds_toArray, List.set_cons_zero, List.set_cons_succ])
                refine wpAnyH_take (i := 4) (v := ?v5_4) rfl (by kernel_rfl) (by kernel_rfl) (by kernel_rfl) (fun _ _ _ h => h) (Or.inl ⟨by kernel_rfl, ?y5_4⟩) (by assumption) ?r5_4
                case y5_4 => (intro W hSW; (try dsimp only at hSW); go_simp; (try with_reducible rfl))
                change wpAnyH _ _ _ _ _ _ _ (Act.put _ (some 47) _) _
                (try simp only [Act.put, List.setIfInBounds_toArray, List.set_cons_zero, List.set_cons_succ])
                refine wpAnyH_take (i := 5) (v := ?v5_5) rfl (by kernel_rfl) (by kernel_rfl) (by kernel_rfl) (fun _ _ _ h => h) (Or.inl ⟨by kernel_rfl, ?y5_5⟩) (by assumption) ?r5_5
                case y5_5 => (intro W hSW; (try dsimp only at hSW); go_simp; (try with_reducible rfl))
                change wpAnyH _ _ _ _ _ _ _ (Act.put _ (some 48) _) _
                (try simp only [Act.put, List.setIfInBounds_toArray, List.set_cons_zero, List.set_cons_succ])
                refine wpAnyH_take (i := 6) (v := undef) rfl (by kernel_rfl) (by kernel_rfl) (by kernel_rfl) (fun _ _ _ h => h) (Or.inr ⟨by kernel_rfl, rfl⟩) (by assumption) ?_
                change wpAnyH _ _ _ _ _ _ _ (Act.put _ (some 49) _) _
                (try simp only [Act.put, List.setIfInBounds_toArray, List.set_cons_zero, List.set_cons_succ])
                refine wpAnyH_take (i := 7) (v := undef) rfl (by kernel_rfl) (by kernel_rfl) (by kernel_rfl) (fun _ _ _ h => h) (Or.inr ⟨by kernel_rfl, rfl⟩) (by assumption) ?_
                change wpAnyH _ _ _ _ _ _ _ (Act.put _ (some 50) _) _
                (try simp only [Act.put, List.setIfInBounds_toArray, List.set_cons_zero, List.set_cons_succ])
                refine wpAnyH_take (i := 8) (v := undef) rfl (by kernel_rfl) (by kernel_rfl) (by kernel_rfl) (fun _ _ _ h => h) (Or.inr ⟨by kernel_rfl, rfl⟩) (by assumption) ?_
                change wpAnyH _ _ _ _ _ _ _ (Act.put _ (some 51) _) _
                (try simp only [Act.put, List.setIfInBounds_toArray, List.set_cons_zero, List.set_cons_succ])
                refine wpAnyH_take (i := 9) (v := undef) rfl (by kernel_rfl) (by kernel_rfl) (by kernel_rfl) (fun _ _ _ h => h) (Or.inr ⟨by kernel_rfl, rfl⟩) (by assumption) ?_
                change wpAnyH _ _ _ _ _ _ _ (Act.put _ (some 52) _) _
                (try simp only [Act.put, List.setIfInBounds_toArray, List.set_cons_zero, List.set_cons_succ])
                refine wpAnyH_take (i := 10) (v := undef) rfl (by kernel_rfl) (by kernel_rfl) (by kernel_rfl) (fun _ _ _ h => h) (Or.inr ⟨by kernel_rfl, rfl⟩) (by assumption) ?_
                change wpAnyH _ _ _ _ _ _ _ (Act.put _ (some 53) _) _
                (try simp only [Act.put, List.setIfInBounds_toArray, List.set_cons_zero, List.set_cons_succ])
                refine wpAnyH_take (i := 11) (v := undef) rfl (by kernel_rfl) (by kernel_rfl) (by kernel_rfl) (fun _ _ _ h => h) (Or.inr ⟨by kernel_rfl, rfl⟩) (by assumption) ?_
                change wpAnyH _ _ _ _ _ _ _ (Act.put _ (some 54) _) _
                (try simp only [Act.put, List.setIfInBounds_toArray, List.set_cons_zero, List.set_cons_succ])
                refine wpAnyH_take (i := 12) (v := undef) rfl (by kernel_rfl) (by kernel_rfl) (by kernel_rfl) (fun _ _ _ h => h) (Or.inr ⟨by kernel_rfl, rfl⟩) (by assumption) ?_
                change wpAnyH _ _ _ _ _ _ _ (Act.put _ (some 55) _) _
                (try simp only [Act.put, List.setIfInBounds_toArray, List.set_cons_zero, List.set_cons_succ])
                refine wpAnyH_take (i := 13) (v := ?v5_13) rfl (by kernel_rfl) (by kernel_rfl) (by kernel_rfl) (fun _ _ _ h => h) (Or.inl ⟨by kernel_rfl, ?y5_13⟩) (by assumption) ?r5_13
                case y5_13 => (intro W hSW; (try dsimp only at hSW); go_simp; (try with_reducible rfl))
                change wpAnyH _ _ _ _ _ _ _ (Act.put _ (some 56) _) _
                (try simp only [Act.put, List.setIfInBounds_toArray, List.set_cons_zero, List.set_cons_succ])
                refine wpAnyH_take (i := 14) (v := ?v5_14) rfl (by kernel_rfl) (by kernel_rfl) (by kernel_rfl) (fun _ _ _ h => h) (Or.inl ⟨by kernel_rfl, ?y5_14⟩) (by assumption) ?r5_14
                case y5_14 => (intro W hSW; (try dsimp only at hSW); go_simp; (try with_reducible rfl))
                change wpAnyH _ _ _ _ _ _ _ (Act.put _ (some 57) _) _
                (try simp only [Act.put, List.setIfInBounds_toArray, List.set_cons_zero, List.set_cons_succ])
                refine wpAnyH_take (i := 15) (v := undef) rfl (by kernel_rfl) (by kernel_rfl) (by kernel_rfl) (fun _ _ _ h => h) (Or.inr ⟨by kernel_rfl, rfl⟩) (by assumption) ?_
                change wpAnyH _ _ _ _ _ _ _ (Act.put _ (some 58) _) _
                (try simp only [Act.put, List.setIfInBounds_toArray, List.set_cons_zero, List.set_cons_succ])
                refine wpAnyH_take (i := 16) (v := undef) rfl (by kernel_rfl) (by kernel_rfl) (by kernel_rfl) (fun _ _ _ h => h) (Or.inr ⟨by kernel_rfl, rfl⟩) (by assumption) ?_
                change wpAnyH _ _ _ _ _ _ _ (Act.put _ (some 59) _) _
                (try simp only [Act.put, List.setIfInBounds_toArray, List.set_cons_zero, List.set_cons_succ])
                refine wpAnyH_take (i := 17) (v := undef) rfl (by kernel_rfl) (by kernel_rfl) (by kernel_rfl) (fun _ _ _ h => h) (Or.inr ⟨by kernel_rfl, rfl⟩) (by assumption) ?_
                change wpAnyH _ _ _ _ _ _ _ (Act.put _ (some 60) _) _
                (try simp only [Act.put, List.setIfInBounds_toArray, List.set_cons_zero, List.set_cons_succ])
                refine wpAnyH_take (i := 18) (v := undef) rfl (by kernel_rfl) (by kernel_rfl) (by kernel_rfl) (fun _ _ _ h => h) (Or.inr ⟨by kernel_rfl, rfl⟩) (by assumption) ?_
                change wpAnyH _ _ _ _ _ _ _ (Act.put _ (some 61) _) _
                (try simp only [Act.put, List.setIfInBounds_toArray, List.set_cons_zero, List.set_cons_succ])
                refine wpAnyH_take (i := 19) (v := undef) rfl (by kernel_rfl) (by kernel_rfl) (by kernel_rfl) (fun _ _ _ h => h) (Or.inr ⟨by kernel_rfl, rfl⟩) (by assumption) ?_
                change wpAnyH _ _ _ _ _ _ _ (Act.put _ (some 62) _) _
                (try simp only [Act.put, List.setIfInBounds_toArray, List.set_cons_zero, List.set_cons_succ])
                refine wpAnyH_take (i := 20) (v := undef) rfl (by kernel_rfl) (by kernel_rfl) (by kernel_rfl) (fun _ _ _ h => h) (Or.inr ⟨by kernel_rfl, rfl⟩) (by assumption) ?_
                change wpAnyH _ _ _ _ _ _ _ (Act.put _ (some 63) _) _
                (try simp only [Act.put, List.setIfInBounds_toArray, List.set_cons_zero, List.set_cons_succ])
                refine wpAnyH_take (i := 21) (v := undef) rfl (by kernel_rfl) (by kernel_rfl) (by kernel_rfl) (fun _ _ _ h => h) (Or.inr ⟨by kernel_rfl, rfl⟩) (by assumption) ?_
                change wpAnyH _ _ _ _ _ _ _ (Act.put _ (some 64) _) _
                (try simp only [Act.put, List.setIfInBounds_toArray, List.set_cons_zero, List.set_cons_succ])
                refine wpAnyH_take (i := 22) (v := undef) rfl (by kernel_rfl) (by kernel_rfl) (by kernel_rfl) (fun _ _ _ h => h) (Or.inr ⟨by kernel_rfl, rfl⟩) (by assumption) ?_
                change wpAnyH _ _ _ _ _ _ _ (Act.put _ (some 65) _) _
                (try simp only [Act.put, List.setIfInBounds_toArray, List.set_cons_zero, List.set_cons_succ])
                refine wpAnyH_take (i := 23) (v := undef) rfl (by kernel_rfl) (by kernel_rfl) (by kernel_rfl) (fun _ _ _ h => h) (Or.inr ⟨by kernel_rfl, rfl⟩) (by assumption) ?_
                change wpAnyH _ _ _ _ _ _ _ (Act.put _ (some 66) _) _
                (try simp only [Act.put, List.setIfInBounds_toArray, List.set_cons_zero, List.set_cons_succ])
                refine wpAnyH_take (i := 24) (v := ?v5_24) rfl (by kernel_rfl) (by kernel_rfl) (by kernel_rfl) (fun _ _ _ h => h) (Or.inl ⟨by kernel_rfl, ?y5_24⟩) (by assumption) ?r5_24
                case y5_24 => (intro W hSW; (try dsimp only at hSW); go_simp; (try with_reducible rfl))
                change wpAnyH _ _ _ _ _ _ _ (Act.put _ (some 67) _) _
                (try simp only [Act.put, List.setIfInBounds_toArray, List.set_cons_zero, List.set_cons_succ])
                refine wpAnyH_take (i := 25) (v := ?v5_25) rfl (by kernel_rfl) (by kernel_rfl) (by kernel_rfl) (fun _ _ _ h => h) (Or.inl ⟨by kernel_rfl, ?y5_25⟩) (by assumption) ?r5_25
                case y5_25 => (intro W hSW; (try dsimp only at hSW); go_simp; (try with_reducible rfl))
                change wpAnyH _ _ _ _ _ _ _ (Act.put _ (some 68) _) _
                (try simp only [Act.put, List.setIfInBounds_toArray, List.set_cons_zero, List.set_cons_succ])
                refine wpAnyH_take (i := 26) (v := undef) rfl (by kernel_rfl) (by kernel_rfl) (by kernel_rfl) (fun _ _ _ h => h) (Or.inr ⟨by kernel_rfl, rfl⟩) (by assumption) ?_
                change wpAnyH _ _ _ _ _ _ _ (Act.put _ (some 69) _) _
                (try simp only [Act.put, List.setIfInBounds_toArray, List.set_cons_zero, List.set_cons_succ])
                refine wpAnyH_take (i := 27) (v := undef) rfl (by kernel_rfl) (by kernel_rfl) (by kernel_rfl) (fun _ _ _ h => h) (Or.inr ⟨by kernel_rfl, rfl⟩) (by assumption) ?_
                change wpAnyH _ _ _ _ _ _ _ (Act.put _ (some 70) _) _
                (try simp only [Act.put, List.setIfInBounds_toArray, List.set_cons_zero, List.set_cons_succ])
                refine wpAnyH_take (i := 28) (v := undef) rfl (by kernel_rfl) (by kernel_rfl) (by kernel_rfl) (fun _ _ _ h => h) (Or.inr ⟨by kernel_rfl, rfl⟩) (by assumption) ?_
                change wpAnyH _ _ _ _ _ _ _ (Act.put _ (some 71) _) _
                (try simp only [Act.put, List.setIfInBounds_toArray, List.set_cons_zero, List.set_cons_succ])
                refine wpAnyH_take (i := 29) (v := undef) rfl (by kernel_rfl) (by kernel_rfl) (by kernel_rfl) (fun _ _ _ h => h) (Or.inr ⟨by kernel_rfl, rfl⟩) (by assumption) ?_
                change wpAnyH _ _ _ _ _ _ _ (Act.put _ (some 72) _) _
                (try simp only [Act.put, List.setIfInBounds_toArray, List.set_cons_zero, List.set_cons_succ])
                refine wpAnyH_take (i := 30) (v := undef) rfl (by kernel_rfl) (by kernel_rfl) (by kernel_rfl) (fun _ _ _ h => h) (Or.inr ⟨by kernel_rfl, rfl⟩) (by assumption) ?_
                change wpAnyH _ _ _ _ _ _ _ (Act.put _ (some 73) _) _
                (try simp only [Act.put, List.setIfInBounds_toArray, List.set_cons_zero, List.set_cons_succ])
                refine wpAnyH_take (i := 31) (v := undef) rfl (by kernel_rfl) (by kernel_rfl) (by kernel_rfl) (fun _ _ _ h => h) (Or.inr ⟨by kernel_rfl, rfl⟩) (by assumption) ?_
                change wpAnyH _ _ _ _ _ _ _ (Act.put _ (some 74) _) _
                (try simp only [Act.put, List.setIfInBounds_toArray, List.set_cons_zero, List.set_cons_succ])
                refine wpAnyH_take (i := 32) (v := undef) rfl (by kernel_rfl) (by kernel_rfl) (by kernel_rfl) (fun _ _ _ h => h) (Or.inr ⟨by kernel_rfl, rfl⟩) (by assumption) ?_
                change wpAnyH _ _ _ _ _ _ _ (Act.put _ (some 75) _) _
                (try simp only [Act.put, List.setIfInBounds_toArray, List.set_cons_zero, List.set_cons_succ])
                refine wpAnyH_take (i := 33) (v := undef) rfl (by kernel_rfl) (by kernel_rfl) (by kernel_rfl) (fun _ _ _ h => h) (Or.inr ⟨by kernel_rfl, rfl⟩) (by assumption) ?_
                change wpAnyH _ _ _ _ _ _ _ (Act.put _ (some 76) _) _
                (try simp only [Act.put, List.setIfInBounds_toArray, List.set_cons_zero, List.set_cons_succ])
                refine wpAnyH_take (i := 34) (v := undef) rfl (by kernel_rfl) (by kernel_rfl) (by kernel_rfl) (fun _ _ _ h => h) (Or.inr ⟨by kernel_rfl, rfl⟩) (by assumption) ?_
                change wpAnyH _ _ _ _ _ _ _ (Act.put _ (some 77) _) _
                (try simp only [Act.put, List.setIfInBounds_toArray, List.set_cons_zero, List.set_cons_succ])
                refine wpAnyH_take (i := 35) (v := ?v5_35) rfl (by kernel_rfl) (by kernel_rfl) (by kernel_rfl) (fun _ _ _ h => h) (Or.inl ⟨by kernel_rfl, ?y5_35⟩) (by assumption) ?r5_35
                case y5_35 => (intro W hSW; (try dsimp only at hSW); go_simp; (try with_reducible rfl))
                change wpAnyH _ _ _ _ _ _ _ (Act.put _ (some 78) _) _
                (try simp only [Act.put, List.setIfInBounds_toArray, List.set_cons_zero, List.set_cons_succ])
                refine wpAnyH_done (by kernel_rfl) ?_ _
                go_wp2_with fail
                go_ret
                exact ⟨by rw [HX.out]; rfl, hT.1.cf.bel.drew⟩
-- ENDLOOP
            · obtain rfl : j = dests.length := by omega
              obtain ⟨n1, n2⟩ := portB_size HPS.out
              dsimp only at n1 n2
              obtain ⟨q, hq⟩ : ∃ q, inB offset 0 (64 - (1 + ssize)) = q := ⟨_, rfl⟩
              have HK : Hid (decide (LinkOk c ⟨s, dests, offset⟩) = q) := by
                show _ = _
                have e : LinkOk c ⟨s, dests, offset⟩ ↔ inB offset 0 (64 - (1 + ssize)) = true := by
                  unfold LinkOk
                  dsimp only
                  rw [show c.ports.getD ((s : Int)).toNat default = ⟨spart, skind, 1, ssize, sdepth, sfresh⟩ from HSP.out]
                  exact ⟨fun g => g.2.2.2.2, fun g => ⟨HO.out, rfl, fun e => hne (by rw [e]; rfl), H.out, g⟩⟩
                rw [← hq]
                simp only [e]
                cases inB offset 0 (64 - (1 + ssize)) <;> rfl
              have HQ := hide hq
              clear hq H
              obtain ⟨⟨⟨hb, ⟨hl, e0, e1, e2, e3, e4, e5, e6, e7, e8, e9, e10, e11⟩, hg, hc⟩, ⟨hkl, k0, k1, k2⟩, hi⟩, ⟨hpl, y0, y1, y2, y3, y4, y5⟩⟩ := id hT
              clear hg hc hi
              dsimp only at e1 e8 e9 e10 e11 y0 y1 y2 y3 y4 y5
              go_upto_region 10 with fail
              replace hT := LkP.below hT (Below.refl _ _).drew
              refine wp_region_held_drew (S := fun w' => w'.cell? ⟨w.heap.size + 1, 2, none⟩ = some (.int .i64 offset) ∧ w'.cell? ⟨w.heap.size + 2, 0, none⟩ = some (.int .i64 spart) ∧ w'.cell? ⟨w.heap.size + 2, 1, none⟩ = some (.int .i64 skind) ∧ w'.cell? ⟨w.heap.size + 2, 2, none⟩ = some (.int .i64 1) ∧ w'.cell? ⟨w.heap.size + 2, 3, none⟩ = some (.int .i64 ssize) ∧ w'.cell? ⟨w.heap.size + 2, 4, none⟩ = some (.int .i64 sdepth) ∧ w'.cell? ⟨w.heap.size + 2, 5, none⟩ = some (.int .i64 sfresh)) (by kernel_rfl) (⟨k2, y0, y1, y2, y3, y4, y5⟩) (fun hHeld => ?_)
              refine wpAnyH_take (i := 0) (v := ?v91_0) rfl (by kernel_rfl) (by kernel_rfl) (by kernel_rfl) (fun _ _ _ h => h) (Or.inl ⟨by kernel_rfl, ?y91_0⟩) (by assumption) ?r91_0
              case y91_0 => (intro W hSW; (try dsimp only at hSW); go_simp; (try with_reducible rfl))
              change wpAnyH _ _ _ _ _ _ _ (Act.put _ (some 80) _) _
              (try simp only [Act.put, List.setIfInBounds_toArray, List.set_cons_zero, List.set_cons_succ])
              refine wpAnyH_take (i := 1) (v := ?v91_1) rfl (by kernel_rfl) (by kernel_rfl) (by kernel_rfl) (fun _ _ _ h => h) (Or.inl ⟨by kernel_rfl, ?y91_1⟩) (by assumption) ?r91_1
              case y91_1 => (intro W hSW; (try dsimp only at hSW); go_simp; (try with_reducible rfl))
              change wpAnyH _ _ _ _ _ _ _ (Act.put _ (some 81) _) _
              (try simp only [Act.put, List.setIfInBounds_toArray, List.set_cons_zero, List.set_cons_succ])
              refine wpAnyH_take (i := 2) (v := ?v91_2) rfl (by kernel_rfl) (by kernel_rfl) (by kernel_rfl) (fun _ _ _ h => h) (Or.inl ⟨by kernel_rfl, ?y91_2⟩) (by assumption) ?r91_2
              case y91_2 => (intro W hSW; (try dsimp only at hSW); go_simp; (try with_reducible rfl))
              change wpAnyH _ _ _ _ _ _ _ (Act.put _ (some 82) _) _
              (try simp only [Act.put, List.setIfInBounds_toArray, List.set_cons_zero, List.set_cons_succ])
              refine wpAnyH_ready (rs := [3]) (by kernel_rfl) (by simp) ?_
              refine AllReadyH.cons rfl (fun K hK => ?_) AllReadyH.nil
              rw [if_pos (by rfl)]
              go_simp
              (first
                | (go_at_call 229; refine (taken_any ⟨spart, skind, 1, ssize, sdepth, sfresh⟩ _ n1 n2).mono ?_; rintro e w1 ⟨rfl, hb1⟩; clear hb hl e0 e1 e2 e3 e4 e5 e6 e7 e8 e9 e10 e11 hkl k0 k1 k2 hpl y0 y1 y2 y3 y4 y5 hHeld; replace hT := LkP.below hT hb1; clear hb1; obtain ⟨⟨⟨hb, ⟨hl, e0, e1, e2, e3, e4, e5, e6, e7, e8, e9, e10, e11⟩, hg, hc⟩, ⟨hkl, k0, k1, k2⟩, hi⟩, ⟨hpl, y0, y1, y2, y3, y4, y5⟩⟩ := id hT; clear hg hc hi; dsimp only at e1 e8 e9 e10 e11 y0 y1 y2 y3 y4 y5)
                | (go_at_call 221; refine (within_any _ _ _ _).mono ?_; rintro e w1 ⟨rfl, hb1⟩; clear hb hl e0 e1 e2 e3 e4 e5 e6 e7 e8 e9 e10 e11 hkl k0 k1 k2 hpl y0 y1 y2 y3 y4 y5 hHeld; replace hT := LkP.below hT hb1; clear hb1; obtain ⟨⟨⟨hb, ⟨hl, e0, e1, e2, e3, e4, e5, e6, e7, e8, e9, e10, e11⟩, hg, hc⟩, ⟨hkl, k0, k1, k2⟩, hi⟩, ⟨hpl, y0, y1, y2, y3, y4, y5⟩⟩ := id hT; clear hg hc hi; dsimp only at e1 e8 e9 e10 e11 y0 y1 y2 y3 y4 y5))
              go_wp2_with fail
              refine hK.out _ _ (⟨k2, y0, y1, y2, y3, y4, y5⟩) (fun hHeld => ?_)
              clear hK K
              (try simp only [Act.put, List.setIfInBounds_toArray, List.set_cons_zero, List.set_cons_succ])
              refine wpAnyH_take (i := 4) (v := ?v91_4) rfl (by kernel_rfl) (by kernel_rfl) (by kernel_rfl) (fun _ _ _ h => h) (Or.inl ⟨by kernel_rfl, ?y91_4⟩) (by assumption) ?r91_4
              case y91_4 => (intro W hSW; (try dsimp only at hSW); go_simp; (try with_reducible rfl))
              change wpAnyH _ _ _ _ _ _ _ (Act.put _ (some 84) _) _
              (try simp only [Act.put, List.setIfInBounds_toArray, List.set_cons_zero, List.set_cons_succ])
              refine wpAnyH_take (i := 5) (v := ?v91_5) rfl (by kernel_rfl) (by kernel_rfl) (by kernel_rfl) (fun _ _ _ h => h) (Or.inl ⟨by kernel_rfl, ?y91_5⟩) (by assumption) ?r91_5
              case y91_5 => (intro W hSW; (try dsimp only at hSW); go_simp; (try with_reducible rfl))
              change wpAnyH _ _ _ _ _ _ _ (Act.put _ (some 85) _) _
              (try simp only [Act.put, List.setIfInBounds_toArray, List.set_cons_zero, List.set_cons_succ])
              refine wpAnyH_ready (rs := [6]) (by kernel_rfl) (by simp) ?_
              refine AllReadyH.cons rfl (fun K hK => ?_) AllReadyH.nil
              rw [if_pos (by rfl)]
              go_simp
              (first
                | (go_at_call 229; refine (taken_any ⟨spart, skind, 1, ssize, sdepth, sfresh⟩ _ n1 n2).mono ?_; rintro e w1 ⟨rfl, hb1⟩; clear hb hl e0 e1 e2 e3 e4 e5 e6 e7 e8 e9 e10 e11 hkl k0 k1 k2 hpl y0 y1 y2 y3 y4 y5 hHeld; replace hT := LkP.below hT hb1; clear hb1; obtain ⟨⟨⟨hb, ⟨hl, e0, e1, e2, e3, e4, e5, e6, e7, e8, e9, e10, e11⟩, hg, hc⟩, ⟨hkl, k0, k1, k2⟩, hi⟩, ⟨hpl, y0, y1, y2, y3, y4, y5⟩⟩ := id hT; clear hg hc hi; dsimp only at e1 e8 e9 e10 e11 y0 y1 y2 y3 y4 y5)
                | (go_at_call 221; refine (within_any _ _ _ _).mono ?_; rintro e w1 ⟨rfl, hb1⟩; clear hb hl e0 e1 e2 e3 e4 e5 e6 e7 e8 e9 e10 e11 hkl k0 k1 k2 hpl y0 y1 y2 y3 y4 y5 hHeld; replace hT := LkP.below hT hb1; clear hb1; obtain ⟨⟨⟨hb, ⟨hl, e0, e1, e2, e3, e4, e5, e6, e7, e8, e9, e10, e11⟩, hg, hc⟩, ⟨hkl, k0, k1, k2⟩, hi⟩, ⟨hpl, y0, y1, y2, y3, y4, y5⟩⟩ := id hT; clear hg hc hi; dsimp only at e1 e8 e9 e10 e11 y0 y1 y2 y3 y4 y5))
              go_wp2_with fail
              refine hK.out _ _ (⟨k2, y0, y1, y2, y3, y4, y5⟩) (fun hHeld => ?_)
              clear hK K
              (try simp only [Act.put, List.setIfInBounds_toArray, List.set_cons_zero, List.set_cons_succ])
              refine wpAnyH_take (i := 7) (v := ?v91_7) rfl (by kernel_rfl) (by kernel_rfl) (by kernel_rfl) (fun _ _ _ h => h) (Or.inl ⟨by kernel_rfl, ?y91_7⟩) (by assumption) ?r91_7
              case y91_7 => (intro W hSW; (try dsimp only at hSW); go_simp; (try with_reducible rfl))
              change wpAnyH _ _ _ _ _ _ _ (Act.put _ (some 4) _) _
              (try simp only [Act.put, List.setIfInBounds_toArray, List.set_cons_zero, List.set_cons_succ])
              refine wpAnyH_done (by kernel_rfl) ?_ _
              go_wp2_with fail
              go_ret
              refine ⟨?_, hT.1.cf.bel⟩
              rw [HK.out]
              show Ending.returned (.bool (inB offset 0 (IntKind.i64.wrap (64 - (1 + ssize))))) = _
              rw [IntWalk.i64_in _ (by omega), HQ.out]
    · have H : Hid (decide (LinkOk c ⟨s, dests, offset⟩) = false) := by
        show _ = _
        rw [decide_eq_false_iff_not]
        rintro ⟨_, a, _⟩
        exact hdir (by rw [← show c.ports.getD ((s : Int)).toNat default = sp from HSP.out]; exact a)
      have hdb : (sp.dir != 1) = true := by simpa using hdir
      clear hdir
      go_wp2_with (go_at_call 269; refine (of_ports _ _ _ _ _).mono ?_; rintro e w1 ⟨rfl, rfl⟩; rw [HO.out])
      go_ret
      exact ⟨by rw [H.out]; rfl, hb⟩
  · have H : Hid (decide (LinkOk c ⟨source, dests, offset⟩) = false) := by
      show _ = _
      rw [decide_eq_false_iff_not]
      exact fun a => ho a.1
    have HO : Hid (ofB source c.ports.length = false) := Bool.not_eq_true _ ▸ ho
    clear ho hg hc hi
    go_wp2_with (go_at_call 269; refine (of_ports _ _ _ _ _).mono ?_; rintro e w1 ⟨rfl, rfl⟩; rw [HO.out])
    go_ret
    exact ⟨by rw [H.out]; rfl, hb⟩
end Go.Proofs.YtmckidepbibpgaaGreatDoor
