/-
  The partitions of a plan, laid one behind the other on each node.
-/
import Derived.Test.YtdennekkbdlhdaaDoorPnD
import Derived.Test.YtdennekkbdlhdaaDoorPnO
namespace Go.Proofs.YtdennekkbdlhdaaDoor
open Go.RowKit Go.Shelf
attribute [local go_sem] Oper.semAt_some
set_option linter.unusedVariables false
set_option linter.unusedSimpArgs false
set_option maxRecDepth 100000

theorem fitM_of {d : Dm} {N : Nat} (h : Okd d N) (hh : ∀ n, n < N → sumI (memOf (n : Int)) (d.tasks.take d.tasks.length) ≤ 256) : fitM d = true := by
  unfold fitM
  rw [h.toNat, all_range]
  intro n hn
  have := hh n hn
  rw [List.take_length] at this
  exact decide_eq_true this
theorem fitM_not {d : Dm} {N : Nat} (h : Okd d N) {n k : Nat} (hn : n < N) (hh : 256 < sumI (memOf (n : Int)) (d.tasks.take k)) : fitM d = false := by
  rw [Bool.eq_false_iff]
  intro hf
  have h1 := h.mem hf (z := (n : Int)) (by omega) (by rw [← h.hN]; omega)
  have h2 := sumI_take (h.memOf0 (n : Int)) k
  unfold memN at h1
  omega
theorem parts_i64 {d : Dm} {N : Nat} (h : Okd d N) (hf : fitM d = true) : ∀ p ∈ partsTo d.tasks d.tasks.length, I64 p.node ∧ I64 p.lo ∧ I64 p.hi := by
  intro p hp
  obtain ⟨k, hk, rfl⟩ := List.mem_map.1 hp
  have hk := List.mem_range.1 hk
  obtain ⟨t1, t2, t3⟩ := h.tk _ (getD_mem (l := d.tasks) (d := default) hk)
  have e := part_hi hk
  have h0 := sumI_nonneg (f := memOf (d.tasks.getD k default).node) (l := d.tasks.take k) fun t ht => h.memOf0 _ t (List.mem_of_mem_take ht)
  have h1 := sumI_take (h.memOf0 (d.tasks.getD k default).node) (k + 1)
  have h2 := h.mem hf t1.1 t1.2
  have hN := h.hN
  have hn := h.n16
  have g1 : (partAt d.tasks k).node = (d.tasks.getD k default).node := rfl
  have g2 : (partAt d.tasks k).lo = sumI (memOf (d.tasks.getD k default).node) (d.tasks.take k) := rfl
  have g3 : (partAt d.tasks k).hi = sumI (memOf (d.tasks.getD k default).node) (d.tasks.take k) + (d.tasks.getD k default).mem := rfl
  unfold memN at h2
  rw [g1] at e
  unfold memN at e
  unfold I64
  omega

set_option maxHeartbeats 2000000 in
theorem regions_at (d : Dm) (a : Da) (N : Nat) (w : World) (h : DmAt w d a) (ho : Okd d N) :
    Calls Tryd.prog 13 #[d.val a] w fun e w' => Below w.heap.size w w' ∧
      ((fitM d = true ∧ ∃ A c, e = .returned (.tuple #[.slice A d.tasks.length c, .bool true]) ∧ d.tasks.length ≤ c ∧ c ≤ maxLen ∧ ∀ W', Agr w w' W' → Parts W' A (partsTo d.tasks d.tasks.length)) ∨
       (fitM d = false ∧ e = .returned (.tuple #[.slice none 0 0, .bool false]))) := by
  have HD := hide (fun W (hb : Below w.heap.size w W) => h.tasks.of_below hb (Nat.le_refl _))
  have HBx := hide (dm_box w d a 25)
  have HB := hide (bal w (.cells (d.cells a) 25))
  unfold Dm.cells at HB HBx
  have HFy := hide (fitM_of ho)
  have HFn := hide (fun (n k : Nat) => fitM_not ho (n := n) (k := k))
  have HPi := hide (parts_i64 ho)
  have HTk := hide ho.tk
  have HM0 := hide ho.memOf0
  have hN := ho.hN
  have h16 := ho.n16
  have hT := ho.tl
  unfold Dm.val
  obtain ⟨T, hTe⟩ : ∃ T, T = d.tasks.length := ⟨_, rfl⟩
  have HT := hide hTe
  rw [← hTe] at hT HFy HPi HBx HB ⊢
  rw [← hN] at HBx HB ⊢
  have HNn := hide hN
  clear hTe h ho
  have hmk := make_ints N (by omega)
  clear hN
  go_enter Tryd.func13, Tryd.ntmps13
  go_wp2_with fail
  clear hmk
  generalize hW0 : w.alloc (.cells #[.int .i64 (N : Nat), .int .i64 d.drift, .int .i64 d.reading, .int .i64 d.rejoin, .int .i64 d.quota, .slice a.tA T a.tC, .slice a.sA d.streams.length a.sC] 25) = W0 at *
  have hs0 : W0.heap.size = w.heap.size + 1 := by rw [← hW0]; simp
  clear hW0
  have hb1 := bal W0 (.cells (Array.replicate N (Value.int .i64 0)) 3)
  have HX1 := hide (HBx.out.below hb1 HBx.out.lt)
  have HB1 := hide (HB.out.trans (hb1.mono (by omega)))
  have HE1 := hide (nums_new W0 N)
  have hs1 : (W0.alloc (.cells (Array.replicate N (Value.int .i64 0)) 3)).heap.size = w.heap.size + 2 := by simp [hs0]
  rw [hs0] at HE1
  generalize W0.alloc (.cells (Array.replicate N (Value.int .i64 0)) 3) = W1 at *
  clear hb1 hs0 HB HBx
  go_loopw [5, 16] (fun pv kv wr => ∃ k : Nat, k ≤ T ∧ kv = .int .i64 k ∧ wr.ownsRow (w.heap.size + 2) 47 3 pv k ((partsTo d.tasks k).flatMap ptC) ∧ NumsB wr (w.heap.size + 1) (tblTo N memOf d.tasks k) ∧ (∀ n : Nat, n < N → sumI (memOf (n : Int)) (d.tasks.take k) ≤ 256) ∧ DmB wr w.heap.size d a ∧ Below w.heap.size w wr ∧ w.heap.size + 2 ≤ wr.heap.size) (fun _ kv _ => T - (intOf kv).toNat)
  case atStart => exact ⟨0, Nat.zero_le _, rfl, World.ownsRow_nil _ _ _ _, by rw [tbl_zero]; exact HE1.out, fun n _ => by simp [sumI], HX1.out, HB1.out, by omega⟩
  case round =>
    obtain ⟨k, hk, rfl, hO, hE, hM, hX, hb, hs⟩ := hrel
    have HO := hide hO
    have HE := hide hE
    have HM := hide hM
    have HX := hide hX
    have HBr := hide hb
    clear hO hE hM hX
    by_cases hlt : k < T
    · have hkl : k < d.tasks.length := by rw [← HT.out]; exact hlt
      obtain ⟨b, off, hA, hbl, c0, c1, c2⟩ := (HD.out _ hb).at hkl
      rw [hA]
      obtain ⟨⟨t1, t2⟩, ⟨t3, t4⟩, _⟩ := HTk.out _ (getD_mem (d := default) hkl)
      obtain ⟨n, hn⟩ := Int.eq_ofNat_of_zero_le t1
      have hnN : n < N := by have := HNn.out; omega
      have HNx := hide (tbl_next (f := memOf) (l := d.tasks) default hkl (z := n) hnN fun j hj => by unfold memOf; rw [if_neg (by rw [hn]; omega)])
      have hme : memOf (n : Int) (d.tasks.getD k default) = (d.tasks.getD k default).mem := by unfold memOf; rw [if_pos hn]
      rw [hme] at HNx
      have HSn := hide (sumI_next (memOf (n : Int)) d.tasks default k hkl)
      rw [hme] at HSn
      have hE := HE.out.cell (k := n) (by rw [tbl_len]; exact hnN)
      rw [tbl_at _ _ _ _ hnN] at hE
      have hEf := HE.out.free n
      have hEl := HE.out.lt
      have hm0 := sumI_nonneg (f := memOf (n : Int)) (l := d.tasks.take k) fun t ht => HM0.out (n : Int) t (List.mem_of_mem_take ht)
      have hm1 := HM.out n hnN
      have HPa := hide (show partAt d.tasks k = ⟨(n : Int), sumI (memOf (n : Int)) (d.tasks.take k), sumI (memOf (n : Int)) (d.tasks.take k) + (d.tasks.getD k default).mem⟩ by unfold partAt memN; rw [hn])
      generalize d.tasks.getD k default = t at *
      obtain ⟨tn, mem, share⟩ := t
      dsimp only at *
      subst hn
      generalize sumI (memOf (n : Int)) (d.tasks.take k) = m at *
      clear hA hme t1 t2 hkl
      by_cases hbig : 256 < m + mem
      · have HV := hide (HFn.out n (k + 1) hnN (by rw [HSn.out]; exact hbig))
        go_wp2_with fail
        go_ret2
        exact ⟨HBr.out.trans ((bal wr _).mono HBr.out.size), .inr ⟨HV.out, rfl⟩⟩
      · have HM2 := hide (fun (j : Nat) (hj : j < N) => show sumI (memOf (j : Int)) (d.tasks.take (k + 1)) ≤ 256 from by
          have h1 := tbl_at N memOf d.tasks (k + 1) hj
          rw [← HNx.out] at h1
          rw [← h1]
          by_cases e : n = j
          · subst e
            rw [List.getD_eq_getElem?_getD, List.getElem?_set_self (by rw [tbl_len]; exact hj)]
            simp only [Option.getD_some]; omega
          · rw [List.getD_eq_getElem?_getD, List.getElem?_set_ne e, ← List.getD_eq_getElem?_getD, tbl_at N memOf d.tasks k hj]
            exact HM.out j hj)
        have hb7 := bal wr (.cells #[.int .i64 (n : Nat), .int .i64 mem, .int .i64 share] 43)
        have HW7 := hide (heap_alloc_new wr (.cells #[.int .i64 (n : Nat), .int .i64 mem, .int .i64 share] 43))
        have hs7 : (wr.alloc (.cells #[.int .i64 (n : Nat), .int .i64 mem, .int .i64 share] 43)).heap.size = wr.heap.size + 1 := by simp
        have HO7 := hide (own_below HO.out hb7 (Nat.le_refl _))
        have HX7 := hide (HX.out.below hb7 HX.out.lt)
        have HE7 := hide (HE.out.on (hb7.block _ HE.out.lt))
        have HB7 := hide (HBr.out.trans (hb7.mono HBr.out.size))
        obtain ⟨Av, cv, rfl⟩ := own_slice HO.out
        have E := hide (fun w5 (hg : ((wr.alloc (.cells #[.int .i64 (n : Nat), .int .i64 mem, .int .i64 share] 43)).alloc (.cells #[.int .i64 (n : Nat), .int .i64 m, .int .i64 (m + mem)] 47)).grownBy w5 (Value.slice Av k cv).ownBlock) =>
          show Below w.heap.size w w5 ∧ (∀ j, j < wr.heap.size + 1 → (j < w.heap.size + 2 ∨ wr.heap.size ≤ j) → w5.heap[j]? = (wr.alloc (.cells #[.int .i64 (n : Nat), .int .i64 mem, .int .i64 share] 43)).heap[j]?) ∧ wr.heap.size + 2 ≤ w5.heap.size from by
            have hb8 := bal (wr.alloc (.cells #[.int .i64 (n : Nat), .int .i64 mem, .int .i64 share] 43)) (.cells #[.int .i64 (n : Nat), .int .i64 m, .int .i64 (m + mem)] 47)
            refine ⟨below_own (HB7.out.trans (hb8.mono HB7.out.size)) (own_below HO7.out hb8 (Nat.le_refl _)) hg (by omega) (by simp; omega), fun j hj hne => ?_, by have := hg.size; simp at this; omega⟩
            exact (app_keep HO.out (hb7.trans (hb8.mono (by omega))) hg (by simp; omega) hne).trans (hb8.block _ (by rw [hs7]; exact hj)))
        clear hb7
        have HHs := hide hs7
        clear hs7
        go_wp2_with (at_builtin; go_loud (refine wpList_one _ rfl _ _ 29 rfl 47 (.agg #[.int .i64 0, .int .i64 0, .int .i64 0]) 3 24 Tryd.underlying29 info_pt rfl (by decide) (by decide) (w.heap.size + 2) _ _ _ rfl (own_below HO7.out (bal _ _) (Nat.le_refl _)) _ _ [.int .i64 (n : Nat), .int .i64 m, .int .i64 (m + mem)] rfl (heap_alloc2_new wr _ _) rfl (by simp [Value.oneCell']) (by omega) (by simp; omega) ?_); intro v5 w5 hown5 hgr5 hwh; obtain ⟨x1, x2, x3⟩ := E.out w5 hgr5; have HO5 := hide hown5; have HB5 := hide x1; have HK5 := hide x2; have HS5 := hide x3; have d0 : w5.cell? ⟨wr.heap.size, 0, none⟩ = some (.int .i64 (n : Nat)) := (by rw [cell_of_row _ _ _ _ _ _ ((x2 _ (by omega) (.inr (Nat.le_refl _))).trans HW7.out)]; rfl); have hE5 := HE7.out.on (x2 _ (by omega) (.inl (by omega))); have HE5 := hide hE5; have e5 := hE5.cell (k := n) (by rw [tbl_len]; exact hnN); have f5 := hE5.free n; have hX5 := x2 w.heap.size (by omega) (.inl (by omega)); have HX5 := hide hX5; clear hown5 hgr5 hwh x1 x2 x3 hE5 hX5)
        go_roundw
        case rel =>
          refine ⟨k + 1, hlt, by go_num, ?_, ?_, HM2.out, ?_, HB5.out.setCell (p := ⟨w.heap.size + 1, n, none⟩) (by show w.heap.size ≤ w.heap.size + 1; omega) _, by simp; have := HS5.out; omega⟩
          · rw [partsTo_next, List.flatMap_append, HPa.out]
            exact own_stands HO5.out fun j hj => setCell_other (by have := (own_block HO5.out hj).2.1; omega)
          · rw [← HNx.out]
            exact HE5.out.put n _
          · exact (HX7.out.on HX5.out).on (setCell_other (by omega))
        case measure => simp [intOf]; omega
    · obtain rfl : k = T := by omega
      have HV := hide (HFy.out HM.out)
      obtain ⟨A, c, e1, e2, e3, e4⟩ := own_parts (l := partsTo d.tasks k) (by rw [partsTo_len]; exact HO.out) (HPi.out HV.out)
      rw [partsTo_len] at e1 e2
      subst e1
      have HP := hide (fun W' (hg : Agr w wr W') => own_partsA (l := partsTo d.tasks k) (A := A) (c := c) (by rw [partsTo_len]; exact hg.own HO.out (by omega)) (HPi.out HV.out))
      clear e4
      go_wp2_with fail
      go_ret2
      exact ⟨HBr.out, .inl ⟨HV.out, A, c, rfl, e2, e3, HP.out⟩⟩
end Go.Proofs.YtdennekkbdlhdaaDoor
