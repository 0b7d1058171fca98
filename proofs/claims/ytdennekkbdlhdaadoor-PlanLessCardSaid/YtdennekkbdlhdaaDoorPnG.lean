/-
  All rows of windows.
-/
import Derived.Test.YtdennekkbdlhdaaDoorPnF
import Derived.StillTailTactics
import Derived.Deep.Cut
namespace Go.Proofs.YtdennekkbdlhdaaDoor
open Go.RowKit Go.Shelf
attribute [local go_sem] Oper.semAt_some
set_option linter.unusedVariables false
set_option linter.unusedSimpArgs false
set_option maxRecDepth 100000

/-- rows that are made: so many whole, and of the next so many places -/
def rowsB (N i j : Nat) : List (List Int) := (List.range N).map fun n => if n < i then List.replicate N (-1) else if n = i then List.replicate j (-1) else []
theorem rowsB_len (N i j : Nat) : (rowsB N i j).length = N := by simp [rowsB]
theorem rowsB_zero (N : Nat) : rowsB N 0 0 = List.replicate N [] := by
  unfold rowsB
  rw [List.eq_replicate_iff]
  exact ⟨by simp, fun b hb => by
    obtain ⟨n, _, rfl⟩ := List.mem_map.1 hb
    rw [if_neg (by omega)]
    split <;> rfl⟩
theorem rowsB_at {N i j n : Nat} (h : n < N) : (rowsB N i j).getD n [] = if n < i then List.replicate N (-1) else if n = i then List.replicate j (-1) else [] := by
  simp [rowsB, List.getD_eq_getElem?_getD, h]
theorem rows_ext {N : Nat} {A B : List (List Int)} (hA : A.length = N) (hB : B.length = N) (h : ∀ n, n < N → A.getD n [] = B.getD n []) : A = B := by
  refine List.ext_getElem (by omega) fun n h1 h2 => ?_
  have := h n (by omega)
  rwa [List.getD_eq_getElem?_getD, List.getD_eq_getElem?_getD, List.getElem?_eq_getElem h1, List.getElem?_eq_getElem h2] at this
theorem set_getD {L : List (List Int)} {i n : Nat} {s : List Int} (hi : i < L.length) : (L.set i s).getD n [] = if n = i then s else L.getD n [] := by
  simp only [List.getD_eq_getElem?_getD, List.getElem?_set]
  by_cases e : i = n
  · subst e; simp [hi]
  · rw [if_neg e, if_neg (fun x => e x.symm)]
theorem rowsB_put {N i j : Nat} (hi : i < N) : (rowsB N i j).set i (List.replicate j (-1) ++ [-1]) = rowsB N i (j + 1) := by
  refine rows_ext (N := N) (by simp [rowsB_len]) (rowsB_len _ _ _) fun n hn => ?_
  rw [set_getD (by rw [rowsB_len]; exact hi), rowsB_at hn, rowsB_at hn]
  by_cases e : n = i
  · rw [if_pos e, if_neg (by omega), if_pos e, List.replicate_succ']
  · rw [if_neg e, if_neg e, if_neg e]
theorem rowsB_full {N i : Nat} : rowsB N i N = rowsB N (i + 1) 0 := by
  refine rows_ext (N := N) (rowsB_len _ _ _) (rowsB_len _ _ _) fun n hn => ?_
  rw [rowsB_at hn, rowsB_at hn]
  by_cases e : n = i
  · rw [if_neg (by omega), if_pos e, if_pos (by omega)]
  · by_cases e2 : n < i
    · rw [if_pos e2, if_pos (by omega)]
    · rw [if_neg e2, if_neg e, if_neg (by omega)]
      split <;> rfl
theorem rowsB_all (N : Nat) (ts : List Tk) : rowsB N N 0 = rowsTo N ts 0 := by
  refine rows_ext (N := N) (rowsB_len _ _ _) (by simp [rowsTo]) fun n hn => ?_
  rw [rowsB_at hn, if_pos hn, rowsTo_at N ts 0 hn]
  simp [rowTo, givenTo]
theorem rowTo_X (N : Nat) (ts : List Tk) (n : Int) (k : Nat) : rowTo N ts n k = rowX N (givenTo ts n k) := rfl
theorem rowsTo_next {N : Nat} {ts : List Tk} {k n : Nat} (hn : n < N) (hk : (ts.getD k default).node = (n : Int)) : (rowsTo N ts k).set n (rowX N (givenTo ts (n : Int) k ++ List.replicate (ts.getD k default).share.toNat (k : Int))) = rowsTo N ts (k + 1) := by
  refine rows_ext (N := N) (by simp [rowsTo]) (by simp [rowsTo]) fun j hj => ?_
  rw [set_getD (by simp [rowsTo]; exact hn), rowsTo_at N ts _ hj, rowsTo_at N ts _ hj, rowTo_X, rowTo_X, givenTo_next]
  unfold givenOf
  by_cases e : j = n
  · rw [if_pos e, e, if_pos hk]
  · rw [if_neg e, if_neg (by rw [hk]; omega), List.append_nil]
theorem fitS_of {d : Dm} {N : Nat} (h : Okd d N) (hh : ∀ n, n < N → (givenTo d.tasks (n : Int) d.tasks.length).length ≤ N) : fitS d = true := by
  unfold fitS
  rw [h.toNat, all_range]
  intro n hn
  have h1 := hh n hn
  have h2 := givenTo_len d.tasks (n : Int) (fun t ht => (h.tk t ht).2.2.1) d.tasks.length (Nat.le_refl _)
  rw [List.take_length] at h2
  have := h.hN
  exact decide_eq_true (by omega)
theorem fitS_not {d : Dm} {N : Nat} (h : Okd d N) {n k : Nat} (hn : n < N) (hk : k ≤ d.tasks.length) (hh : N < (givenTo d.tasks (n : Int) k).length) : fitS d = false := by
  rw [Bool.eq_false_iff]
  intro hf
  have h1 := h.shr hf (z := (n : Int)) (by omega) (by rw [← h.hN]; omega)
  have h2 := sumI_take (h.shareOf0 (n : Int)) k
  have h3 := givenTo_len d.tasks (n : Int) (fun t ht => (h.tk t ht).2.2.1) k hk
  have := h.hN
  unfold shareN at h1 h3
  omega
theorem rows_i64 {d : Dm} {N : Nat} (h : Okd d N) : ∀ l ∈ rowsTo N d.tasks d.tasks.length, ∀ z ∈ l, I64 z := by
  intro l hl z hz
  obtain ⟨n, hn, rfl⟩ := List.mem_map.1 hl
  unfold rowTo at hz
  have := h.tl
  rcases List.mem_append.1 hz with h1 | h1
  · obtain ⟨g1, g2, g3⟩ := givenTo_nat d.tasks (n : Int) _ _ h1
    unfold I64; omega
  · rw [(List.mem_replicate.1 h1).2]; unfold I64; omega

set_option maxHeartbeats 4000000 in
theorem rows_at (d : Dm) (a : Da) (N : Nat) (w : World) (h : DmAt w d a) (ho : Okd d N) :
    Calls Tryd.prog 14 #[d.val a] w fun e w' => Below w.heap.size w w' ∧
      ((fitS d = true ∧ ∃ A, e = .returned (.tuple #[.slice A N N, .bool true]) ∧ ∀ W', Agr w w' W' → IntRows W' A (rowsTo N d.tasks d.tasks.length)) ∨
       (fitS d = false ∧ e = .returned (.tuple #[.slice none 0 0, .bool false]))) := by
  have HD := hide (fun W (hb : Below w.heap.size w W) => h.tasks.of_below hb (Nat.le_refl _))
  have HBx := hide (dm_box w d a 25)
  have HB := hide (bal w (.cells (d.cells a) 25))
  unfold Dm.cells at HB HBx
  have HFy := hide (fitS_of ho)
  have HFn := hide (fun (n k : Nat) => fitS_not ho (n := n) (k := k))
  have HPi := hide (rows_i64 ho)
  have HTk := hide ho.tk
  have hN := ho.hN
  have h16 := ho.n16
  have hT := ho.tl
  unfold Dm.val
  obtain ⟨T, hTe⟩ : ∃ T, T = d.tasks.length := ⟨_, rfl⟩
  have HT := hide hTe
  rw [← hTe] at hT HFy HPi HBx HB HFn ⊢
  rw [← hN] at HBx HB ⊢
  have HNn := hide hN
  clear hTe h ho
  have hmk := make_rows N (by omega)
  clear hN
  go_enter Tryd.func14, Tryd.ntmps14
  go_wp2_with fail
  clear hmk
  generalize hW0 : w.alloc (.cells #[.int .i64 (N : Nat), .int .i64 d.drift, .int .i64 d.reading, .int .i64 d.rejoin, .int .i64 d.quota, .slice a.tA T a.tC, .slice a.sA d.streams.length a.sC] 25) = W0 at *
  have hs0 : W0.heap.size = w.heap.size + 1 := by rw [← hW0]; simp
  clear hW0
  have hb1 := bal W0 (.cells (Array.replicate N (Value.slice none 0 0)) 28)
  have HX1 := hide (HBx.out.below hb1 HBx.out.lt)
  have HB1 := hide (HB.out.trans (hb1.mono (by omega)))
  have HE1 := hide (rws_new inC 3 28 1 N W0)
  have hs1 : (W0.alloc (.cells (Array.replicate N (Value.slice none 0 0)) 28)).heap.size = w.heap.size + 2 := by simp [hs0]
  rw [hs0, ← rowsB_zero] at HE1
  generalize W0.alloc (.cells (Array.replicate N (Value.slice none 0 0)) 28) = W1 at *
  clear hb1 hs0 HB HBx
  go_loopw [13] (fun iv wr => ∃ (i : Nat) (vs : List Value), i ≤ N ∧ iv = .int .i64 i ∧ RwS inC 3 28 1 wr (w.heap.size + 2) (w.heap.size + 1) vs (rowsB N i 0) ∧ DmB wr w.heap.size d a ∧ Below w.heap.size w wr ∧ w.heap.size + 2 ≤ wr.heap.size) (fun iv _ => N - (intOf iv).toNat)
  case atStart => exact ⟨0, _, Nat.zero_le _, rfl, HE1.out, HX1.out, HB1.out, by omega⟩
  case round =>
    obtain ⟨i, vs, hi, rfl, hE, hX, hb, hs⟩ := hrel
    clear HE1 HX1 HB1 hs1
    by_cases hlt : i < N
    · have HE := hide hE
      have HX := hide hX
      have HBr := hide hb
      obtain ⟨l0, a0, a1, a2, a3, a4, a5, a6⟩ := hX
      rw [← HNn.out] at a0
      clear hE hb
      go_wp2_with fail
      clear l0 a0 a1 a2 a3 a4 a5 a6
      generalize hwo : wr = wo at *
      go_loopw [18] (fun jv wr => ∃ (j : Nat) (vs : List Value), j ≤ N ∧ jv = .int .i64 j ∧ RwS inC 3 28 1 wr (w.heap.size + 2) (w.heap.size + 1) vs (rowsB N i j) ∧ DmB wr w.heap.size d a ∧ Below w.heap.size w wr ∧ w.heap.size + 2 ≤ wr.heap.size) (fun jv _ => N - (intOf jv).toNat)
      case atStart => exact ⟨0, _, Nat.zero_le _, rfl, HE.out, HX.out, HBr.out, hs⟩
      case round =>
        clear hwo hs HE HX HBr
        obtain ⟨j, vs, hj, rfl, hE, hX, hb, hs⟩ := hrel
        have HX := hide hX
        have HBr := hide hb
        by_cases hlj : j < N
        · have hil : i < (rowsB N i j).length := by rw [rowsB_len]; exact hlt
          have ho := hE.own i hil
          rw [rowsB_at hlt, if_neg (Nat.lt_irrefl _), if_pos rfl, List.length_replicate] at ho
          obtain ⟨q0, q1⟩ := hE.cell hil
          obtain ⟨Av, cv, hv⟩ := own_slice ho
          rw [hv] at q0 ho
          have HO := hide ho
          have E := hide (fun v5 w5 (h5 : w5.ownsRow (w.heap.size + 2) 3 1 v5 (j + 1) ((List.replicate j (-1)).flatMap inC ++ [.int .i64 (-1)])) (hg : (wr.alloc (.cells #[.int .i64 (-1)] 3)).grownBy w5 (Value.slice Av j cv).ownBlock) (hw : v5.ownBlock = (Value.slice Av j cv).ownBlock ∨ v5.ownBlock = some (wr.alloc (.cells #[.int .i64 (-1)] 3)).heap.size) =>
            show RwS inC 3 28 1 (w5.setCell ⟨w.heap.size + 1, i, none⟩ v5) (w.heap.size + 2) (w.heap.size + 1) (vs.set i v5) (rowsB N i (j + 1)) ∧ Below w.heap.size w (w5.setCell ⟨w.heap.size + 1, i, none⟩ v5) ∧ DmB (w5.setCell ⟨w.heap.size + 1, i, none⟩ v5) w.heap.size d a ∧ w.heap.size + 2 ≤ (w5.setCell ⟨w.heap.size + 1, i, none⟩ v5).heap.size ∧ w5.frozen? ⟨w.heap.size + 1, i, none⟩ = false ∧ w5.cell? ⟨w.heap.size + 1, i, none⟩ = some (.slice Av j cv) from by
              have hb1 := bal wr (.cells #[.int .i64 (-1)] 3)
              have hsz := hg.size
              simp only [World.size_alloc] at hsz
              have hk0 := app_keep HO.out hb1 hg (k := w.heap.size) (by simp; omega) (.inl (by omega))
              have hk1 := app_keep HO.out hb1 hg (k := w.heap.size + 1) (by simp; omega) (.inl (by omega))
              have hk1' := hk1.trans (hb1.block _ (by omega))
              refine ⟨?_, (below_own (HBr.out.trans (hb1.mono HBr.out.size)) (own_below HO.out hb1 (Nat.le_refl _)) hg (by omega) (by simp; omega)).setCell (p := ⟨w.heap.size + 1, i, none⟩) (by show w.heap.size ≤ w.heap.size + 1; omega) _,
                (HX.out.on (hk0.trans (hb1.block _ (by omega)))).on (setCell_other (by omega)), by simp; omega, ?_, (cell_same hk1' i).trans q0⟩
              · rw [← rowsB_put hlt]
                refine (hE.below hb1).put hil (List.replicate j (-1) ++ [-1]) ?_ (by rw [hv]; exact hg) fun g e => ?_
                · rw [List.flatMap_append, List.length_append, List.length_replicate]; exact h5
                · rw [hv]
                  rcases hw with hw | hw
                  · exact .inl (hw.symm.trans e)
                  · rw [hw] at e; cases e; exact .inr (Nat.le_refl _)
              · have : w5.heap[w.heap.size + 1]? = some (.cells vs.toArray 28 (0, 0)) := hk1'.trans hE.blk
                simp [World.frozen?, this])
          clear hE hX hb ho q1 hv
          go_wp2_with (at_builtin; refine wpList_one _ rfl _ _ 28 rfl 3 (.int .i64 0) 1 8 Tryd.underlying28 info_num rfl (by decide) (by decide) (w.heap.size + 2) _ _ _ rfl (own_below HO.out (bal wr _) (Nat.le_refl _)) _ _ [.int .i64 (-1)] rfl (heap_alloc_new wr _) rfl (by simp [Value.oneCell']) (by omega) (by simp; omega) ?_; intro v5 w5 hown5 hgr5 hwh; obtain ⟨x1, x2, x3, x4, x5, x6⟩ := E.out v5 w5 hown5 hgr5 hwh; obtain ⟨A5, c5, rfl⟩ := own_slice hown5; have HX1 := hide x1; have HX2 := hide x2; have HX3 := hide x3; have HX4 := hide x4; clear hown5 hgr5 hwh x1 x2 x3 x4)
          go_roundw
          case rel => exact ⟨j + 1, _, hlj, by go_num, HX1.out, HX3.out, HX2.out, HX4.out⟩
          case measure => simp [intOf]; omega
        · obtain rfl : j = N := by omega
          have HE := hide hE
          clear hE hX hb
          go_wp2_with fail
          go_roundw
          case rel => exact ⟨i + 1, vs, hlt, by go_num, by rw [← rowsB_full]; exact HE.out, HX.out, HBr.out, hs⟩
          case measure => simp [intOf]; omega
    · obtain rfl : i = N := by omega
      rw [rowsB_all i d.tasks] at hE
      have HE := hide hE
      have HX := hide hX
      have HBr := hide hb
      obtain ⟨l0, a0, a1, a2, a3, a4, a5, a6⟩ := hX
      rw [← HT.out] at a5
      clear hE hb
      go_wp2_with fail
      clear l0 a0 a1 a2 a3 a4 a5 a6
      generalize hwo : wr = wo at *
      go_loopw [34] (fun kv wr => ∃ (k : Nat) (vs : List Value), k ≤ T ∧ kv = .int .i64 k ∧ RwS inC 3 28 1 wr (w.heap.size + 2) (w.heap.size + 1) vs (rowsTo i d.tasks k) ∧ (∀ n : Nat, n < i → (givenTo d.tasks (n : Int) k).length ≤ i) ∧ DmB wr w.heap.size d a ∧ Below w.heap.size w wr ∧ w.heap.size + 2 ≤ wr.heap.size) (fun kv _ => T - (intOf kv).toNat)
      case atStart => exact ⟨0, _, Nat.zero_le _, rfl, HE.out, (fun n _ => by simp [givenTo]), HX.out, HBr.out, hs⟩
      case round =>
        clear hwo hs HE HX HBr
        obtain ⟨k, vs, hk, rfl, hE, hG, hX, hb, hs⟩ := hrel
        have HX := hide hX
        have HBr := hide hb
        have HG := hide hG
        clear hG
        by_cases hkt : k < T
        · have hkl : k < d.tasks.length := by rw [← HT.out]; exact hkt
          obtain ⟨b, off, hA, hbl, c0, c1, c2⟩ := (HD.out _ hb).at hkl
          rw [hA]
          obtain ⟨⟨t1, t2⟩, _, ⟨t3, t4⟩⟩ := HTk.out _ (getD_mem (d := default) hkl)
          obtain ⟨n, hn⟩ := Int.eq_ofNat_of_zero_le t1
          obtain ⟨s, hsh⟩ := Int.eq_ofNat_of_zero_le t3
          have hnN : n < i := by have := HNn.out; omega
          have hs16 : s ≤ 16 := by have := HNn.out; omega
          have HNx := hide (rowsTo_next (ts := d.tasks) (k := k) hnN hn)
          have HGn := hide (show ∀ m : Nat, givenTo d.tasks (m : Int) (k + 1) = givenTo d.tasks (m : Int) k ++ (if n = m then List.replicate s (k : Int) else []) from fun m => by
            rw [givenTo_next]; unfold givenOf
            by_cases e : n = m
            · rw [if_pos e, if_pos (by rw [hn, e]), hsh, Int.toNat_natCast]
            · rw [if_neg e, if_neg (by rw [hn]; omega)])
          rw [hsh, Int.toNat_natCast] at HNx
          have hil : n < (rowsTo i d.tasks k).length := by simp [rowsTo]; exact hnN
          have ho := hE.own n hil
          rw [rowsTo_at i d.tasks k hnN, rowTo_X, rowX_len (HG.out n hnN), inC_map] at ho
          obtain ⟨q0, q1⟩ := hE.cell hil
          obtain ⟨Av, cv, hv⟩ := own_slice ho
          rw [hv] at q0 ho
          have hX1 := HG.out n hnN
          have HXm := hide (show ∀ x ∈ givenTo d.tasks (n : Int) k, x ≠ -1 from fun x hx => by have := (givenTo_nat d.tasks (n : Int) k x hx).1; omega)
          generalize d.tasks.getD k default = t at *
          obtain ⟨tn, mem, share⟩ := t
          dsimp only at *
          subst hn hsh
          have hi0 : 0 < i := by omega
          obtain ⟨g, rfl⟩ : ∃ g, Av = some ⟨g, 0, none⟩ := by
            rcases ho.2 with ⟨h1, h2⟩ | ⟨g, cap, cur, h1, _⟩
            · omega
            · cases h1; exact ⟨g, rfl⟩
          have hb7 := bal wr (.cells #[.int .i64 (n : Nat), .int .i64 mem, .int .i64 (s : Nat)] 43)
          have HE7 := hide (hE.below hb7)
          have HX7 := hide (HX.out.below hb7 HX.out.lt)
          have HB7 := hide (HBr.out.trans (hb7.mono HBr.out.size))
          have HO7 := hide (own_below ho hb7 (Nat.le_refl _))
          have HW7 := hide (heap_alloc_new wr (.cells #[.int .i64 (n : Nat), .int .i64 mem, .int .i64 (s : Nat)] 43))
          have q7 := (bcl hb7 (World.block_lt_of_cell? _ _ q0)).trans q0
          have hs7 : (wr.alloc (.cells #[.int .i64 (n : Nat), .int .i64 mem, .int .i64 (s : Nat)] 43)).heap.size = wr.heap.size + 1 := by simp
          have HHv := hide hv
          clear ho hE hX hb hv hb7 q0 q1 hA t1 t2 t3 t4
          go_upto_region 13 with fail
          clear c0 c1 c2
          have c0 : (wr.alloc (.cells #[.int .i64 (n : Nat), .int .i64 mem, .int .i64 (s : Nat)] 43)).drew.cell? ⟨wr.heap.size, 0, none⟩ = some (.int .i64 (n : Nat)) := by
            show (wr.alloc (.cells #[.int .i64 (n : Nat), .int .i64 mem, .int .i64 (s : Nat)] 43)).cell? _ = _
            rw [cell_of_row _ _ _ _ _ _ HW7.out]; rfl
          have c2 : (wr.alloc (.cells #[.int .i64 (n : Nat), .int .i64 mem, .int .i64 (s : Nat)] 43)).drew.cell? ⟨wr.heap.size, 2, none⟩ = some (.int .i64 (s : Nat)) := by
            show (wr.alloc (.cells #[.int .i64 (n : Nat), .int .i64 mem, .int .i64 (s : Nat)] 43)).cell? _ = _
            rw [cell_of_row _ _ _ _ _ _ HW7.out]; rfl
          have q7' : (wr.alloc (.cells #[.int .i64 (n : Nat), .int .i64 mem, .int .i64 (s : Nat)] 43)).drew.cell? ⟨w.heap.size + 1, n, none⟩ = some (.slice (some ⟨g, 0, none⟩) i cv) := q7
          generalize hw7 : (wr.alloc (.cells #[.int .i64 (n : Nat), .int .i64 mem, .int .i64 (s : Nat)] 43)) = W7 at *
          go_still_tail 8, (by kernel_rfl)
          change wpList _ _ _ _ _ W7.drew
          have HE8 := hide (show RwS inC 3 28 1 W7.drew (w.heap.size + 2) (w.heap.size + 1) vs (rowsTo i d.tasks k) from HE7.out.below (below_drewN (Below.refl _ _) 1))
          have HX8 := hide (show DmB W7.drew w.heap.size d a from HX7.out.on rfl)
          have HB8 := hide (show Below w.heap.size w W7.drew from HB7.out.drew)
          have HO8 := hide (own_below HO7.out (show Below W7.heap.size W7 W7.drew from below_drewN (Below.refl _ _) 1) (Nat.le_refl _))
          have hs8 : W7.drew.heap.size = wr.heap.size + 1 := hs7
          clear hw7 HE7 HX7 HB7 HO7 HW7 q7 hs7
          generalize W7.drew = W8 at *
          have HGv := hide (give_at g (w.heap.size + 2) i cv (givenTo d.tasks (n : Int) k) (k : Int) s W8 HO8.out HXm.out (by omega) (by omega) hX1 (by omega))
          go_wp2_with fail
          refine HGv.out.mono ?_
          rintro e W9 ⟨hg9, hsz9, hgood⟩
          have hB9 := hide (HB8.out.grown hg9 (by rw [hs8]; omega) fun q e => by cases e; have := (own_block HO8.out (k := g) rfl).2.1; omega)
          have hg8 : W8.grownBy W9 (vs.getD n undef).ownBlock := by rw [HHv.out]; exact hg9
          have hgB := (own_block HO8.out (k := g) rfl).2.1
          rcases hgood with ⟨g1, rfl, hO9⟩ | ⟨g1, rfl⟩
          · have hE9 := hide (HE8.out.turn hil (rowX i (givenTo d.tasks (n : Int) k ++ List.replicate s (k : Int))) (by rw [HHv.out, rowX_len (by simpa using g1), inC_map]; exact hO9) hg8)
            have hX9 := hide (HX8.out.on (hg9.block w.heap.size (by rw [hs8]; omega) (fun e => by cases e; omega)))
            clear hg9 hO9 hg8
            go_wp2_with fail
            go_roundw
            case rel =>
              refine ⟨k + 1, vs, hkt, by go_num, by rw [← HNx.out]; exact hE9.out, fun m hm => ?_, hX9.out, hB9.out, by rw [hsz9, hs8]; omega⟩
              rw [HGn.out]
              by_cases e : n = m
              · subst e; rw [if_pos rfl]; simpa using g1
              · rw [if_neg e, List.append_nil]; exact HG.out m hm
            case measure => simp [intOf]; omega
          · have HV := hide (HFn.out n (k + 1) hnN hkt (by rw [HGn.out, if_pos rfl]; simpa using g1))
            clear hg9 hg8
            go_wp2_with fail
            go_ret2
            exact ⟨hB9.out, .inr ⟨HV.out, rfl⟩⟩
        · obtain rfl : k = T := by omega
          have HV := hide (HFy.out HG.out)
          have HR := hide (fun W' (hg : Agr w wr W') => (hE.agr hg (by omega)).intRows HPi.out)
          clear hE hX hb
          go_wp2_with fail
          go_ret2
          exact ⟨HBr.out, .inl ⟨HV.out, _, rfl, HR.out⟩⟩
end Go.Proofs.YtdennekkbdlhdaaDoor
