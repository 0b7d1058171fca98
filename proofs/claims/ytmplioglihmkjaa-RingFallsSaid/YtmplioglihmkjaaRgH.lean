/-
  Hyper, the program's own: a closure that puts numbers together.
-/
import Derived.Test.YtmplioglihmkjaaRgG
namespace Go.Proofs.Ytmplioglihmkjaa
open Go.RowKit Go.Shelf
set_option linter.unusedVariables false
set_option linter.unusedSimpArgs false

structure HyS (w W : World) (s : Int × Int) : Prop where
  bel : Below w.heap.size w W
  c0 : W.heap[w.heap.size]? = some (.cells #[.int .i64 s.1] 3 (0, 0))
  c1 : W.heap[w.heap.size + 1]? = some (.cells #[.int .i64 s.2] 24 (0, 0))
theorem HyS.of_below {w W W' : World} {s : Int × Int} (h : HyS w W s) (hb : Below W.heap.size W W') : HyS w W' s :=
  ⟨h.bel.trans (hb.mono h.bel.size), (hb.block _ (Array.getElem?_eq_some_iff.1 h.c0).1).trans h.c0, (hb.block _ (Array.getElem?_eq_some_iff.1 h.c1).1).trans h.c1⟩
theorem HyS.set {w W : World} {s : Int × Int} (h : HyS w W s) (t : Int × Int) : HyS w ((W.setCell ⟨w.heap.size, 0, none⟩ (.int .i64 t.1)).setCell ⟨w.heap.size + 1, 0, none⟩ (.int .i64 t.2)) t := by
  refine ⟨(h.bel.setCell (p := ⟨w.heap.size, 0, none⟩) (Nat.le_refl _) _).setCell (p := ⟨w.heap.size + 1, 0, none⟩) (by show w.heap.size ≤ w.heap.size + 1; omega) _, ?_, ?_⟩
  · rw [setCell_other (by omega), set_cells h.c0]; rfl
  · rw [set_cells ((setCell_other (by omega)).trans h.c1)]; rfl

set_option maxHeartbeats 1000000 in
theorem join_at (w W : World) (s : Int × Int) (a : Int) (h : HyS w W s) :
    Calls Try.prog 46 #[.int .i64 a, .pointer (some ⟨w.heap.size, 0, none⟩), .pointer (some ⟨w.heap.size + 1, 0, none⟩)] W fun e w' =>
      e = .returned (.bool (decide ((lcmF s.1 a).2 = 0))) ∧ HyS w w' (lcmF s.1 a) := by
  have HS := hide h
  have hc0 : W.cell? ⟨w.heap.size, 0, none⟩ = some (.int .i64 s.1) := by rw [cell_of_row _ _ _ _ _ _ h.c0]; rfl
  have hL := fun W => lcm_at s.1 a W
  generalize hr : lcmF s.1 a = r at *
  obtain ⟨x, y⟩ := r
  have HL := hide hL
  clear h hL hr
  go_enter Try.func46, Try.ntmps46
  go_wp2_with fail
  refine (HL.out _).mono ?_
  rintro e w1 ⟨rfl, hb⟩
  have HS1 := hide (HS.out.of_below hb)
  have d0 : w1.cell? ⟨w.heap.size, 0, none⟩ = some (.int .i64 s.1) := by rw [cell_of_row _ _ _ _ _ _ HS1.out.c0]; rfl
  have d1 : w1.cell? ⟨w.heap.size + 1, 0, none⟩ = some (.int .i64 s.2) := by rw [cell_of_row _ _ _ _ _ _ HS1.out.c1]; rfl
  have f0 : w1.frozen? ⟨w.heap.size, 0, none⟩ = false := by simp [World.frozen?, HS1.out.c0]
  have f1 : w1.frozen? ⟨w.heap.size + 1, 0, none⟩ = false := by simp [World.frozen?, HS1.out.c1]
  have HT := hide (HS1.out.set (x, y))
  clear hb hc0
  unfold twoV
  go_wp2_with fail
  go_ret
  refine ⟨ret_bool ?_, HT.out⟩
  rw [Bool.eq_iff_iff, decide_eq_true_iff]; exact beq_iff_eq

theorem all_same {n k : Nat} {l : List Int} (h : k = n) (hn : n = l.length) : l.take k = l := by rw [h, hn, List.take_length]
set_option maxHeartbeats 1000000 in
theorem hyper_at (l : List Int) (A : Option Addr) (c : Nat) (w : World) (hI : Ints w A l) (hl : l.length ≤ 9223372036854775806) :
    Calls Try.prog 29 #[.slice A l.length c] w fun e w' => e = .returned (twoV (hypF l)) ∧ Below w.heap.size w w' := by
  have HI := hide hI
  obtain ⟨n, hn⟩ : ∃ n, n = l.length := ⟨_, rfl⟩
  have HN := hide hn
  rw [← hn] at hl ⊢
  clear hI hn
  go_enter Try.func29, Try.ntmps29
  go_wp2_with fail
  have HS : Hid (HyS w ((w.alloc (.cells #[.int .i64 1] 3)).alloc (.cells #[.int .i64 0] 24)) (1, 0)) :=
    ⟨(bal w _).alloc (by simp) _, heap_alloc2_old w _ _, heap_alloc2_new w _ _⟩
  generalize (w.alloc (.cells #[.int .i64 1] 3)).alloc (.cells #[.int .i64 0] 24) = wa at *
  go_loopw [12, 8] (fun i x wr => ∃ k : Nat, k ≤ n ∧ i = .int .i64 k ∧ (hypF (l.take k)).2 = 0 ∧ HyS w wr (hypF (l.take k))) (fun i _ _ => n - (intOf i).toNat)
  case atStart => exact ⟨0, Nat.zero_le _, rfl, rfl, HS.out⟩
  case round =>
    obtain ⟨k, hk, rfl, h0, hs⟩ := hrel
    have HSr := hide hs
    have HE := hide h0
    by_cases hlt : k < n
    · have hkl : k < l.length := by rw [← HN.out]; exact hlt
      obtain ⟨b, off, rfl, hbl, hc⟩ := (HI.out.of_below hs.bel (Nat.le_refl _)).at hkl
      have HK := hide (show hypF (l.take (k + 1)) = lcmF (hypF (l.take k)).1 (l.getD k 0) from by
        rw [take_snoc l 0 k hkl, hyp_snoc]; exact if_pos HE.out)
      have HTk := hide (fun (h : (hypF (l.take (k + 1))).2 ≠ 0) => hyp_take (l := l) (k := k + 1) rfl h)
      have HJ := hide (fun W h => join_at w W (hypF (l.take k)) (l.getD k 0) h)
      rw [← HK.out] at HJ
      generalize l.getD k 0 = z at *
      generalize hypF (l.take k) = s at *
      generalize hG : hypF (l.take (k + 1)) = t at *
      have HG := hide hG
      clear hG
      clear hs h0 hkl
      by_cases ht : t.2 = 0
      · have HD := hide (decide_eq_true ht)
        have HT := hide ht
        clear ht
        go_wp2_with fail
        refine (HJ.out _ HSr.out).mono ?_
        rintro e w2 ⟨rfl, hs2⟩
        rw [HD.out]
        have HS2 := hide hs2
        clear hs2
        go_wp2_with fail
        go_roundw
        case rel => exact ⟨k + 1, by omega, by go_num, by rw [HG.out]; exact HT.out, by rw [HG.out]; exact HS2.out⟩
        case measure => simp [intOf]; omega
      · have HD := hide (decide_eq_false ht)
        have HV := hide (HTk.out ht)
        clear ht
        go_wp2_with fail
        refine (HJ.out _ HSr.out).mono ?_
        rintro e w2 ⟨rfl, hs2⟩
        rw [HD.out]
        have HS2 := hide hs2
        have d0 : w2.cell? ⟨w.heap.size, 0, none⟩ = some (.int .i64 t.1) := by rw [cell_of_row _ _ _ _ _ _ HS2.out.c0]; rfl
        have d1 : w2.cell? ⟨w.heap.size + 1, 0, none⟩ = some (.int .i64 t.2) := by rw [cell_of_row _ _ _ _ _ _ HS2.out.c1]; rfl
        clear hs2
        go_wp2_with fail
        go_region
        go_wp2_with fail
        go_ret2
        exact ⟨by rw [HV.out]; rfl, below_drew HS2.out.bel⟩
    · have HT := hide (show hypF (l.take k) = hypF l from by rw [all_same (show k = n by omega) HN.out])
      rw [HT.out] at HSr
      have d0 : wr.cell? ⟨w.heap.size, 0, none⟩ = some (.int .i64 (hypF l).1) := by rw [cell_of_row _ _ _ _ _ _ HSr.out.c0]; rfl
      have d1 : wr.cell? ⟨w.heap.size + 1, 0, none⟩ = some (.int .i64 (hypF l).2) := by rw [cell_of_row _ _ _ _ _ _ HSr.out.c1]; rfl
      generalize hG : hypF l = t at *
      have HG := hide hG
      clear hs h0 hG
      go_wp2_with fail
      go_region
      go_wp2_with fail
      go_ret2
      exact ⟨by rw [HG.out]; rfl, below_drew HSr.out.bel⟩
end Go.Proofs.Ytmplioglihmkjaa
