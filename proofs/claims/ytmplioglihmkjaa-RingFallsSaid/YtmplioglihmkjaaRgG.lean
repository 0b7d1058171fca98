/-
  Falls and Hyper, the program's own.
-/
import Derived.Test.YtmplioglihmkjaaRgF
namespace Go.Proofs.Ytmplioglihmkjaa
open Go.RowKit Go.Shelf
set_option linter.unusedVariables false
set_option linter.unusedSimpArgs false

theorem up_at (a b : Int) (hb : 0 < b) (ha : -8589934592 ≤ a ∧ a ≤ 8589934592) (hb2 : b ≤ 2147483647) (w : World) :
    Calls Try.prog 49 #[.int .i64 a, .int .i64 b] w fun e w' => e = .returned (.int .i64 (cl a b)) ∧ w = w' := by
  have H := hide (cl_t (a := a) hb)
  have hr := cl_rng hb ha
  have hb0 : (b == 0) = false := beq_eq_false_iff_ne.2 (by omega)
  by_cases hc : 0 < a.tmod b
  · have HV := hide (show cl a b = a.tdiv b + 1 from by rw [H.out, if_pos hc])
    rw [HV.out] at hr
    have h1 : -9223372036854775808 ≤ a.tdiv b ∧ a.tdiv b ≤ 9223372036854775807 := by omega
    go_enter Try.func49, Try.ntmps49
    go_wp2
    go_ret
    exact ⟨by rw [HV.out]; rfl, rfl⟩
  · have HV := hide (show cl a b = a.tdiv b from by rw [H.out, if_neg hc])
    rw [HV.out] at hr
    go_enter Try.func49, Try.ntmps49
    go_wp2
    go_ret
    exact ⟨by rw [HV.out]; rfl, rfl⟩

set_option maxHeartbeats 1000000 in
theorem next_at (a p o v : Int) (bo bp : Nat) (W : World) (co : W.cell? ⟨bo, 0, none⟩ = some (.int .i64 o)) (cp : W.cell? ⟨bp, 0, none⟩ = some (.int .i64 p))
    (ha : -2147483648 ≤ a ∧ a ≤ 2147483647) (ho : -2147483648 ≤ o ∧ o ≤ 2147483647)
    (hu : ∀ W, Calls Try.prog 49 #[.int .i64 (a - o), .int .i64 p] W fun e w' => e = .returned (.int .i64 v) ∧ W = w') :
    Calls Try.prog 48 #[.int .i64 a, .pointer (some ⟨bo, 0, none⟩), .pointer (some ⟨bp, 0, none⟩)] W fun e w' => e = .returned (.int .i64 v) ∧ W = w' := by
  have HU := hide hu
  clear hu
  go_enter Try.func48, Try.ntmps48
  go_wp2_with fail
  refine (HU.out _).mono ?_
  rintro e w' ⟨rfl, rfl⟩
  go_wp2_with fail
  go_ret
  exact ⟨rfl, rfl⟩

set_option maxHeartbeats 1000000 in
theorem falls_at (p o f t : Int) (w : World) :
    Calls Try.prog 31 #[.int .i64 p, .int .i64 o, .int .i64 f, .int .i64 t] w fun e w' => e = .returned (twoV (fallsF p o f t)) ∧ Below w.heap.size w w' := by
  by_cases hp : per p
  · by_cases ho : num o
    · by_cases hf : num f
      · by_cases ht : num t
        · have HV := hide (show fallsF p o f t = (max (cl (t - o) p - cl (f - o) p) 0, 0) from if_pos ⟨hp, ho, hf, ht⟩)
          obtain ⟨p1, p2⟩ := id hp
          obtain ⟨o1, o2⟩ := id ho
          obtain ⟨f1, f2⟩ := id hf
          obtain ⟨t1, t2⟩ := id ht
          have HP := hide (decide_eq_true hp)
          have HO := hide (decide_eq_true ho)
          have HF := hide (decide_eq_true hf)
          have HT := hide (decide_eq_true ht)
          have HU := hide (fun W => up_at (t - o) p (by omega) (by omega) p2 W)
          have HD := hide (fun W => up_at (f - o) p (by omega) (by omega) p2 W)
          have r1 := cl_rng (a := t - o) (b := p) (by omega) (by omega)
          have r2 := cl_rng (a := f - o) (b := p) (by omega) (by omega)
          generalize cl (t - o) p = x at *
          generalize cl (f - o) p = y at *
          clear hp ho hf ht
          go_enter Try.func31, Try.ntmps31
          go_wp2_with fail
          have HB : Hid (Below w.heap.size w ((w.alloc (.cells #[.int .i64 p] 3)).alloc (.cells #[.int .i64 o] 3))) := (bal w _).alloc (by simp) _
          have c0 : ((w.alloc (.cells #[.int .i64 p] 3)).alloc (.cells #[.int .i64 o] 3)).cell? ⟨w.heap.size, 0, none⟩ = some (.int .i64 p) := by rw [cell_of_row _ _ _ _ _ _ (heap_alloc2_old w _ _)]; rfl
          have c1 : ((w.alloc (.cells #[.int .i64 p] 3)).alloc (.cells #[.int .i64 o] 3)).cell? ⟨w.heap.size + 1, 0, none⟩ = some (.int .i64 o) := by rw [cell_of_row _ _ _ _ _ _ (heap_alloc2_new w _ _)]; rfl
          generalize (w.alloc (.cells #[.int .i64 p] 3)).alloc (.cells #[.int .i64 o] 3) = wa at *
          refine (isPeriod_at p _).mono ?_
          rintro e w' ⟨rfl, rfl⟩
          rw [HP.out]
          go_wp2_with fail
          refine (isNumber_at o _).mono ?_
          rintro e w' ⟨rfl, rfl⟩
          rw [HO.out]
          go_wp2_with fail
          refine (isNumber_at f _).mono ?_
          rintro e w' ⟨rfl, rfl⟩
          rw [HF.out]
          go_wp2_with fail
          refine (isNumber_at t _).mono ?_
          rintro e w' ⟨rfl, rfl⟩
          rw [HT.out]
          go_wp2_with fail
          refine (next_at t p o x _ _ wa c1 c0 ⟨t1, t2⟩ ⟨o1, o2⟩ HU.out).mono ?_
          rintro e w' ⟨rfl, rfl⟩
          go_wp2_with fail
          refine (next_at f p o y _ _ wa c1 c0 ⟨f1, f2⟩ ⟨o1, o2⟩ HD.out).mono ?_
          rintro e w' ⟨rfl, rfl⟩
          go_wp2_with fail
          · go_ret2
            exact ⟨by rw [HV.out]; unfold twoV; dsimp only; rw [show max (x - y) 0 = 0 by omega]; rfl, HB.out⟩
          · go_ret2
            exact ⟨by rw [HV.out]; unfold twoV; dsimp only; rw [show max (x - y) 0 = x - y by omega]; rfl, HB.out⟩
        · have HV := hide (show fallsF p o f t = (0, 2) from if_neg fun h => ht h.2.2.2)
          have HP := hide (decide_eq_true hp)
          have HO := hide (decide_eq_true ho)
          have HF := hide (decide_eq_true hf)
          have HT := hide (decide_eq_false ht)
          clear hp ho hf ht
          go_enter Try.func31, Try.ntmps31
          go_wp2_with fail
          have HB : Hid (Below w.heap.size w ((w.alloc (.cells #[.int .i64 p] 3)).alloc (.cells #[.int .i64 o] 3))) := (bal w _).alloc (by simp) _
          have c0 : ((w.alloc (.cells #[.int .i64 p] 3)).alloc (.cells #[.int .i64 o] 3)).cell? ⟨w.heap.size, 0, none⟩ = some (.int .i64 p) := by rw [cell_of_row _ _ _ _ _ _ (heap_alloc2_old w _ _)]; rfl
          have c1 : ((w.alloc (.cells #[.int .i64 p] 3)).alloc (.cells #[.int .i64 o] 3)).cell? ⟨w.heap.size + 1, 0, none⟩ = some (.int .i64 o) := by rw [cell_of_row _ _ _ _ _ _ (heap_alloc2_new w _ _)]; rfl
          generalize (w.alloc (.cells #[.int .i64 p] 3)).alloc (.cells #[.int .i64 o] 3) = wa at *
          refine (isPeriod_at p _).mono ?_
          rintro e w' ⟨rfl, rfl⟩
          rw [HP.out]
          go_wp2_with fail
          refine (isNumber_at o _).mono ?_
          rintro e w' ⟨rfl, rfl⟩
          rw [HO.out]
          go_wp2_with fail
          refine (isNumber_at f _).mono ?_
          rintro e w' ⟨rfl, rfl⟩
          rw [HF.out]
          go_wp2_with fail
          refine (isNumber_at t _).mono ?_
          rintro e w' ⟨rfl, rfl⟩
          rw [HT.out]
          go_wp2_with fail
          go_ret2
          exact ⟨by rw [HV.out]; rfl, HB.out⟩
      · have HV := hide (show fallsF p o f t = (0, 2) from if_neg fun h => hf h.2.2.1)
        have HP := hide (decide_eq_true hp)
        have HO := hide (decide_eq_true ho)
        have HF := hide (decide_eq_false hf)
        clear hp ho hf
        go_enter Try.func31, Try.ntmps31
        go_wp2_with fail
        have HB : Hid (Below w.heap.size w ((w.alloc (.cells #[.int .i64 p] 3)).alloc (.cells #[.int .i64 o] 3))) := (bal w _).alloc (by simp) _
        have c0 : ((w.alloc (.cells #[.int .i64 p] 3)).alloc (.cells #[.int .i64 o] 3)).cell? ⟨w.heap.size, 0, none⟩ = some (.int .i64 p) := by rw [cell_of_row _ _ _ _ _ _ (heap_alloc2_old w _ _)]; rfl
        have c1 : ((w.alloc (.cells #[.int .i64 p] 3)).alloc (.cells #[.int .i64 o] 3)).cell? ⟨w.heap.size + 1, 0, none⟩ = some (.int .i64 o) := by rw [cell_of_row _ _ _ _ _ _ (heap_alloc2_new w _ _)]; rfl
        generalize (w.alloc (.cells #[.int .i64 p] 3)).alloc (.cells #[.int .i64 o] 3) = wa at *
        refine (isPeriod_at p _).mono ?_
        rintro e w' ⟨rfl, rfl⟩
        rw [HP.out]
        go_wp2_with fail
        refine (isNumber_at o _).mono ?_
        rintro e w' ⟨rfl, rfl⟩
        rw [HO.out]
        go_wp2_with fail
        refine (isNumber_at f _).mono ?_
        rintro e w' ⟨rfl, rfl⟩
        rw [HF.out]
        go_wp2_with fail
        go_ret2
        exact ⟨by rw [HV.out]; rfl, HB.out⟩
    · have HV := hide (show fallsF p o f t = (0, 2) from if_neg fun h => ho h.2.1)
      have HP := hide (decide_eq_true hp)
      have HO := hide (decide_eq_false ho)
      clear hp ho
      go_enter Try.func31, Try.ntmps31
      go_wp2_with fail
      have HB : Hid (Below w.heap.size w ((w.alloc (.cells #[.int .i64 p] 3)).alloc (.cells #[.int .i64 o] 3))) := (bal w _).alloc (by simp) _
      have c0 : ((w.alloc (.cells #[.int .i64 p] 3)).alloc (.cells #[.int .i64 o] 3)).cell? ⟨w.heap.size, 0, none⟩ = some (.int .i64 p) := by rw [cell_of_row _ _ _ _ _ _ (heap_alloc2_old w _ _)]; rfl
      have c1 : ((w.alloc (.cells #[.int .i64 p] 3)).alloc (.cells #[.int .i64 o] 3)).cell? ⟨w.heap.size + 1, 0, none⟩ = some (.int .i64 o) := by rw [cell_of_row _ _ _ _ _ _ (heap_alloc2_new w _ _)]; rfl
      generalize (w.alloc (.cells #[.int .i64 p] 3)).alloc (.cells #[.int .i64 o] 3) = wa at *
      refine (isPeriod_at p _).mono ?_
      rintro e w' ⟨rfl, rfl⟩
      rw [HP.out]
      go_wp2_with fail
      refine (isNumber_at o _).mono ?_
      rintro e w' ⟨rfl, rfl⟩
      rw [HO.out]
      go_wp2_with fail
      go_ret2
      exact ⟨by rw [HV.out]; rfl, HB.out⟩
  · have HV := hide (show fallsF p o f t = (0, 2) from if_neg fun h => hp h.1)
    have HP := hide (decide_eq_false hp)
    clear hp
    go_enter Try.func31, Try.ntmps31
    go_wp2_with fail
    have HB : Hid (Below w.heap.size w ((w.alloc (.cells #[.int .i64 p] 3)).alloc (.cells #[.int .i64 o] 3))) := (bal w _).alloc (by simp) _
    have c0 : ((w.alloc (.cells #[.int .i64 p] 3)).alloc (.cells #[.int .i64 o] 3)).cell? ⟨w.heap.size, 0, none⟩ = some (.int .i64 p) := by rw [cell_of_row _ _ _ _ _ _ (heap_alloc2_old w _ _)]; rfl
    have c1 : ((w.alloc (.cells #[.int .i64 p] 3)).alloc (.cells #[.int .i64 o] 3)).cell? ⟨w.heap.size + 1, 0, none⟩ = some (.int .i64 o) := by rw [cell_of_row _ _ _ _ _ _ (heap_alloc2_new w _ _)]; rfl
    generalize (w.alloc (.cells #[.int .i64 p] 3)).alloc (.cells #[.int .i64 o] 3) = wa at *
    refine (isPeriod_at p _).mono ?_
    rintro e w' ⟨rfl, rfl⟩
    rw [HP.out]
    go_wp2_with fail
    go_ret2
    exact ⟨by rw [HV.out]; rfl, HB.out⟩
end Go.Proofs.Ytmplioglihmkjaa
