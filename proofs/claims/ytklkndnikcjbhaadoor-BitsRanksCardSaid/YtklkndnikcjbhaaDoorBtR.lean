/-
  BitsNames' walk: the chapter's examples, call by call.
-/
import Derived.Test.YtklkndnikcjbhaaDoorBtQ
namespace Go.Proofs.YtklkndnikcjbhaaDoor
open Go.RowKit Go.Shelf
set_option linter.unusedVariables false
set_option linter.unusedSimpArgs false

/-- how many ways, times what is left -/
theorem ch_mul : ∀ n k, (k + 1) * ch n (k + 1) = (n - k) * ch n k
  | 0, k => by simp [ch]
  | n + 1, 0 => by
    have ih := ch_mul n 0
    simp only [ch, ch_zero] at *
    omega
  | n + 1, k + 1 => by
    have h1 := ch_mul n k
    have h2 := ch_mul n (k + 1)
    by_cases hk : k ≤ n
    · have e1 : ch (n + 1) (k + 1 + 1) = ch n (k + 1) + ch n (k + 1 + 1) := rfl
      have e2 : ch (n + 1) (k + 1) = ch n k + ch n (k + 1) := rfl
      obtain ⟨d, rfl⟩ := Nat.le.dest hk
      rw [e1, e2, Nat.mul_add, Nat.mul_add, h2, show k + d + 1 - (k + 1) = d by omega, show k + d - (k + 1) = d - 1 by omega]
      rw [show k + d - k = d by omega] at h1
      rw [← h1, ← Nat.add_mul, ← Nat.add_mul]
      rcases Nat.eq_zero_or_pos d with rfl | hd
      · rw [ch_above (show k + 0 < k + 1 by omega)]; simp
      · congr 1; omega
    · rw [ch_above (by omega), ch_above (by omega)]
      simp
/-- the same, multiplied out -/
def mulF (n : Nat) : Nat → Nat
  | 0 => 1
  | k + 1 => mulF n k * (n - k) / (k + 1)
theorem mulF_eq (n : Nat) : ∀ k, mulF n k = ch n k
  | 0 => (ch_zero n).symm
  | k + 1 => by
    have h := ch_mul n k
    simp only [mulF]
    rw [mulF_eq n k, Nat.mul_comm, ← h, Nat.mul_div_cancel_left _ (by omega)]
theorem ch_60_30 : ch 60 30 = 118264581564861424 := by rw [← mulF_eq]; decide +kernel

theorem n_runs : runsF 55 = [(0, 3), (4, 6)] := by decide +kernel
theorem n_s1 : subV 5 2 = .tuple #[.int .u64 10, .int .i64 0] := (subV_of (n := 5) (k := 2) (by decide)).trans (by rw [show ch 5 2 = 10 by decide]; rfl)
theorem n_s2 : subV 61 1 = .tuple #[.int .u64 0, .int .i64 120] := if_pos (.inr (by decide))
theorem n_rk6 : rk 60 6 = 2 := by decide +kernel
theorem n_pc6 : pc 6 = 2 := by decide +kernel
theorem n_r1 : rankV 6 = .tuple #[.int .u64 2, .int .i64 0] := (rankV_of (s := 6) (by decide)).trans (by rw [n_rk6]; rfl)
theorem n_u1 : unV 2 2 = .tuple #[.int .u64 6, .int .i64 0] := by
  have h := unV_of (s := 6) (by decide)
  rw [n_rk6, n_pc6] at h
  exact h
theorem n_u2 : unV 0 1 = .tuple #[.int .u64 0, .int .i64 120] := if_pos (.inr (.inr (by rw [show (0 : Int).toNat = 0 from rfl, ch_zero]; decide)))
theorem n_x1 : nextV 3 5 = .tuple #[.int .u64 5, .bool true] := (nextV_of (s := 3) (m := 5) (by decide)).trans (by rw [show nextF 3 5 = some 5 by decide +kernel]; rfl)
theorem n_x2 : nextV 6 3 = .tuple #[.int .u64 0, .bool false] := (nextV_of (s := 6) (m := 3) (by decide)).trans (by rw [show nextF 6 3 = none by decide +kernel])
theorem n_x3 : nextV 0 5 = .tuple #[.int .u64 0, .bool false] := (nextV_of (s := 0) (m := 5) (by decide)).trans (by rw [show nextF 0 5 = none by decide +kernel])
theorem n_o1 : ofV [64] = .tuple #[.int .u64 0, .int .i64 120] := if_neg fun h => by have := h 64 (by simp); omega
theorem n_o2 : ofV [-1] = .tuple #[.int .u64 0, .int .i64 120] := if_neg fun h => by have := h (-1) (by simp); omega
theorem n_r2 : rankV 1152921504606846976 = .tuple #[.int .u64 0, .int .i64 120] := if_neg (by decide)
theorem n_s3 : subV 60 30 = .tuple #[.int .u64 118264581564861424, .int .i64 0] := (subV_of (n := 60) (k := 30) (by decide)).trans (by rw [ch_60_30]; rfl)
theorem n_u3 : unV 30 118264581564861424 = .tuple #[.int .u64 0, .int .i64 120] := if_pos (.inr (.inr (by rw [show (30 : Int).toNat = 30 from rfl, ch_60_30]; decide)))
theorem n_u4 : unV 61 0 = .tuple #[.int .u64 0, .int .i64 120] := if_pos (.inr (.inl (by decide)))
theorem n_u5 : unV (-1) 0 = .tuple #[.int .u64 0, .int .i64 120] := if_pos (.inl (by decide))
theorem n_s4 : subV 4 5 = .tuple #[.int .u64 0, .int .i64 0] := (subV_of (n := 4) (k := 5) (by decide)).trans (by rw [show ch 4 5 = 0 by decide]; rfl)
theorem n_x4 : nextV 4611686018427387904 64 = .tuple #[.int .u64 9223372036854775808, .bool true] := (nextV_of (s := 4611686018427387904) (m := 64) (by decide)).trans (by rw [show nextF 4611686018427387904 64 = some 9223372036854775808 by decide +kernel]; rfl)
theorem n_x5 : nextV 9223372036854775808 64 = .tuple #[.int .u64 0, .bool false] := (nextV_of (s := 9223372036854775808) (m := 64) (by decide)).trans (by rw [show nextF 9223372036854775808 64 = none by decide +kernel])
theorem n_x6 : nextV 1 65 = .tuple #[.int .u64 0, .bool false] := if_pos (.inr (by decide))
theorem n_m1 : majB 3 7 = true := by decide +kernel
theorem n_m2 : majB 3 15 = false := by decide +kernel
theorem n_m3 : majB 0 0 = false := by decide +kernel
theorem n_z1 : pc 18446744073709551615 = 64 := by decide +kernel
theorem n_h1 : hasB 1 64 = false := by decide +kernel
theorem n_h2 : hasB 1 (-1) = false := by decide +kernel

set_option maxRecDepth 100000 in
set_option maxHeartbeats 16000000 in
theorem names_walk (w : World) (hT : Tz w) : Calls Tryd.prog 5 #[] w fun e w' => e = .returned (.bool true) ∧ Below w.heap.size w w' := by
  have HT0 := hide hT
  have HB0 : Hid (Below w.heap.size w w) := Below.refl _ _
  clear hT
  go_enter Tryd.func5, Tryd.ntmps5
  go_wp2_with fail
  refine (runs_any 55 (by decide) w HT0.out).mono ?_
  rintro e w1 ⟨h, rfl, hO, hb⟩
  rw [n_runs] at hO
  obtain ⟨A, c, rfl⟩ := own_slice hO
  obtain ⟨g, c', e', hgl, hc0⟩ := own_cell hO (j := 0) (u := .int .i64 0) rfl
  obtain ⟨g1, c1', e1', _, hc1⟩ := own_cell hO (j := 1) (u := .int .i64 3) rfl
  obtain ⟨g2, c2', e2', _, hc2⟩ := own_cell hO (j := 2) (u := .int .i64 4) rfl
  obtain ⟨g3, c3', e3', _, hc3⟩ := own_cell hO (j := 3) (u := .int .i64 6) rfl
  injection e' with x1 x2 x3
  injection e1' with y1 y2 y3
  injection e2' with z1 z2 z3
  injection e3' with v1 v2 v3
  subst x1 x3
  injection y1 with y1; injection y1 with y1
  injection z1 with z1; injection z1 with z1
  injection v1 with v1; injection v1 with v1
  subst y1 z1 v1
  have HC := hide (And.intro hgl (And.intro hc0 (And.intro hc1 (And.intro hc2 hc3))))
  have HT1 := hide (HT0.out.below hb HT0.out.lt)
  have HB1 := hide (HB0.out.trans (hb.mono HB0.out.size))
  have HW1 : Hid (Below w1.heap.size w1 w1) := Below.refl _ _
  clear hO hb hc0 hc1 hc2 hc3 hgl x2 y2 y3 z2 z3 v2 v3 HT0 HB0
  go_wp2_with fail
  refine (sub_at 5 2 _).mono ?_
  rintro e w2 ⟨rfl, hb⟩
  rw [n_s1]
  have HT2 := hide (HT1.out.below hb HT1.out.lt)
  have HB2 := hide (HB1.out.trans (hb.mono HB1.out.size))
  have HW2 := hide (HW1.out.trans (hb.mono HW1.out.size))
  clear hb HW1 HT1 HB1
  go_wp2_with fail
  refine (sub_at 61 1 _).mono ?_
  rintro e w3 ⟨rfl, hb⟩
  rw [n_s2]
  have HT3 := hide (HT2.out.below hb HT2.out.lt)
  have HB3 := hide (HB2.out.trans (hb.mono HB2.out.size))
  have HW3 := hide (HW2.out.trans (hb.mono HW2.out.size))
  clear hb HW2 HT2 HB2
  go_wp2_with fail
  refine (rank_at 6 (by decide) w3 HT3.out).mono ?_
  rintro e w4 ⟨rfl, hb⟩
  rw [n_r1]
  have HT4 := hide (HT3.out.below hb HT3.out.lt)
  have HB4 := hide (HB3.out.trans (hb.mono HB3.out.size))
  have HW4 := hide (HW3.out.trans (hb.mono HW3.out.size))
  clear hb HW3 HT3 HB3
  go_wp2_with fail
  refine (unrank_at 2 2 (by decide) _).mono ?_
  rintro e w5 ⟨rfl, hb⟩
  rw [n_u1]
  have HT5 := hide (HT4.out.below hb HT4.out.lt)
  have HB5 := hide (HB4.out.trans (hb.mono HB4.out.size))
  have HW5 := hide (HW4.out.trans (hb.mono HW4.out.size))
  clear hb HW4 HT4 HB4
  go_wp2_with fail
  refine (unrank_at 0 1 (by decide) _).mono ?_
  rintro e w6 ⟨rfl, hb⟩
  rw [n_u2]
  have HT6 := hide (HT5.out.below hb HT5.out.lt)
  have HB6 := hide (HB5.out.trans (hb.mono HB5.out.size))
  have HW6 := hide (HW5.out.trans (hb.mono HW5.out.size))
  clear hb HW5 HT5 HB5
  go_wp2_with fail
  refine (next_at 3 (by decide) 5 _).mono ?_
  rintro e w' ⟨rfl, rfl⟩
  rw [n_x1]
  go_wp2_with fail
  refine (next_at 6 (by decide) 3 _).mono ?_
  rintro e w' ⟨rfl, rfl⟩
  rw [n_x2]
  go_wp2_with fail
  refine (next_at 0 (by decide) 5 _).mono ?_
  rintro e w' ⟨rfl, rfl⟩
  rw [n_x3]
  have hgl6 := HC.out.1
  have d0 := (bcl HW6.out hgl6).trans HC.out.2.1
  have d1 := (bcl HW6.out hgl6).trans HC.out.2.2.1
  have d2 := (bcl HW6.out hgl6).trans HC.out.2.2.2.1
  have d3 := (bcl HW6.out hgl6).trans HC.out.2.2.2.2
  clear HC HW6
  go_wp2_with fail
  have hI7 : Ints (w6.alloc (.cells #[.int .i64 (64)] 3)) (some ⟨w6.heap.size, 0, none⟩) [64] := by
    refine ⟨by intro z hz; simp at hz; unfold I64; omega, .inr ⟨_, 0, rfl, by simp, fun i hi => ?_⟩⟩
    show World.cell? _ _ = _
    rw [cell_of_row _ _ _ _ _ _ (heap_alloc_new w6 _)]
    have hi : i < 1 := hi
    obtain rfl : i = 0 := by omega
    rfl
  refine (of_at [64] _ _ _ hI7 (by decide)).mono ?_
  rintro e w' ⟨rfl, rfl⟩
  rw [n_o1]
  have HT7 := hide (HT6.out.below (bal w6 (.cells #[.int .i64 (64)] 3)) HT6.out.lt)
  have HB7 := hide (HB6.out.trans ((bal w6 (.cells #[.int .i64 (64)] 3)).mono HB6.out.size))
  clear hI7 HT6 HB6
  generalize w6.alloc (.cells #[.int .i64 (64)] 3) = w7 at *
  go_wp2_with fail
  have hI8 : Ints (w7.alloc (.cells #[.int .i64 (-1)] 3)) (some ⟨w7.heap.size, 0, none⟩) [-1] := by
    refine ⟨by intro z hz; simp at hz; unfold I64; omega, .inr ⟨_, 0, rfl, by simp, fun i hi => ?_⟩⟩
    show World.cell? _ _ = _
    rw [cell_of_row _ _ _ _ _ _ (heap_alloc_new w7 _)]
    have hi : i < 1 := hi
    obtain rfl : i = 0 := by omega
    rfl
  refine (of_at [-1] _ _ _ hI8 (by decide)).mono ?_
  rintro e w' ⟨rfl, rfl⟩
  rw [n_o2]
  have HT8 := hide (HT7.out.below (bal w7 (.cells #[.int .i64 (-1)] 3)) HT7.out.lt)
  have HB8 := hide (HB7.out.trans ((bal w7 (.cells #[.int .i64 (-1)] 3)).mono HB7.out.size))
  clear hI8 HT7 HB7
  generalize w7.alloc (.cells #[.int .i64 (-1)] 3) = w8 at *
  go_wp2_with fail
  refine (rank_at 1152921504606846976 (by decide) w8 HT8.out).mono ?_
  rintro e w9 ⟨rfl, hb⟩
  rw [n_r2]
  have HT9 := hide (HT8.out.below hb HT8.out.lt)
  have HB9 := hide (HB8.out.trans (hb.mono HB8.out.size))
  clear hb HT8 HB8
  go_wp2_with fail
  refine (sub_at 60 30 _).mono ?_
  rintro e w10 ⟨rfl, hb⟩
  rw [n_s3]
  have HT10 := hide (HT9.out.below hb HT9.out.lt)
  have HB10 := hide (HB9.out.trans (hb.mono HB9.out.size))
  clear hb HT9 HB9
  go_wp2_with fail
  refine (unrank_at 30 118264581564861424 (by decide) _).mono ?_
  rintro e w11 ⟨rfl, hb⟩
  rw [n_u3]
  have HT11 := hide (HT10.out.below hb HT10.out.lt)
  have HB11 := hide (HB10.out.trans (hb.mono HB10.out.size))
  clear hb HT10 HB10
  go_wp2_with fail
  refine (unrank_at 61 0 (by decide) _).mono ?_
  rintro e w12 ⟨rfl, hb⟩
  rw [n_u4]
  have HT12 := hide (HT11.out.below hb HT11.out.lt)
  have HB12 := hide (HB11.out.trans (hb.mono HB11.out.size))
  clear hb HT11 HB11
  go_wp2_with fail
  refine (unrank_at (-1) 0 (by decide) _).mono ?_
  rintro e w13 ⟨rfl, hb⟩
  rw [n_u5]
  have HT13 := hide (HT12.out.below hb HT12.out.lt)
  have HB13 := hide (HB12.out.trans (hb.mono HB12.out.size))
  clear hb HT12 HB12
  go_wp2_with fail
  refine (sub_at 4 5 _).mono ?_
  rintro e w14 ⟨rfl, hb⟩
  rw [n_s4]
  have HT14 := hide (HT13.out.below hb HT13.out.lt)
  have HB14 := hide (HB13.out.trans (hb.mono HB13.out.size))
  clear hb HT13 HB13
  go_wp2_with fail
  refine (next_at 4611686018427387904 (by decide) 64 _).mono ?_
  rintro e w' ⟨rfl, rfl⟩
  rw [n_x4]
  go_wp2_with fail
  refine (next_at 9223372036854775808 (by decide) 64 _).mono ?_
  rintro e w' ⟨rfl, rfl⟩
  rw [n_x5]
  go_wp2_with fail
  refine (next_at 1 (by decide) 65 _).mono ?_
  rintro e w' ⟨rfl, rfl⟩
  rw [n_x6]
  go_wp2_with fail
  refine (maj_at 3 7 (by decide) (by decide) _).mono ?_
  rintro e w' ⟨rfl, rfl⟩
  rw [n_m1]
  go_wp2_with fail
  refine (maj_at 3 15 (by decide) (by decide) _).mono ?_
  rintro e w' ⟨rfl, rfl⟩
  rw [n_m2]
  go_wp2_with fail
  refine (maj_at 0 0 (by decide) (by decide) _).mono ?_
  rintro e w' ⟨rfl, rfl⟩
  rw [n_m3]
  go_wp2_with fail
  refine (size_at 18446744073709551615 (by decide) _).mono ?_
  rintro e w' ⟨rfl, rfl⟩
  rw [n_z1]
  go_wp2_with fail
  refine (has_at 1 (by decide) 64 _).mono ?_
  rintro e w' ⟨rfl, rfl⟩
  rw [n_h1]
  go_wp2_with fail
  refine (has_at 1 (by decide) (-1) _).mono ?_
  rintro e w' ⟨rfl, rfl⟩
  rw [n_h2]
  go_wp2_with fail
  refine (alive_at w14 HT14.out).mono ?_
  rintro e wz ⟨rfl, hb⟩
  have HZ := hide (HB14.out.trans (hb.mono HB14.out.size))
  clear hb
  go_wp2_with fail
  go_ret
  exact ⟨rfl, HZ.out⟩
end Go.Proofs.YtklkndnikcjbhaaDoor
