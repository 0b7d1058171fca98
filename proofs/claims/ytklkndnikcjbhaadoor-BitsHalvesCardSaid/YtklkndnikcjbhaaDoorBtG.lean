/-
  BitsHalves' walk.
-/
import Derived.Test.YtklkndnikcjbhaaDoorBtF
namespace Go.Proofs.YtklkndnikcjbhaaDoor
open Go.RowKit Go.Shelf
set_option linter.unusedVariables false
set_option linter.unusedSimpArgs false
set_option maxRecDepth 100000

theorem num_two {x y z s : Nat} (hx : ∀ i, x.testBit i = true → s.testBit i = true) (hy : ∀ i, y.testBit i = true → s.testBit i = true) (hz : ∀ i, x.testBit i = true → y.testBit i = true → z.testBit i = true) :
    ∀ n, num n x + num n y ≤ num n z + num n s
  | 0 => Nat.le_refl _
  | n + 1 => by
    have ih := num_two hx hy hz n
    have h1 := hx n; have h2 := hy n; have h3 := hz n
    simp only [num_succ]
    cases ex : x.testBit n <;> cases ey : y.testBit n <;> cases ez : z.testBit n <;> cases es : s.testBit n <;> simp_all <;> omega
theorem pc_zero : pc 0 = 0 := rfl
theorem pc_pos {s : Nat} (hs : s < 2 ^ 64) (h : s ≠ 0) : 0 < pc s := by
  unfold pc
  rw [mem_step s h hs]
  simp
theorem and3 (a b s i : Nat) : (a &&& b &&& s).testBit i = (a.testBit i && b.testBit i && s.testBit i) := by rw [Nat.testBit_and, Nat.testBit_and]
theorem maj_meet {a b s : Nat} (h1 : majB a s = true) (h2 : majB b s = true) : a &&& b &&& s ≠ 0 := by
  intro h0
  unfold majB at h1 h2
  have h1 := of_decide_eq_true h1
  have h2 := of_decide_eq_true h2
  have := num_two (x := a &&& s) (y := b &&& s) (z := a &&& b &&& s) (s := s) (fun i h => by rw [Nat.testBit_and] at h; simp at h; exact h.2) (fun i h => by rw [Nat.testBit_and] at h; simp at h; exact h.2)
    (fun i h k => by rw [Nat.testBit_and] at h k; rw [and3]; simp at h k ⊢; exact ⟨⟨h.1, k.1⟩, h.2⟩) 64
  rw [h0] at this
  simp only [← pc_num, pc_zero] at this
  omega
theorem maj_rest {a s : Nat} (ha : a < 2 ^ 64) (h1 : majB a s = true) (h2 : majB (18446744073709551615 - a) s = true) : False := by
  refine maj_meet h1 h2 ?_
  apply Nat.eq_of_testBit_eq
  intro i
  rw [and3, show 18446744073709551615 - a = 2 ^ 64 - (a + 1) by omega, Nat.testBit_two_pow_sub_succ ha, Nat.zero_testBit]
  cases a.testBit i <;> simp
theorem maj_self {s : Nat} (hs : s < 2 ^ 64) : majB s s = decide (s ≠ 0) := by
  unfold majB
  rw [Nat.and_self, decide_eq_decide]
  constructor
  · rintro h rfl
    rw [pc_zero] at h; omega
  · intro h
    have := pc_pos hs h
    omega
theorem not_u64 {a : Nat} (h : a < 18446744073709551616) : bits .xor .u64 IntKind.u64.max (a : Int) = ((18446744073709551615 - a : Nat) : Int) := by
  have e : IntKind.u64.max = ((18446744073709551615 : Nat) : Int) := by decide
  rw [e, u64_xor_nat _ _ (by decide) h]
  congr 1
  apply Nat.eq_of_testBit_eq
  intro i
  rw [Nat.testBit_xor, show 18446744073709551615 - a = 2 ^ 64 - (a + 1) by omega, Nat.testBit_two_pow_sub_succ h, show 18446744073709551615 = 2 ^ 64 - 1 from rfl, Nat.testBit_two_pow_sub_one]
  by_cases hi : i < 64
  · simp [hi]
  · have : a.testBit i = false := Nat.testBit_lt_two_pow (Nat.lt_of_lt_of_le h (Nat.pow_le_pow_right (n := 2) (by decide) (show 64 ≤ i by omega)))
    simp [hi, this]
theorem not_u64' {a : Nat} (h : a < 18446744073709551616) : bits .xor .u64 (if IntKind.u64.signed = true then -1 else IntKind.u64.max) (a : Int) = ((18446744073709551615 - a : Nat) : Int) := not_u64 h

set_option maxHeartbeats 4000000 in
theorem halves_walk (a b s : Nat) (ha : a < 18446744073709551616) (hb : b < 18446744073709551616) (hs : s < 18446744073709551616) (w : World) (hT : Tz w) :
    Calls Tryd.prog 7 #[.int .u64 a, .int .u64 b, .int .u64 s] w fun e w' => e = .returned (.bool true) ∧ Below w.heap.size w w' := by
  obtain ⟨na, hna⟩ : ∃ na, na = 18446744073709551615 - a := ⟨_, rfl⟩
  have n1 := not_u64 ha
  have n2 := not_u64' ha
  rw [← hna] at n1 n2
  have e1 : bits .and .u64 (a : Int) (b : Int) = ((a &&& b : Nat) : Int) := u64_and_nat a b ha hb
  have hab : a &&& b ≤ a := Nat.and_le_left
  have e2 : bits .and .u64 ((a &&& b : Nat) : Int) (s : Int) = ((a &&& b &&& s : Nat) : Int) := u64_and_nat _ s (by omega) hs
  have H1 := hide (fun W => maj_at a s ha hs W)
  have H2 := hide (fun W => maj_at b s hb hs W)
  have H3 := hide (fun W => maj_at na s (by omega) hs W)
  have H4 := hide (fun W => maj_at s s hs hs W)
  have M1 := hide (fun h1 h2 => maj_meet (a := a) (b := b) (s := s) h1 h2)
  have M2 := hide (fun h1 h2 => maj_rest (a := a) (s := s) ha h1 (by rw [← hna]; exact h2))
  have M3 := hide (maj_self hs)
  have HA := hide (alive_at w hT)
  clear hna hT
  generalize majB a s = p at *
  generalize majB b s = q at *
  generalize majB na s = r at *
  generalize majB s s = t at *
  generalize a &&& b &&& s = z at *
  generalize a &&& b = y at *
  go_enter Tryd.func7, Tryd.ntmps7
  go_wp2_with fail
  refine HA.out.mono ?_
  rintro e w1 ⟨rfl, hb1⟩
  have HB := hide hb1
  clear hb1
  go_wp2_with fail
  refine (H1.out _).mono ?_
  rintro e w' ⟨rfl, rfl⟩
  go_wp2_with fail
  refine (H2.out _).mono ?_
  rintro e w' ⟨rfl, rfl⟩
  go_wp2_with fail
  refine (H3.out _).mono ?_
  rintro e w' ⟨rfl, rfl⟩
  have hz : ∀ (h : z ≠ 0), ((z : Int) != 0) = true := fun h => by simpa using h
  have ht : t = ((s : Int) != 0) := by
    rw [M3.out, Bool.eq_iff_iff]; simp
  have HT := hide ht
  clear ht
  cases p
  · cases r
    all_goals
      go_wp2_with (refine (H4.out _).mono ?_; rintro e w' ⟨rfl, rfl⟩; rw [HT.out])
      go_ret
      exact ⟨by simp, HB.out⟩
  · cases r
    · cases q
      · go_wp2_with (refine (H4.out _).mono ?_; rintro e w' ⟨rfl, rfl⟩; rw [HT.out])
        go_ret
        exact ⟨by simp, HB.out⟩
      · have hz1 := hz (M1.out rfl rfl)
        clear hz
        go_wp2_with (refine (H4.out _).mono ?_; rintro e w' ⟨rfl, rfl⟩; rw [HT.out])
        go_ret
        exact ⟨by simp, HB.out⟩
    · exact (M2.out rfl rfl).elim
end Go.Proofs.YtklkndnikcjbhaaDoor
