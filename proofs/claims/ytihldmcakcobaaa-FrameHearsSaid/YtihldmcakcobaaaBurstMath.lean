/-
  Plain mathematics of bursts: bits turned within 32 that follow one another turn the sum.
-/
import Derived.Test.YtihldmcakcobaaaMath
namespace Go.Proofs.Ytihldmcakcobaaa.SumMath

/-- bit i of the mask is turned -/
def valid (at_ : Nat) (n mask i : Nat) : Bool := decide (at_ + i < 8 * n) && decide (mask / 2 ^ i % 2 = 1)
/-- the bits that have been turned by i rounds -/
def bits (at_ n mask : Nat) : Nat → Nat
  | 0 => 0
  | i + 1 => if valid at_ n mask i = true then bits at_ n mask i + 2 ^ i else bits at_ n mask i
/-- whether one has been turned -/
def turned (at_ n mask i : Nat) : Bool := decide (bits at_ n mask i ≠ 0)

theorem bits_lt (at_ n mask : Nat) (i : Nat) : bits at_ n mask i < 2 ^ i := by
  induction i with
  | zero => show 0 < 2 ^ 0; decide
  | succ i ih =>
    unfold bits
    rw [Nat.pow_succ]
    split <;> omega
theorem bits_yes {at_ n mask i : Nat} (h : valid at_ n mask i = true) : bits at_ n mask (i + 1) = bits at_ n mask i + 2 ^ i := by
  show (if valid at_ n mask i = true then _ else _) = _
  rw [if_pos h]
theorem bits_no {at_ n mask i : Nat} (h : valid at_ n mask i = false) : bits at_ n mask (i + 1) = bits at_ n mask i := by
  show (if valid at_ n mask i = true then _ else _) = _
  rw [if_neg (by rw [h]; decide)]
theorem turned_yes {at_ n mask i : Nat} (h : valid at_ n mask i = true) : turned at_ n mask (i + 1) = true := by
  unfold turned
  rw [bits_yes h]
  have := Nat.two_pow_pos i
  simp
theorem turned_no {at_ n mask i : Nat} (h : valid at_ n mask i = false) : turned at_ n mask (i + 1) = turned at_ n mask i := by
  unfold turned
  rw [bits_no h]
theorem bits_room (at_ n mask : Nat) (i : Nat) (h : bits at_ n mask i ≠ 0) : at_ < 8 * n := by
  induction i with
  | zero => exact absurd rfl h
  | succ i ih =>
    by_cases hv : valid at_ n mask i = true
    · unfold valid at hv
      simp at hv
      omega
    · rw [bits_no (by simpa using hv)] at h
      exact ih h

theorem add_xor {i x : Nat} (h : x < 2 ^ i) : x + 2 ^ i = x ^^^ 2 ^ i := by
  have h2 := Nat.two_pow_add_eq_or_of_lt (i := i) (b := x) h 1
  rw [Nat.mul_one] at h2
  rw [Nat.add_comm, h2]
  apply Nat.eq_of_testBit_eq
  intro j
  rw [Nat.testBit_or, Nat.testBit_xor]
  by_cases hj : j < i
  · have : (2 ^ i).testBit j = false := by rw [Nat.testBit_two_pow]; simp; omega
    simp [this]
  · have : x.testBit j = false := Nat.testBit_lt_two_pow (Nat.lt_of_lt_of_le h (Nat.pow_le_pow_right (by omega) (by omega)))
    simp [this]
theorem mul_xor (a b k : Nat) : (a ^^^ b) * 2 ^ k = a * 2 ^ k ^^^ b * 2 ^ k := by
  have := @Nat.shiftLeft_xor_distrib k a b
  simpa [Nat.shiftLeft_eq] using this
theorem bits_step {at_ n mask i : Nat} (h : valid at_ n mask i = true) : bits at_ n mask (i + 1) * 2 ^ at_ = bits at_ n mask i * 2 ^ at_ ^^^ 2 ^ (at_ + i) := by
  rw [bits_yes h, add_xor (bits_lt at_ n mask i), mul_xor]
  congr 1
  rw [← Nat.pow_add, Nat.add_comm]

theorem low_cons (c : Nat) (l : List Nat) (hc : c < 256) : low (c :: l) = c ^^^ 256 * low l := by
  have h2 := Nat.two_pow_add_eq_or_of_lt (i := 8) (b := c) hc (low l)
  show c + 256 * low l = _
  rw [Nat.add_comm]
  refine h2.trans ?_
  apply Nat.eq_of_testBit_eq
  intro i
  rw [Nat.testBit_or, Nat.testBit_xor]
  by_cases hi : i < 8
  · have : (256 * low l).testBit i = false := by
      rw [show 256 * low l = 2 ^ 8 * low l from rfl, Nat.testBit_two_pow_mul]; simp; omega
    simp [this]
  · have : c.testBit i = false := Nat.testBit_lt_two_pow (Nat.lt_of_lt_of_le hc (by
      have : 2 ^ 8 ≤ 2 ^ i := Nat.pow_le_pow_right (by omega) (by omega)
      simpa using this))
    simp [this]
/-- a bit of a byte turned is a bit of the text's number turned -/
theorem low_turn (l : List Nat) : ∀ (q r : Nat), q < l.length → r < 8 → (∀ c ∈ l, c < 256) → low (l.set q (l.getD q 0 ^^^ 2 ^ r)) = low l ^^^ 2 ^ (8 * q + r) := by
  induction l with
  | nil => intro q r h; simp at h
  | cons c l ih =>
    intro q r hq hr hl
    have hc := hl c (by simp)
    have hr2 : 2 ^ r < 256 := Nat.pow_lt_pow_right (by omega) hr
    cases q with
    | zero =>
      show low ((c ^^^ 2 ^ r) :: l) = _
      rw [low_cons _ _ (Nat.xor_lt_two_pow (n := 8) hc hr2), low_cons _ _ hc, Nat.mul_zero, Nat.zero_add, Nat.xor_assoc, Nat.xor_assoc, Nat.xor_comm (2 ^ r)]
    | succ q =>
      show low (c :: l.set q (l.getD q 0 ^^^ 2 ^ r)) = _
      rw [low_cons _ _ hc, low_cons _ _ hc, ih q r (by simpa using hq) hr (fun d hd => hl d (by simp [hd])), Nat.mul_comm 256, show (256 : Nat) = 2 ^ 8 from rfl, mul_xor, Nat.xor_assoc, ← Nat.pow_add, Nat.mul_comm (low l), show 8 * q + r + 8 = 8 * (q + 1) + r by omega]
theorem set_lt (l : List Nat) (q v : Nat) (hv : v < 256) (hl : ∀ c ∈ l, c < 256) : ∀ c ∈ l.set q v, c < 256 := by
  intro c hc
  rcases List.mem_or_eq_of_mem_set hc with h | h
  · exact hl c h
  · rw [h]; exact hv

/-- THE BURST: what was turned, if anything, turns the sum. -/
theorem burst (l lc : List Nat) (at_ n m : Nat) (hn : l.length = n) (hc : lc.length = n) (hl : ∀ c ∈ l, c < 256) (hlc : ∀ c ∈ lc, c < 256) (hm : m < 4294967296)
    (hroom : m ≠ 0 → at_ < 8 * n) (h : low lc = low l ^^^ m * 2 ^ at_) : more 0 lc = more 0 l ↔ m = 0 := by
  have e : put (flip 0) lc = put (flip 0) l ^^^ steps (8 * n) (m * 2 ^ at_) := by
    rw [low_xor _ _ hlc, low_xor _ _ hl, hn, hc, h, ← Nat.xor_assoc, steps_xor (8 * n) (flip 0 ^^^ low l)]
  constructor
  · intro h0
    rcases Nat.eq_zero_or_pos m with h1 | h1
    · exact h1
    · have hr := hroom (by omega)
      unfold more at h0
      have h2 := flip_inj (put_lt lc (flip_lt 0) hlc) (put_lt l (flip_lt 0) hl) h0
      rw [e] at h2
      have h3 : steps (8 * n) (m * 2 ^ at_) = 0 := by
        have h4 : steps (8 * n) (m * 2 ^ at_) ^^^ put (flip 0) l = 0 ^^^ put (flip 0) l := by rw [Nat.xor_comm, h2, Nat.zero_xor]
        exact xor_inj h4
      rw [show 8 * n = at_ + (8 * n - at_) by omega, steps_add, Nat.mul_comm m, steps_pow] at h3
      exact steps_none _ hm h3
  · rintro rfl
    unfold more
    rw [e, Nat.zero_mul, steps_zero, Nat.xor_zero]
end Go.Proofs.Ytihldmcakcobaaa.SumMath
