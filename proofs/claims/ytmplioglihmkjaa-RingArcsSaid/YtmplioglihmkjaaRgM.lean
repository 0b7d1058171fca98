/-
  Numbers that go round, multiples, what falls again and again: reckoned.
-/
import Derived.Laws.BitsAllLaws
namespace Go.Proofs.Ytmplioglihmkjaa
set_option linter.unusedVariables false

theorem place_math {a n : Int} (h : 0 < n) : (a.tmod n + n).tmod n = a % n := by
  have h1 : -n < a.tmod n := Int.lt_tmod_of_pos _ h
  rw [Int.tmod_eq_emod_of_nonneg (by omega), Int.add_emod_right]
  have h2 : a.tmod n = a - n * a.tdiv n := by have := Int.tmod_add_mul_tdiv a n; omega
  rw [h2, Int.sub_eq_add_neg, ← Int.mul_neg, Int.add_mul_emod_self_left]
theorem mod2 {x n : Int} (h0 : 0 ≤ x) (h : x < 2 * n) : x % n = if x < n then x else x - n := by
  split
  · exact Int.emod_eq_of_lt h0 ‹_›
  · rw [show x = (x - n) + n by omega, Int.add_emod_right, Int.emod_eq_of_lt (by omega) (by omega)]
    omega
theorem mod2n {x n : Int} (h0 : -n ≤ x) (h : x < n) (hn : 0 < n) : x % n = if 0 ≤ x then x else x + n := by
  split
  · exact Int.emod_eq_of_lt ‹_› h
  · rw [← Int.add_emod_right, Int.emod_eq_of_lt (by omega) (by omega)]
/-- how many steps from one place to another -/
def stp (a b n : Int) : Int := (b - a) % n
theorem stp_eq {a b n : Int} (ha : 0 ≤ a ∧ a < n) (hb : 0 ≤ b ∧ b < n) : stp a b n = if a ≤ b then b - a else b - a + n := by
  unfold stp
  rw [mod2n (by omega) (by omega) (by omega)]
  by_cases h : a ≤ b
  · rw [if_pos h, if_pos (by omega)]
  · rw [if_neg h, if_neg (by omega)]
theorem place_rng {a n : Int} (h : 0 < n) : 0 ≤ a % n ∧ a % n < n := ⟨Int.emod_nonneg _ (by omega), Int.emod_lt_of_pos _ h⟩
theorem stp_rng {a b n : Int} (h : 0 < n) : 0 ≤ stp a b n ∧ stp a b n < n := place_rng h

/-! ### how often something falls -/
/-- the least multiple that is not behind -/
def cl (a b : Int) : Int := (a + b - 1) / b
theorem cl_spec {a b : Int} (h : 0 < b) : b * (cl a b - 1) < a ∧ a ≤ b * cl a b := by
  unfold cl
  have h1 := Int.mul_ediv_add_emod (a + b - 1) b
  have h2 := Int.emod_nonneg (a + b - 1) (show b ≠ 0 by omega)
  have h3 := Int.emod_lt_of_pos (a + b - 1) h
  rw [Int.mul_sub]
  omega
theorem cl_uniq {a b q : Int} (h : 0 < b) (h1 : b * (q - 1) < a) (h2 : a ≤ b * q) : cl a b = q := by
  obtain ⟨g1, g2⟩ := cl_spec (a := a) h
  rcases Int.lt_trichotomy (cl a b) q with hl | he | hg
  · have := Int.mul_le_mul_of_nonneg_left (show cl a b ≤ q - 1 by omega) (Int.le_of_lt h)
    omega
  · exact he
  · have := Int.mul_le_mul_of_nonneg_left (show q ≤ cl a b - 1 by omega) (Int.le_of_lt h)
    omega
theorem cl_t {a b : Int} (h : 0 < b) : cl a b = if 0 < a.tmod b then a.tdiv b + 1 else a.tdiv b := by
  have h1 : -b < a.tmod b := Int.lt_tmod_of_pos _ h
  have h2 : a.tmod b < b := Int.tmod_lt_of_pos _ h
  have h3 := Int.tmod_add_mul_tdiv a b
  split
  · refine cl_uniq h ?_ ?_
    · rw [show a.tdiv b + 1 - 1 = a.tdiv b by omega]; omega
    · rw [Int.mul_add]; omega
  · refine cl_uniq h ?_ ?_
    · rw [Int.mul_sub]; omega
    · omega
theorem cl_mono {a a' b : Int} (h : 0 < b) (ha : a ≤ a') : cl a b ≤ cl a' b := Int.ediv_le_ediv h (by omega)
theorem cl_add {a b k : Int} (h : 0 < b) : cl (a + b * k) b = cl a b + k := by
  unfold cl
  rw [show a + b * k + b - 1 = (a + b - 1) + b * k by omega, Int.add_mul_ediv_left _ _ (by omega)]
theorem cl_rng {a b : Int} (h : 0 < b) (ha : -8589934592 ≤ a ∧ a ≤ 8589934592) : -8589934592 ≤ cl a b ∧ cl a b ≤ 8589934592 := by
  obtain ⟨h1, h2⟩ := cl_spec (a := a) h
  constructor
  · apply Int.not_lt.1
    intro hc
    have : b * (cl a b) ≤ 1 * cl a b := Int.mul_le_mul_of_nonpos_right (by omega) (by omega)
    omega
  · apply Int.not_lt.1
    intro hc
    have : 1 * (cl a b - 1) ≤ b * (cl a b - 1) := Int.mul_le_mul_of_nonneg_right (by omega) (by omega)
    omega
def num (z : Int) : Prop := -2147483648 ≤ z ∧ z ≤ 2147483647
def per (z : Int) : Prop := 1 ≤ z ∧ z ≤ 2147483647
instance (z : Int) : Decidable (num z) := inferInstanceAs (Decidable (_ ∧ _))
instance (z : Int) : Decidable (per z) := inferInstanceAs (Decidable (_ ∧ _))
/-- what a call that may fail answers -/
def fallsF (p o f t : Int) : Int × Int := if per p ∧ num o ∧ num f ∧ num t then (max (cl (t - o) p - cl (f - o) p) 0, 0) else (0, 2)

/-! ### multiples -/
def gcdF (a b : Int) : Int := if num a ∧ num b then (Nat.gcd a.natAbs b.natAbs : Nat) else 0
def lcmF (a b : Int) : Int × Int := if per a ∧ per b ∧ Nat.lcm a.natAbs b.natAbs ≤ 2147483647 then ((Nat.lcm a.natAbs b.natAbs : Nat), 0) else (0, 2)
def hypStep (s : Int × Int) (a : Int) : Int × Int := if s.2 = 0 then lcmF s.1 a else s
def hypF (l : List Int) : Int × Int := l.foldl hypStep (1, 0)
theorem hyp_bad : ∀ (l : List Int) (s : Int × Int), s.2 ≠ 0 → l.foldl hypStep s = s
  | [], _, _ => rfl
  | a :: l, s, h => by
    rw [List.foldl_cons, show hypStep s a = s from if_neg h, hyp_bad l s h]
theorem hyp_take {l : List Int} {k : Nat} {v : Int × Int} (h : hypF (l.take k) = v) (hv : v.2 ≠ 0) : hypF l = v := by
  have : hypF l = (l.drop k).foldl hypStep (hypF (l.take k)) := by
    unfold hypF
    rw [← List.foldl_append, List.take_append_drop]
  rw [this, h, hyp_bad _ _ hv]
theorem hyp_snoc (l : List Int) (a : Int) : hypF (l ++ [a]) = hypStep (hypF l) a := by simp [hypF]
theorem lcmF_good {a b : Int} (h : (lcmF a b).2 = 0) : per (lcmF a b).1 := by
  unfold lcmF at *
  split
  · rename_i hc
    rw [if_pos hc] at h
    have h1 : 0 < Nat.lcm a.natAbs b.natAbs := Nat.lcm_pos (by have := hc.1; unfold per at this; omega) (by have := hc.2.1; unfold per at this; omega)
    have h2 := hc.2.2
    unfold per
    dsimp only
    omega
  · rename_i hc
    rw [if_neg hc] at h
    cases h
theorem hyp_good {l : List Int} : ∀ {s : Int × Int}, per s.1 → (l.foldl hypStep s).2 = 0 → per (l.foldl hypStep s).1 := by
  induction l with
  | nil => intro s h _; exact h
  | cons a l ih =>
    intro s h h2
    rw [List.foldl_cons] at *
    by_cases hs : (hypStep s a).2 = 0
    · refine ih ?_ h2
      unfold hypStep at *
      split
      · rename_i h0
        rw [if_pos h0] at hs
        exact lcmF_good hs
      · exact h
    · rw [hyp_bad _ _ hs] at h2; exact absurd h2 hs
theorem hypF_good {l : List Int} (h : (hypF l).2 = 0) : per (hypF l).1 := hyp_good (s := (1, 0)) (by unfold per; decide) h
theorem lcmF_bad {a b : Int} (h : (lcmF a b).2 ≠ 0) : lcmF a b = (0, 2) := by
  unfold lcmF at *
  split
  · rename_i hc; rw [if_pos hc] at h; exact absurd rfl h
  · rfl

/-- the two ways of the least multiple -/
theorem lcm_ways {a b : Nat} (ha : 0 < a) (hb : 0 < b) : a * (b / Nat.gcd a b) = Nat.lcm a b ∧ a / Nat.gcd a b * b = Nat.lcm a b ∧ (2147483647 / a < b / Nat.gcd a b ↔ 2147483647 < Nat.lcm a b) := by
  have hg : 0 < Nat.gcd a b := Nat.gcd_pos_of_pos_left _ ha
  have h1 : a * (b / Nat.gcd a b) = Nat.lcm a b := by
    unfold Nat.lcm; rw [Nat.mul_div_assoc _ (Nat.gcd_dvd_right a b)]
  have h2 : a / Nat.gcd a b * b = Nat.lcm a b := by
    unfold Nat.lcm; rw [Nat.mul_comm a b, Nat.mul_div_assoc _ (Nat.gcd_dvd_left a b), Nat.mul_comm]
  refine ⟨h1, h2, ?_⟩
  rw [Nat.div_lt_iff_lt_mul ha, Nat.mul_comm, h1]

/-! ### Euclid: how long it takes -/
/-- behind k rounds -/
def Eu (k : Nat) (a b : Nat) : Prop := a ≤ 2147483648 ∧ b ≤ 2147483648 ∧ (k = 0 ∨ (b < a ∧ a * b * 2 ^ (k - 1) ≤ 2 ^ 64))
theorem eu_start {a b : Nat} (ha : a ≤ 2147483648) (hb : b ≤ 2147483648) : Eu 0 a b := ⟨ha, hb, .inl rfl⟩
theorem eu_step {k a b : Nat} (h : Eu k a b) (hb : 0 < b) : Eu (k + 1) b (a % b) := by
  have hm := Nat.mod_lt a hb
  refine ⟨h.2.1, by have := h.2.1; omega, .inr ⟨hm, ?_⟩⟩
  rcases h.2.2 with rfl | ⟨hlt, hp⟩
  · have := Nat.mul_le_mul h.2.1 (show a % b ≤ 2147483648 by have := h.2.1; omega)
    simp only [Nat.zero_add, Nat.sub_self, Nat.pow_zero, Nat.mul_one]
    omega
  · have hk : k + 1 - 1 = (k - 1) + 1 ∨ k = 0 := by omega
    have e : 2 * (a % b) ≤ a := by
      have h1 := Nat.div_add_mod a b
      have h2 : 0 < a / b := Nat.div_pos (by omega) hb
      have h3 : b * 1 ≤ b * (a / b) := Nat.mul_le_mul_left _ h2
      omega
    rcases hk with hk | hk
    · rw [hk, Nat.pow_succ]
      calc b * (a % b) * (2 ^ (k - 1) * 2) = b * (2 * (a % b)) * 2 ^ (k - 1) := by
            rw [Nat.mul_comm (2 ^ (k - 1)) 2, ← Nat.mul_assoc, Nat.mul_assoc b, Nat.mul_comm (a % b) 2]
        _ ≤ b * a * 2 ^ (k - 1) := Nat.mul_le_mul_right _ (Nat.mul_le_mul_left _ e)
        _ = a * b * 2 ^ (k - 1) := by rw [Nat.mul_comm b a]
        _ ≤ 2 ^ 64 := hp
    · subst hk
      have := Nat.mul_le_mul h.2.1 (show a % b ≤ 2147483648 by have := h.2.1; omega)
      simp only [Nat.zero_add, Nat.sub_self, Nat.pow_zero, Nat.mul_one]
      omega
theorem eu_end {a b : Nat} (h : Eu 100 a b) : b = 0 := by
  rcases h.2.2 with h0 | ⟨hlt, hp⟩
  · omega
  · apply Nat.eq_zero_of_not_pos
    intro hb
    have h1 : 1 ≤ a * b := Nat.mul_pos (by omega) hb
    have h2 : 1 * 2 ^ (100 - 1) ≤ a * b * 2 ^ (100 - 1) := Nat.mul_le_mul_right _ h1
    omega
end Go.Proofs.Ytmplioglihmkjaa
