/-
  What a burst does to a frame's bytes: none of them is a frame's any more, for anybody; turned twice they are as they were.
-/
import Derived.Test.YtihldmcakcobaaaCorrupt
import Derived.Test.YtihldmcakcobaaaEncMath
import Derived.Test.YtihldmcakcobaaaBurstMath
namespace Go.Proofs.Ytihldmcakcobaaa
open Go.RowKit
set_option linter.unusedVariables false

theorem corr_get (b : List Nat) (z : Int) (mask t : Nat) (ht : t < b.length) : (corr b z mask).getD t 0 = b.getD t 0 ^^^ over z mask t := by
  unfold corr
  rw [List.getD_eq_getElem?_getD, List.getElem?_map, List.getElem?_range ht]
  rfl
theorem over_lt (z : Int) (mask t : Nat) : over z mask t < 256 := by
  unfold over
  split
  · exact Nat.mod_lt _ (by decide)
  · decide
theorem getD_lt {b : List Nat} (h : ∀ c ∈ b, c < 256) (t : Nat) : b.getD t 0 < 256 := by
  rcases Nat.lt_or_ge t b.length with ht | ht
  · rw [List.getD_eq_getElem?_getD, List.getElem?_eq_getElem ht]; exact h _ (List.getElem_mem ht)
  · rw [List.getD_eq_getElem?_getD, List.getElem?_eq_none ht]; decide
theorem corr_lt (b : List Nat) (z : Int) (mask : Nat) (h : ∀ c ∈ b, c < 256) : ∀ c ∈ corr b z mask, c < 256 := by
  intro c hc
  simp only [corr, List.mem_map, List.mem_range] at hc
  obtain ⟨t, ht, rfl⟩ := hc
  exact Nat.xor_lt_two_pow (n := 8) (getD_lt h t) (over_lt z mask t)
theorem ext_getD {a b : List Nat} (hl : a.length = b.length) (h : ∀ t, t < a.length → a.getD t 0 = b.getD t 0) : a = b := by
  apply List.ext_getElem hl
  intro t h1 h2
  have := h t h1
  rwa [List.getD_eq_getElem?_getD, List.getElem?_eq_getElem h1, List.getD_eq_getElem?_getD, List.getElem?_eq_getElem h2] at this
theorem corr_back (b : List Nat) (z : Int) (mask : Nat) : corr (corr b z mask) z mask = b := by
  refine ext_getD (by rw [corr_len, corr_len]) (fun t ht => ?_)
  rw [corr_len, corr_len] at ht
  rw [corr_get _ _ _ _ (by rw [corr_len]; exact ht), corr_get _ _ _ _ ht, SumMath.xor_undo]

/-! ### Bits -/
theorem low_bit (l : List Nat) : ∀ (i : Nat), (∀ c ∈ l, c < 256) → (SumMath.low l).testBit i = (l.getD (i / 8) 0).testBit (i % 8) := by
  induction l with
  | nil => intro i _; simp [SumMath.low]
  | cons c l ih =>
    intro i h
    have hc : c < 2 ^ 8 := h c (by simp)
    show (c + 256 * SumMath.low l).testBit i = _
    rw [Nat.add_comm, show 256 * SumMath.low l + c = 2 ^ 8 * SumMath.low l + c from rfl, Nat.testBit_two_pow_mul_add _ hc]
    by_cases hi : i < 8
    · rw [if_pos hi, show i / 8 = 0 by omega, show i % 8 = i by omega]; rfl
    · rw [if_neg hi, ih (i - 8) (fun d hd => h d (by simp [hd])), show i / 8 = (i - 8) / 8 + 1 by omega, show (i - 8) % 8 = i % 8 by omega]; rfl
theorem low_ext {a b : List Nat} (hl : a.length = b.length) (ha : ∀ c ∈ a, c < 256) (hb : ∀ c ∈ b, c < 256) (h : SumMath.low a = SumMath.low b) : a = b := by
  refine ext_getD hl (fun t _ => ?_)
  apply Nat.eq_of_testBit_eq
  intro r
  by_cases hr : r < 8
  · have h1 := low_bit a (8 * t + r) ha
    have h2 := low_bit b (8 * t + r) hb
    rw [h, h2, show (8 * t + r) / 8 = t by omega, show (8 * t + r) % 8 = r by omega] at h1
    exact h1.symm
  · have hp : ∀ v, v < 256 → v.testBit r = false := fun v hv => Nat.testBit_lt_two_pow (Nat.lt_of_lt_of_le (show v < 2 ^ 8 from hv) (Nat.pow_le_pow_right (by omega) (by omega)))
    rw [hp _ (getD_lt ha t), hp _ (getD_lt hb t)]
theorem over_bit (z : Int) (mask t r : Nat) (hm : mask < 4294967296) (hr : r < 8) : (over z mask t).testBit r = (decide (z ≤ 8 * (t : Int) + r) && mask.testBit (8 * (t : Int) + r - z).toNat) := by
  have hl : laid z mask < 2 ^ 39 := by
    have h : 2 ^ (z % 8).toNat ≤ 2 ^ 7 := Nat.pow_le_pow_right (by omega) (by omega)
    calc laid z mask ≤ mask * 2 ^ 7 := Nat.mul_le_mul_left _ h
      _ < _ := by omega
  have hlb : ∀ j, (laid z mask).testBit j = (decide ((z % 8).toNat ≤ j) && mask.testBit (j - (z % 8).toNat)) := fun j => by
    unfold laid
    rw [Nat.mul_comm, Nat.testBit_two_pow_mul]
  unfold over
  by_cases h : z / 8 ≤ (t : Int) ∧ (t : Int) < z / 8 + 5
  · rw [if_pos h, show (256 : Nat) = 2 ^ 8 from rfl, Nat.testBit_mod_two_pow, Nat.testBit_div_two_pow, hlb]
    obtain ⟨d, hd⟩ : ∃ d : Nat, (t : Int) - z / 8 = (d : Int) := ⟨((t : Int) - z / 8).toNat, by omega⟩
    rw [hd, Int.toNat_natCast]
    by_cases h2 : z ≤ 8 * (t : Int) + r
    · rw [decide_eq_true h2, decide_eq_true hr, decide_eq_true (show (z % 8).toNat ≤ r + 8 * d by omega), show r + 8 * d - (z % 8).toNat = (8 * (t : Int) + r - z).toNat by omega]
      simp
    · rw [decide_eq_false h2, decide_eq_false (show ¬ (z % 8).toNat ≤ r + 8 * d by omega)]
      simp
  · rw [if_neg h, Nat.zero_testBit]
    by_cases h2 : z ≤ 8 * (t : Int) + r
    · have h3 : mask.testBit (8 * (t : Int) + r - z).toNat = false := by
        refine Nat.testBit_lt_two_pow (Nat.lt_of_lt_of_le (show mask < 2 ^ 32 from hm) (Nat.pow_le_pow_right (by omega) ?_))
        omega
      rw [h3]; simp
    · rw [decide_eq_false h2]; rfl
theorem corr_bit (b : List Nat) (z : Int) (mask : Nat) (hm : mask < 4294967296) (hb : ∀ c ∈ b, c < 256) (i : Nat) :
    (SumMath.low (corr b z mask)).testBit i = ((SumMath.low b).testBit i ^^ (decide (i < 8 * b.length) && (decide (z ≤ (i : Int)) && mask.testBit ((i : Int) - z).toNat))) := by
  rw [low_bit _ _ (corr_lt b z mask hb), low_bit _ _ hb]
  by_cases hi : i < 8 * b.length
  · rw [corr_get _ _ _ _ (by omega), Nat.testBit_xor, over_bit z mask _ _ hm (Nat.mod_lt _ (by decide)), decide_eq_true hi]
    have e : (8 * ((i / 8 : Nat) : Int) + ((i % 8 : Nat) : Int)) = (i : Int) := by omega
    rw [e]; simp
  · rw [decide_eq_false hi, getD_out (l := corr b z mask) (by rw [corr_len]; omega), getD_out (l := b) (by omega)]
    simp

/-- the burst as one number, laid from a place on -/
theorem corr_low (b : List Nat) (z : Int) (mask : Nat) (hm : mask < 4294967296) (hb : ∀ c ∈ b, c < 256) :
    ∃ (a m : Nat), m < 4294967296 ∧ (m ≠ 0 → a < 8 * b.length) ∧ SumMath.low (corr b z mask) = SumMath.low b ^^^ m * 2 ^ a := by
  by_cases hz : 0 ≤ z
  · obtain ⟨a, rfl⟩ := Int.eq_ofNat_of_zero_le hz
    by_cases ha : a < 8 * b.length
    · refine ⟨a, mask % 2 ^ (8 * b.length - a), Nat.lt_of_le_of_lt (Nat.mod_le _ _) hm, fun _ => ha, Nat.eq_of_testBit_eq fun i => ?_⟩
      rw [corr_bit b _ mask hm hb, Nat.testBit_xor, Nat.mul_comm (mask % _) (2 ^ a), Nat.testBit_two_pow_mul, Nat.testBit_mod_two_pow]
      congr 1
      by_cases h1 : a ≤ i
      · rw [decide_eq_true h1, decide_eq_true (show (a : Int) ≤ (i : Int) by omega), show ((i : Int) - (a : Int)).toNat = i - a by omega, show decide (i - a < 8 * b.length - a) = decide (i < 8 * b.length) by rw [decide_eq_decide]; omega]
        simp
      · rw [decide_eq_false h1, decide_eq_false (show ¬ (a : Int) ≤ (i : Int) by omega)]
        simp
    · refine ⟨0, 0, by omega, fun h => absurd rfl h, Nat.eq_of_testBit_eq fun i => ?_⟩
      rw [corr_bit b _ mask hm hb, Nat.testBit_xor, Nat.zero_mul, Nat.zero_testBit]
      congr 1
      by_cases h1 : i < 8 * b.length
      · rw [decide_eq_false (show ¬ (a : Int) ≤ (i : Int) by omega)]; simp
      · rw [decide_eq_false h1]; simp
  · obtain ⟨s, hs⟩ : ∃ s : Nat, z = -(s : Int) := ⟨(-z).toNat, by omega⟩
    subst hs
    refine ⟨0, mask / 2 ^ s % 2 ^ (8 * b.length), Nat.lt_of_le_of_lt (Nat.le_trans (Nat.mod_le _ _) (Nat.div_le_self _ _)) hm, fun h => ?_, Nat.eq_of_testBit_eq fun i => ?_⟩
    · rcases Nat.eq_zero_or_pos b.length with h0 | h0
      · rw [h0] at h; simp [Nat.mod_one] at h
      · omega
    · rw [corr_bit b _ mask hm hb, Nat.testBit_xor, Nat.pow_zero, Nat.mul_one, Nat.testBit_mod_two_pow, Nat.testBit_div_two_pow]
      congr 1
      rw [decide_eq_true (show -(s : Int) ≤ (i : Int) by omega), show ((i : Int) - -(s : Int)).toNat = i + s by omega]
      simp

/-- what anybody accepts has the sum of all frames -/
theorem dec_sealed (b : List Nat) (hb : ∀ c ∈ b, c < 256) (h : decE b = 0) : SumMath.more 0 b = 558161692 := by
  obtain ⟨h1, h2⟩ := dec_ok h
  have hl := (isFr_iff.1 h1).1
  have hs := (isFr_iff.1 h1).2.2
  have e6 : st (slotB b : Nat) (memB b : Nat) = b.take 6 := by
    have g0 := getD_lt hb 0; have g1 := getD_lt hb 1; have g2 := getD_lt hb 2; have g3 := getD_lt hb 3; have g4 := getD_lt hb 4; have g5 := getD_lt hb 5
    have e : b.take 6 = [b.getD 0 0, b.getD 1 0, b.getD 2 0, b.getD 3 0, b.getD 4 0, b.getD 5 0] := by
      apply List.ext_getElem
      · simp; omega
      · intro i h1 h2
        simp at h1
        have : i = 0 ∨ i = 1 ∨ i = 2 ∨ i = 3 ∨ i = 4 ∨ i = 5 := by omega
        rcases this with rfl | rfl | rfl | rfl | rfl | rfl <;> simp [List.getD_eq_getElem?_getD, hl]
    rw [e]
    unfold st slotB memB
    generalize b.getD 0 0 = c0 at *; generalize b.getD 1 0 = c1 at *; generalize b.getD 2 0 = c2 at *; generalize b.getD 3 0 = c3 at *; generalize b.getD 4 0 = c4 at *; generalize b.getD 5 0 = c5 at *
    simp only [List.cons.injEq, and_true]
    omega
  unfold owns summed at h2
  have h3 := of_decide_eq_true h2
  rw [e6, SumMath.more_append _ _ (fun c hc => hb c (List.mem_of_mem_take hc))] at h3
  have e71 : b.take 6 ++ (b.drop 6).take 65 = b.take 71 := by
    rw [show (71 : Nat) = 6 + 65 from rfl, List.take_add]
  rw [e71] at h3
  have h4 := SumMath.sealed_is (SumMath.more_lt 0 (b.take 71))
  rw [h3, SumMath.more_append _ _ (fun c hc => hb c (List.mem_of_mem_take hc)), List.take_append_drop] at h4
  exact h4

/-- **A BURST TURNS A FRAME INTO NONE.** -/
theorem burst_none (b : List Nat) (z : Int) (mask : Nat) (hm : mask < 4294967296) (hb : ∀ c ∈ b, c < 256) (h : decE b = 0) (hne : corr b z mask ≠ b) : decE (corr b z mask) ≠ 0 := by
  intro hd
  have s1 := dec_sealed b hb h
  have s2 := dec_sealed _ (corr_lt b z mask hb) hd
  obtain ⟨a, m, hmm, hroom, hlow⟩ := corr_low b z mask hm hb
  have h0 := (SumMath.burst b (corr b z mask) a b.length m rfl (corr_len _ _ _) hb (corr_lt b z mask hb) hmm hroom hlow).1 (by rw [s1, s2])
  rw [h0, Nat.zero_mul, Nat.xor_zero] at hlow
  exact hne (low_ext (corr_len _ _ _) (corr_lt b z mask hb) hb hlow)
end Go.Proofs.Ytihldmcakcobaaa
