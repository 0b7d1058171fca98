/-
  Sets of small numbers, reckoned: how many they have, ranks, what comes next, runs.
-/
import Derived.Laws.BitsAllLaws
import Derived.Lib.TrailingZeros
namespace Go.Proofs.Ytklkndnikcjbhaa
set_option linter.unusedVariables false
/-- what a set has, rising -/
def mem (s : Nat) : List Nat := (List.range 64).filter (fun i => s.testBit i)
def pc (s : Nat) : Nat := (mem s).length

theorem mem_mem {s i : Nat} : i ∈ mem s ↔ i < 64 ∧ s.testBit i = true := by simp [mem]

theorem range_sorted (n : Nat) : (List.range n).Pairwise (· < ·) := List.pairwise_lt_range
theorem mem_sorted (s : Nat) : (mem s).Pairwise (· < ·) := (List.pairwise_lt_range).filter _

/-- two rising lists of the same numbers are one -/
theorem sorted_ext : ∀ {l m : List Nat}, l.Pairwise (· < ·) → m.Pairwise (· < ·) → (∀ i, i ∈ l ↔ i ∈ m) → l = m
  | [], [], _, _, _ => rfl
  | [], y :: m, _, _, h => by have := (h y).2 (by simp); simp at this
  | x :: l, [], _, _, h => by have := (h x).1 (by simp); simp at this
  | x :: l, y :: m, hl, hm, h => by
    rw [List.pairwise_cons] at hl hm
    have hxy : x = y := by
      have h1 := (h x).1 (by simp)
      have h2 := (h y).2 (by simp)
      rw [List.mem_cons] at h1 h2
      rcases h1 with h1 | h1
      · exact h1
      · rcases h2 with h2 | h2
        · exact h2.symm
        · have a := hm.1 x h1
          have b := hl.1 y h2
          omega
    subst hxy
    congr 1
    refine sorted_ext hl.2 hm.2 fun i => ?_
    have := h i
    simp only [List.mem_cons] at this
    constructor
    · intro hi
      have := this.1 (.inr hi)
      rcases this with rfl | h'
      · have := hl.1 _ hi; omega
      · exact h'
    · intro hi
      have := this.2 (.inr hi)
      rcases this with rfl | h'
      · have := hm.1 _ hi; omega
      · exact h'

/-- the lowest one, and the rest -/
theorem low_form (x : Nat) (h0 : x ≠ 0) (h : x < 2 ^ 64) : ∃ m, x = 2 ^ Lib.ctz 64 x * (2 * m + 1) ∧ Lib.ctz 64 x < 64 := by
  obtain ⟨m, hm, hk⟩ := Lib.ctzFrom_spec 64 x (by omega) h
  have e : Lib.ctz 64 x = Lib.ctzFrom 64 x := by simp [Lib.ctz, h0]
  rw [e]
  exact ⟨m, hm, hk⟩

theorem bit_low (t m i : Nat) : (2 ^ t * (2 * m + 1)).testBit i = (decide (i = t) || (decide (t < i) && m.testBit (i - t - 1))) := by
  rw [Nat.mul_comm, Nat.testBit_mul_two_pow]
  by_cases h : i = t
  · subst h; simp [Nat.testBit_zero]
  · by_cases h2 : t < i
    · obtain ⟨j, rfl⟩ : ∃ j, i = t + (j + 1) := ⟨i - t - 1, by omega⟩
      have e1 : t + (j + 1) - t = j + 1 := by omega
      have e2 : t + (j + 1) - t - 1 = j := by omega
      have e3 : (2 * m + 1) / 2 = m := by omega
      have e4 : ¬ t + (j + 1) = t := by omega
      rw [e1, Nat.testBit_succ, e3]
      simp
    · have : ¬ t ≤ i := by omega
      simp [h, h2, this]
theorem bit_up (t m i : Nat) : (2 ^ t * (2 * m)).testBit i = (decide (t < i) && m.testBit (i - t - 1)) := by
  have e : 2 ^ t * (2 * m) = m * 2 ^ (t + 1) := by rw [Nat.pow_succ, Nat.mul_comm m]; ac_rfl
  rw [e, Nat.testBit_mul_two_pow]
  by_cases h : t < i
  · have h1 : t + 1 ≤ i := h
    have e1 : i - (t + 1) = i - t - 1 := by omega
    simp [h, h1, e1]
  · have h1 : ¬ t + 1 ≤ i := h
    simp [h, h1]
theorem bit_ones (t i : Nat) : (2 ^ t - 1).testBit i = decide (i < t) := by
  rw [Nat.testBit_two_pow_sub_one]

/-- without its lowest one -/
theorem drop_low (t m : Nat) : (2 ^ t * (2 * m + 1)) &&& (2 ^ t * (2 * m + 1) - 1) = 2 ^ t * (2 * m) := by
  have hp : 0 < 2 ^ t := Nat.two_pow_pos t
  have e : 2 ^ t * (2 * m + 1) - 1 = 2 ^ t * (2 * m) + (2 ^ t - 1) := by rw [Nat.mul_add]; omega
  rw [e, Nat.two_pow_add_eq_or_of_lt (by omega)]
  apply Nat.eq_of_testBit_eq
  intro i
  rw [Nat.testBit_and, Nat.testBit_or, bit_low, bit_up, bit_ones]
  by_cases h : i = t
  · subst h; simp
  · by_cases h2 : t < i
    · have h3 : ¬ i < t := by omega
      simp [h, h2, h3]
    · simp [h, h2]

theorem mem_zero : mem 0 = [] := by simp [mem]
/-- the lowest one comes first -/
theorem mem_step (x : Nat) (h0 : x ≠ 0) (h : x < 2 ^ 64) : mem x = Lib.ctz 64 x :: mem (x &&& (x - 1)) := by
  obtain ⟨m, hm, hk⟩ := low_form x h0 h
  generalize Lib.ctz 64 x = t at hm hk
  subst hm
  rw [drop_low]
  refine sorted_ext (mem_sorted _) ?_ ?_
  · rw [List.pairwise_cons]
    refine ⟨?_, mem_sorted _⟩
    intro a ha
    rw [mem_mem, bit_up] at ha
    simp at ha
    omega
  · intro i
    rw [List.mem_cons, mem_mem, mem_mem, bit_low, bit_up]
    by_cases h1 : i = t
    · subst h1; simp [hk]
    · simp [h1]
theorem mem_nil {x : Nat} (h : x < 2 ^ 64) : mem x = [] ↔ x = 0 := by
  constructor
  · intro e
    apply Classical.byContradiction
    intro h0
    rw [mem_step x h0 h] at e
    cases e
  · rintro rfl; exact mem_zero
theorem and_le (x y : Nat) : x &&& y ≤ x := Nat.and_le_left
/-- how many of the lowest n bits are set -/
def cnt : Nat → Nat → Nat
  | 0, _ => 0
  | n + 1, x => x % 2 + cnt n (x / 2)
theorem cnt_add : ∀ (m n x : Nat), cnt (m + n) x = cnt m (x % 2 ^ m) + cnt n (x / 2 ^ m)
  | 0, n, x => by simp [cnt]
  | m + 1, n, x => by
    have e : m + 1 + n = (m + n) + 1 := by omega
    rw [e]
    simp only [cnt]
    rw [cnt_add m n (x / 2)]
    have h1 : x % 2 ^ (m + 1) % 2 = x % 2 := by rw [Nat.pow_succ, Nat.mul_comm, Nat.mod_mul_right_mod]
    have h2 : x % 2 ^ (m + 1) / 2 = x / 2 % 2 ^ m := by rw [Nat.pow_succ, Nat.mul_comm, Nat.mod_mul_right_div_self]
    have h3 : x / 2 / 2 ^ m = x / 2 ^ (m + 1) := by rw [Nat.div_div_eq_div_mul, Nat.pow_succ, Nat.mul_comm]
    rw [h1, h2, h3]
    omega

theorem and_split (b r m M : Nat) (hb : b < 256) (hm : m < 256) : (b + 256 * r) &&& (m + 256 * M) = (b &&& m) + 256 * (r &&& M) := by
  have h1 : ((b + 256 * r) &&& (m + 256 * M)) % 2 ^ 8 = b &&& m := by
    rw [Nat.and_mod_two_pow]
    have e1 : (b + 256 * r) % 2 ^ 8 = b := by omega
    have e2 : (m + 256 * M) % 2 ^ 8 = m := by omega
    rw [e1, e2]
  have h2 : ((b + 256 * r) &&& (m + 256 * M)) / 2 ^ 8 = r &&& M := by
    rw [Nat.and_div_two_pow]
    have e1 : (b + 256 * r) / 2 ^ 8 = r := by omega
    have e2 : (m + 256 * M) / 2 ^ 8 = M := by omega
    rw [e1, e2]
  omega

def rep (m : Nat) : Nat → Nat
  | 0 => 0
  | k + 1 => m + 256 * rep m k
def vec (f : Nat → Nat) : Nat → Nat → Nat
  | 0, _ => 0
  | k + 1, x => f (x % 256) + 256 * vec f k (x / 256)
def s1 (b : Nat) : Nat := (b / 2 &&& 85) + (b &&& 85)
def s2 (b : Nat) : Nat := (b / 4 &&& 51) + (b &&& 51)
def s3 (b : Nat) : Nat := b / 16 + b % 16

theorem b1 : ∀ b, b < 256 → ∀ t, t < 2 → ((b / 2 + 128 * t) &&& 85) + (b &&& 85) = s1 b := by decide +kernel
theorem b2 : ∀ b, b < 256 → ∀ t, t < 4 → ((b / 4 + 64 * t) &&& 51) + (b &&& 51) = s2 b := by decide +kernel
theorem b1s : ∀ b, b < 256 → s1 b < 256 := by decide +kernel
theorem b2s : ∀ b, b < 256 → s2 (s1 b) % 16 ≤ 4 ∧ s2 (s1 b) ≤ 68 := by decide +kernel
theorem b3s : ∀ b, b < 256 → s3 (s2 (s1 b)) = cnt 8 b ∧ cnt 8 b ≤ 8 := by decide +kernel

theorem step1 : ∀ (k x : Nat), (x / 2 &&& rep 85 k) + (x &&& rep 85 k) = vec s1 k x
  | 0, x => by simp [rep, vec]
  | k + 1, x => by
    have hx : x = x % 256 + 256 * (x / 256) := by omega
    have hb : x % 256 < 256 := Nat.mod_lt _ (by decide)
    have hx2 : x / 2 = (x % 256 / 2 + 128 * (x / 256 % 2)) + 256 * (x / 256 / 2) := by omega
    have ih := step1 k (x / 256)
    simp only [rep, vec]
    rw [hx2, and_split _ _ _ _ (by omega) (by decide)]
    have h3 : x &&& (85 + 256 * rep 85 k) = (x % 256 &&& 85) + 256 * (x / 256 &&& rep 85 k) := by
      conv => lhs; rw [hx]
      exact and_split _ _ _ _ hb (by decide)
    rw [h3, ← b1 (x % 256) hb (x / 256 % 2) (Nat.mod_lt _ (by decide))]
    omega
theorem step2 : ∀ (k x : Nat), (x / 4 &&& rep 51 k) + (x &&& rep 51 k) = vec s2 k x
  | 0, x => by simp [rep, vec]
  | k + 1, x => by
    have hx : x = x % 256 + 256 * (x / 256) := by omega
    have hb : x % 256 < 256 := Nat.mod_lt _ (by decide)
    have hx2 : x / 4 = (x % 256 / 4 + 64 * (x / 256 % 4)) + 256 * (x / 256 / 4) := by omega
    have ih := step2 k (x / 256)
    simp only [rep, vec]
    rw [hx2, and_split _ _ _ _ (by omega) (by decide)]
    have h3 : x &&& (51 + 256 * rep 51 k) = (x % 256 &&& 51) + 256 * (x / 256 &&& rep 51 k) := by
      conv => lhs; rw [hx]
      exact and_split _ _ _ _ hb (by decide)
    rw [h3, ← b2 (x % 256) hb (x / 256 % 4) (Nat.mod_lt _ (by decide))]
    omega
theorem and15 (x : Nat) : x &&& 15 = x % 16 := Nat.and_two_pow_sub_one_eq_mod x 4
theorem step3 : ∀ (k x : Nat), (∀ j, x / 256 ^ j % 256 % 16 ≤ 4 ∧ x / 256 ^ j % 256 ≤ 68) → ((x / 16 + x) &&& rep 15 k) = vec s3 k x
  | 0, x, _ => by simp [rep, vec]
  | k + 1, x, h => by
    have h0 := h 0
    have h1 := h 1
    simp only [Nat.pow_zero, Nat.div_one, Nat.pow_one] at h0 h1
    have hx2 : x / 16 + x = (x % 256 / 16 + 16 * (x / 256 % 256 % 16) + x % 256) + 256 * (x / 256 / 16 + x / 256) := by omega
    have ih := step3 k (x / 256) (fun j => by
      have := h (j + 1)
      rw [Nat.pow_succ, Nat.mul_comm, ← Nat.div_div_eq_div_mul] at this
      exact this)
    simp only [rep, vec]
    rw [hx2, and_split _ _ _ _ (by omega) (by decide), ih, and15]
    have : (x % 256 / 16 + 16 * (x / 256 % 256 % 16) + x % 256) % 16 = s3 (x % 256) := by unfold s3; omega
    rw [this]
theorem vec_mod {f : Nat → Nat} (hf : ∀ b, b < 256 → f b < 256) (k x : Nat) : vec f (k + 1) x % 256 = f (x % 256) ∧ vec f (k + 1) x / 256 = vec f k (x / 256) := by
  have := hf (x % 256) (Nat.mod_lt _ (by decide))
  simp only [vec]
  omega
theorem vec_vec {f g : Nat → Nat} (hf : ∀ b, b < 256 → f b < 256) : ∀ (k x : Nat), vec g k (vec f k x) = vec (fun b => g (f b)) k x
  | 0, x => rfl
  | k + 1, x => by
    obtain ⟨h1, h2⟩ := vec_mod hf k x
    show g (vec f (k + 1) x % 256) + 256 * vec g k (vec f (k + 1) x / 256) = _
    rw [h1, h2, vec_vec hf k]
    rfl
theorem vec_byte {f : Nat → Nat} (hf : ∀ b, b < 256 → f b < 256) : ∀ (k x j : Nat), vec f k x / 256 ^ j % 256 = if j < k then f (x / 256 ^ j % 256) else 0
  | 0, x, j => by simp [vec]
  | k + 1, x, 0 => by simp [(vec_mod hf k x).1]
  | k + 1, x, j + 1 => by
    have e : ∀ y, y / 256 ^ (j + 1) = y / 256 / 256 ^ j := fun y => by rw [Nat.pow_succ, Nat.mul_comm, ← Nat.div_div_eq_div_mul]
    rw [e, (vec_mod hf k x).2, vec_byte hf k, e]
    simp
theorem vec_congr {f g : Nat → Nat} (h : ∀ b, b < 256 → f b = g b) : ∀ (k x : Nat), vec f k x = vec g k x
  | 0, _ => rfl
  | k + 1, x => by simp only [vec]; rw [h _ (Nat.mod_lt _ (by decide)), vec_congr h k]

/-- the three steps: of each byte, how many of its bits are set -/
theorem steps (x a1 a2 a3 : Nat) (h1 : a1 = (x / 2 &&& 6148914691236517205) + (x &&& 6148914691236517205)) (h2 : a2 = (a1 / 4 &&& 3689348814741910323) + (a1 &&& 3689348814741910323))
    (h3 : a3 = ((a2 / 16 + a2) &&& 1085102592571150095)) : a1 = vec s1 8 x ∧ a2 = vec (fun b => s2 (s1 b)) 8 x ∧ a3 = vec (cnt 8) 8 x := by
  have m1 : rep 85 8 = 6148914691236517205 := by decide
  have m2 : rep 51 8 = 3689348814741910323 := by decide
  have m3 : rep 15 8 = 1085102592571150095 := by decide
  have e1 : a1 = vec s1 8 x := by rw [h1, ← m1]; exact step1 8 x
  have e2 : a2 = vec (fun b => s2 (s1 b)) 8 x := by rw [h2, e1, ← m2, step2 8, vec_vec b1s]
  have hb : ∀ b, b < 256 → s2 (s1 b) < 256 := fun b h => by have := (b2s b h).2; omega
  refine ⟨e1, e2, ?_⟩
  rw [h3, e2, ← m3, step3 8 _ ?_, vec_vec hb]
  · exact vec_congr (fun b h => (b3s b h).1) 8 x
  · intro j
    rw [vec_byte hb]
    split
    · exact b2s _ (Nat.mod_lt _ (by decide))
    · simp
theorem vec_lt {f : Nat → Nat} (B : Nat) (hf : ∀ b, b < 256 → f b ≤ B) (k x : Nat) : vec f k x ≤ rep B k := by
  induction k generalizing x with
  | zero => simp [vec, rep]
  | succ k ih =>
    simp only [vec, rep]
    have := ih (x / 256)
    have := hf (x % 256) (Nat.mod_lt _ (by decide))
    omega
theorem cnt64 (x : Nat) : cnt 64 x = cnt 8 (x % 256) + (cnt 8 (x / 256 % 256) + (cnt 8 (x / 256 / 256 % 256) + (cnt 8 (x / 256 / 256 / 256 % 256) + (cnt 8 (x / 256 / 256 / 256 / 256 % 256) + (cnt 8 (x / 256 / 256 / 256 / 256 / 256 % 256) + (cnt 8 (x / 256 / 256 / 256 / 256 / 256 / 256 % 256) + cnt 8 (x / 256 / 256 / 256 / 256 / 256 / 256 / 256 % 256))))))) := by
  have h : ∀ n y, cnt (8 + n) y = cnt 8 (y % 256) + cnt n (y / 256) := fun n y => cnt_add 8 n y
  have h8 : ∀ y, cnt 8 y = cnt 8 (y % 256) := fun y => by have := h 0 y; simpa [cnt] using this
  rw [show 64 = 8 + (8 + (8 + (8 + (8 + (8 + (8 + 8)))))) from rfl, h, h, h, h, h, h, h, h8 (x / 256 / 256 / 256 / 256 / 256 / 256 / 256)]
theorem last_sum (x a4 a5 a6 : Nat) (h4 : a4 = vec (cnt 8) 8 x + vec (cnt 8) 8 x / 256) (h5 : a5 = a4 + a4 / 65536) (h6 : a6 = a5 + a5 / 4294967296) : a6 % 128 = cnt 64 x ∧ a6 < 18446744073709551616 := by
  rw [cnt64]
  simp only [vec] at h4
  have hb : ∀ y, cnt 8 (y % 256) ≤ 8 := fun y => (b3s _ (Nat.mod_lt _ (by decide))).2
  have p0 := hb x
  have p1 := hb (x / 256)
  have p2 := hb (x / 256 / 256)
  have p3 := hb (x / 256 / 256 / 256)
  have p4 := hb (x / 256 / 256 / 256 / 256)
  have p5 := hb (x / 256 / 256 / 256 / 256 / 256)
  have p6 := hb (x / 256 / 256 / 256 / 256 / 256 / 256)
  have p7 := hb (x / 256 / 256 / 256 / 256 / 256 / 256 / 256)
  generalize cnt 8 (x % 256) = q0 at *
  generalize cnt 8 (x / 256 % 256) = q1 at *
  generalize cnt 8 (x / 256 / 256 % 256) = q2 at *
  generalize cnt 8 (x / 256 / 256 / 256 % 256) = q3 at *
  generalize cnt 8 (x / 256 / 256 / 256 / 256 % 256) = q4 at *
  generalize cnt 8 (x / 256 / 256 / 256 / 256 / 256 % 256) = q5 at *
  generalize cnt 8 (x / 256 / 256 / 256 / 256 / 256 / 256 % 256) = q6 at *
  generalize cnt 8 (x / 256 / 256 / 256 / 256 / 256 / 256 / 256 % 256) = q7 at *
  clear hb
  have e4 : a4 = (q0 + q1) + 256 * (q1 + q2) + 65536 * ((q2 + q3) + 256 * (q3 + q4) + 65536 * ((q4 + q5) + 256 * (q5 + q6) + 65536 * ((q6 + q7) + 256 * q7))) := by
    rw [h4]
    have : (q0 + 256 * (q1 + 256 * (q2 + 256 * (q3 + 256 * (q4 + 256 * (q5 + 256 * (q6 + 256 * (q7 + 256 * 0)))))))) / 256 = (q1 + 256 * (q2 + 256 * (q3 + 256 * (q4 + 256 * (q5 + 256 * (q6 + 256 * (q7 + 256 * 0))))))) := by omega
    rw [this]; omega
  clear h4
  have d4 : a4 / 65536 = (q2 + q3) + 256 * (q3 + q4) + 65536 * ((q4 + q5) + 256 * (q5 + q6) + 65536 * ((q6 + q7) + 256 * q7)) := by
    generalize (q2 + q3) + 256 * (q3 + q4) + 65536 * ((q4 + q5) + 256 * (q5 + q6) + 65536 * ((q6 + q7) + 256 * q7)) = Z at *
    omega
  have e5 : a5 = (q0 + q1 + q2 + q3) + 256 * (q1 + q2 + q3 + q4) + 65536 * (q2 + q3 + q4 + q5) + 16777216 * (q3 + q4 + q5 + q6) + 4294967296 * ((q4 + q5 + q6 + q7) + 256 * (q5 + q6 + q7) + 65536 * (q6 + q7) + 16777216 * q7) := by
    rw [h5, d4, e4]; omega
  clear e4 d4 h5
  have d5 : a5 / 4294967296 = (q4 + q5 + q6 + q7) + 256 * (q5 + q6 + q7) + 65536 * (q6 + q7) + 16777216 * q7 := by
    generalize (q4 + q5 + q6 + q7) + 256 * (q5 + q6 + q7) + 65536 * (q6 + q7) + 16777216 * q7 = Z at *
    omega
  rw [d5, e5] at h6
  clear d5 e5
  omega
/-- the members below n -/
def memn (n s : Nat) : List Nat := (List.range n).filter (fun i => s.testBit i)
theorem mem_eq (s : Nat) : mem s = memn 64 s := rfl
theorem memn_succ (n s : Nat) : memn (n + 1) s = memn n s ++ if s.testBit n then [n] else [] := by
  unfold memn
  rw [List.range_succ, List.filter_append]
  congr 1
  by_cases h : s.testBit n <;> simp [h]
theorem memn_mem {n s i : Nat} : i ∈ memn n s ↔ i < n ∧ s.testBit i = true := by simp [memn]
/-- how many below n -/
def num (n s : Nat) : Nat := (memn n s).length
theorem num_succ (n s : Nat) : num (n + 1) s = num n s + if s.testBit n then 1 else 0 := by
  unfold num
  rw [memn_succ, List.length_append]
  split <;> rfl
theorem num_le (n s : Nat) : num n s ≤ n := by
  unfold num memn
  have := List.length_filter_le (fun i => s.testBit i) (List.range n)
  simpa using this
theorem num_cnt : ∀ (n s : Nat), num n s = cnt n s
  | 0, s => rfl
  | n + 1, s => by
    have h : memn (n + 1) s = (if s.testBit 0 then [0] else []) ++ (memn n (s / 2)).map (· + 1) := by
      unfold memn
      rw [List.range_succ_eq_map, List.filter_cons, List.filter_map]
      have e : ((fun i => s.testBit i) ∘ Nat.succ) = fun i => (s / 2).testBit i := by
        funext i
        simp [Nat.testBit_succ]
      rw [e]
      split <;> rfl
    unfold num
    rw [h, List.length_append, List.length_map]
    have ih := num_cnt n (s / 2)
    unfold num at ih
    rw [ih]
    simp only [cnt]
    congr 1
    rw [Nat.testBit_zero]
    rcases Nat.mod_two_eq_zero_or_one s with h | h <;> simp [h]
theorem pc_num (s : Nat) : pc s = num 64 s := rfl
theorem num_congr {n s t : Nat} (h : ∀ i, i < n → s.testBit i = t.testBit i) : memn n s = memn n t := by
  unfold memn
  exact List.filter_congr fun i hi => h i (List.mem_range.1 hi)
theorem high_zero {n s i : Nat} (h : s < 2 ^ n) (hi : n ≤ i) : s.testBit i = false := Nat.testBit_lt_two_pow (Nat.lt_of_lt_of_le h (Nat.pow_le_pow_right (by decide) hi))
theorem memn_up {n s : Nat} (h : s < 2 ^ n) : ∀ d, memn (n + d) s = memn n s
  | 0 => rfl
  | d + 1 => by
    rw [← Nat.add_assoc, memn_succ, high_zero h (by omega), memn_up h d]
    simp
theorem mem_low {n s : Nat} (h : s < 2 ^ n) (hn : n ≤ 64) : mem s = memn n s := by
  obtain ⟨d, hd⟩ := Nat.le.dest hn
  rw [mem_eq, ← hd, memn_up h]

/-- of n, how many ways to choose k -/
def ch : Nat → Nat → Nat
  | _, 0 => 1
  | 0, _ + 1 => 0
  | n + 1, k + 1 => ch n k + ch n (k + 1)
theorem ch_zero (n : Nat) : ch n 0 = 1 := by cases n <;> rfl
theorem ch_above : ∀ {n k : Nat}, n < k → ch n k = 0
  | 0, k + 1, _ => rfl
  | n + 1, k + 1, h => by
    simp only [ch]
    rw [ch_above (show n < k by omega), ch_above (show n < k + 1 by omega)]
theorem ch_self : ∀ n, ch n n = 1
  | 0 => rfl
  | n + 1 => by simp only [ch]; rw [ch_self n, ch_above (show n < n + 1 by omega)]
theorem ch_mono (n k : Nat) : ch n k ≤ ch (n + 1) k := by
  cases k with
  | zero => rw [ch_zero, ch_zero]; exact Nat.le_refl _
  | succ k => simp only [ch]; omega
theorem ch_mono' {m n : Nat} (h : m ≤ n) (k : Nat) : ch m k ≤ ch n k := by
  obtain ⟨d, rfl⟩ := Nat.le.dest h
  clear h
  induction d with
  | zero => exact Nat.le_refl _
  | succ d ih => exact Nat.le_trans ih (ch_mono _ _)
theorem ch_pos : ∀ {n k : Nat}, k ≤ n → 0 < ch n k
  | n, 0, _ => by rw [ch_zero]; decide
  | 0, k + 1, h => by omega
  | n + 1, k + 1, h => by simp only [ch]; have := ch_pos (show k ≤ n by omega); omega

/-- the rank of a rising list that begins behind j others -/
def rkL : Nat → List Nat → Nat
  | _, [] => 0
  | j, i :: l => ch i (j + 1) + rkL (j + 1) l
theorem rkL_append : ∀ (j : Nat) (l m : List Nat), rkL j (l ++ m) = rkL j l + rkL (j + l.length) m
  | j, [], m => by simp [rkL]
  | j, i :: l, m => by
    simp only [List.cons_append, rkL, List.length_cons]
    rw [rkL_append (j + 1) l m, show j + 1 + l.length = j + (l.length + 1) by omega]
    omega
/-- the rank of what is below n -/
def rk (n s : Nat) : Nat := rkL 0 (memn n s)
theorem rk_succ (n s : Nat) : rk (n + 1) s = rk n s + if s.testBit n then ch n (num n s + 1) else 0 := by
  unfold rk
  rw [memn_succ, rkL_append, Nat.zero_add]
  split <;> simp [rkL, num]
theorem rk_lt (n s : Nat) : rk n s < ch n (num n s) := by
  induction n with
  | zero => exact Nat.zero_lt_one
  | succ n ih =>
    rw [rk_succ, num_succ]
    by_cases h : s.testBit n
    · simp only [h, if_true, ch]
      omega
    · simp only [h]
      have := ch_mono n (num n s)
      simp; omega
theorem rk_up {n s : Nat} (h : s < 2 ^ n) (d : Nat) : rk (n + d) s = rk n s ∧ num (n + d) s = num n s := by
  unfold rk num
  rw [memn_up h]
  exact ⟨rfl, rfl⟩
/-- a rank that low means that all is below m -/
theorem rk_back {m s : Nat} : ∀ d, rk (m + d) s < ch m (num (m + d) s) → s % 2 ^ (m + d) < 2 ^ m
  | 0, _ => Nat.mod_lt _ (Nat.two_pow_pos _)
  | d + 1, h => by
    rw [← Nat.add_assoc, rk_succ, num_succ] at h
    by_cases hb : s.testBit (m + d)
    · simp only [hb, if_true] at h
      have := ch_mono' (show m ≤ m + d by omega) (num (m + d) s + 1)
      omega
    · simp only [hb] at h
      have ih := rk_back d (by simpa using h)
      have e : s % 2 ^ (m + (d + 1)) = s % 2 ^ (m + d) := by
        rw [← Nat.add_assoc, Nat.pow_succ, Nat.mod_mul]
        have : s / 2 ^ (m + d) % 2 = 0 := by
          rw [Nat.testBit_eq_decide_div_mod_eq] at hb
          simp at hb
          omega
        rw [this]; omega
      rw [e]
      exact ih

/-- the set of a size and a rank, below n -/
def un : Nat → Nat → Nat → Nat
  | 0, _, _ => 0
  | n + 1, k, r => if ch n k ≤ r then 2 ^ n + un n (k - 1) (r - ch n k) else un n k r
theorem un_lt : ∀ (n k r : Nat), un n k r < 2 ^ n
  | 0, _, _ => Nat.zero_lt_one
  | n + 1, k, r => by
    simp only [un, Nat.pow_succ]
    have h1 := un_lt n (k - 1) (r - ch n k)
    have h2 := un_lt n k r
    split <;> omega
theorem mod_succ (n s : Nat) : s % 2 ^ (n + 1) = s % 2 ^ n + if s.testBit n then 2 ^ n else 0 := by
  rw [Nat.pow_succ, Nat.mod_mul, Nat.testBit_eq_decide_div_mod_eq]
  rcases Nat.mod_two_eq_zero_or_one (s / 2 ^ n) with h | h <;> simp [h]
theorem un_rk (s : Nat) : ∀ n, un n (num n s) (rk n s) = s % 2 ^ n
  | 0 => by simp [un, Nat.mod_one]
  | n + 1 => by
    rw [num_succ, rk_succ, mod_succ]
    have ih := un_rk s n
    have hl := rk_lt n s
    by_cases h : s.testBit n
    · simp only [h, if_true, un]
      rw [if_pos (by omega), Nat.add_sub_cancel, Nat.add_sub_cancel, ih]
      omega
    · simp only [h, un]
      simp only [Bool.false_eq_true, if_false, Nat.add_zero]
      rw [if_neg (by omega), ih]
/-- one place further down -/
theorem un_step {n k r : Nat} (h : r < ch (n + 1) k) :
    (ch n k ≤ r → 1 ≤ k ∧ r - ch n k < ch n (k - 1) ∧ (un (n + 1) k r).testBit n = true ∧ un (n + 1) k r % 2 ^ n = un n (k - 1) (r - ch n k)) ∧
    (¬ ch n k ≤ r → (un (n + 1) k r).testBit n = false ∧ un (n + 1) k r % 2 ^ n = un n k r) := by
  constructor
  · intro hc
    obtain ⟨k, rfl⟩ : ∃ k', k = k' + 1 := by
      cases k with
      | zero => rw [ch_zero] at h hc; omega
      | succ k => exact ⟨k, rfl⟩
    simp only [ch] at h
    have hl := un_lt n k (r - ch n (k + 1))
    have e : un (n + 1) (k + 1) r = 2 ^ n + un n k (r - ch n (k + 1)) := by simp only [un, if_pos hc, Nat.add_sub_cancel]
    refine ⟨by omega, by simp only [Nat.add_sub_cancel]; omega, ?_, ?_⟩
    · rw [e, Nat.testBit_two_pow_add_eq, Nat.testBit_lt_two_pow hl]; rfl
    · rw [e, Nat.add_mod_left, Nat.mod_eq_of_lt hl]; rfl
  · intro hc
    have e : un (n + 1) k r = un n k r := by simp only [un, if_neg hc]
    rw [e]
    exact ⟨Nat.testBit_lt_two_pow (un_lt n k r), Nat.mod_eq_of_lt (un_lt n k r)⟩
/-- s: nothing below a, all from a to b, not b, and A above -/
def shp (a b A : Nat) : Nat := 2 ^ (b + 1) * A + (2 ^ b - 2 ^ a)
/-- the next one -/
def nxt (a b A : Nat) : Nat := 2 ^ (b + 1) * A + (2 ^ b + (2 ^ (b - a - 1) - 1))

theorem shape {s : Nat} (h0 : s ≠ 0) (h : s < 2 ^ 64) : ∃ a b A, a = Lib.ctz 64 s ∧ a < b ∧ b ≤ 64 ∧ s = shp a b A ∧ (b = 64 → A = 0) := by
  obtain ⟨m, hm, hk⟩ := low_form s h0 h
  generalize Lib.ctz 64 s = a at hm hk
  obtain ⟨q, hq, hk2⟩ := Lib.ctzFrom_spec 65 (s + 2 ^ a) (by have := Nat.two_pow_pos a; omega) (by
    have : 2 ^ a ≤ 2 ^ 63 := Nat.pow_le_pow_right (by decide) (by omega)
    have h65 : (2 : Nat) ^ 65 = 2 ^ 64 + 2 ^ 64 := by decide
    have h64 : (2 : Nat) ^ 64 = 2 ^ 63 + 2 ^ 63 := by decide
    omega)
  generalize Lib.ctzFrom 65 (s + 2 ^ a) = b at hq hk2
  have hab : a < b := by
    apply Nat.lt_of_not_le
    intro hle
    obtain ⟨d, rfl⟩ := Nat.le.dest hle
    have e1 : s + 2 ^ (b + d) = 2 ^ (b + d) * (2 * (m + 1)) := by rw [hm]; simp only [Nat.mul_add, Nat.mul_one]; omega
    rw [e1] at hq
    have e2 : 2 ^ (b + d) * (2 * (m + 1)) = 2 ^ b * (2 * (2 ^ d * (m + 1))) := by rw [Nat.pow_add]; ac_rfl
    rw [e2] at hq
    have := Nat.eq_of_mul_eq_mul_left (Nat.two_pow_pos b) hq
    omega
  have hpab : 2 ^ a ≤ 2 ^ b := Nat.pow_le_pow_right (by decide) (by omega)
  have hs : s = shp a b q := by
    unfold shp
    have e : 2 ^ b * (2 * q + 1) = 2 ^ (b + 1) * q + 2 ^ b := by rw [Nat.pow_succ, Nat.mul_add, Nat.mul_one]; congr 1; ac_rfl
    omega
  refine ⟨a, b, q, rfl, hab, by omega, hs, ?_⟩
  intro hb
  subst hb
  apply Classical.byContradiction
  intro hq0
  have h1 : 2 ^ (64 + 1) * 1 ≤ 2 ^ (64 + 1) * q := Nat.mul_le_mul_left _ (by omega)
  have : (2 : Nat) ^ (64 + 1) = 2 ^ 64 + 2 ^ 64 := by decide
  unfold shp at hs
  omega

theorem ones_split {a b : Nat} (h : a < b) : 2 ^ b - 2 ^ a = 2 ^ a * (2 ^ (b - a) - 1) := by
  rw [Nat.mul_sub, ← Nat.pow_add, Nat.mul_one, show a + (b - a) = b by omega]
theorem shp_bit {a b A : Nat} (h : a < b) (i : Nat) : (shp a b A).testBit i = if i < b then decide (a ≤ i) else if i = b then false else A.testBit (i - b - 1) := by
  unfold shp
  have hpab : 2 ^ a ≤ 2 ^ b := Nat.pow_le_pow_right (by decide) (by omega)
  have hpb : 2 ^ (b + 1) = 2 ^ b + 2 ^ b := by rw [Nat.pow_succ]; omega
  have hpa := Nat.two_pow_pos a
  have hlt : 2 ^ b - 2 ^ a < 2 ^ (b + 1) := by omega
  rw [Nat.two_pow_add_eq_or_of_lt hlt, Nat.testBit_or, Nat.testBit_two_pow_mul]
  rw [ones_split h, Nat.testBit_two_pow_mul, Nat.testBit_two_pow_sub_one]
  by_cases h1 : i < b
  · have h2 : ¬ b + 1 ≤ i := by omega
    simp only [h1, if_true, h2, decide_false, Bool.false_and, Bool.false_or]
    by_cases h3 : a ≤ i
    · have : i - a < b - a := by omega
      simp [h3, this]
    · simp [h3]
  · simp only [h1, if_false]
    by_cases h2 : i = b
    · subst h2
      simp
      omega
    · have h3 : b + 1 ≤ i := by omega
      have h4 : ¬ i - a < b - a := by omega
      simp [h2, h3, h4, show i - (b + 1) = i - b - 1 by omega]
theorem nxt_bit {a b A : Nat} (h : a < b) (i : Nat) : (nxt a b A).testBit i = if i < b then decide (i < b - a - 1) else if i = b then true else A.testBit (i - b - 1) := by
  unfold nxt
  have hpb : 2 ^ (b + 1) = 2 ^ b + 2 ^ b := by rw [Nat.pow_succ]; omega
  have hle : 2 ^ (b - a - 1) ≤ 2 ^ b := Nat.pow_le_pow_right (by decide) (by omega)
  have hp := Nat.two_pow_pos (b - a - 1)
  have hlt : 2 ^ b + (2 ^ (b - a - 1) - 1) < 2 ^ (b + 1) := by omega
  rw [Nat.two_pow_add_eq_or_of_lt hlt, Nat.testBit_or, Nat.testBit_two_pow_mul]
  have e : 2 ^ b + (2 ^ (b - a - 1) - 1) = 2 ^ b * 1 + (2 ^ (b - a - 1) - 1) := by omega
  rw [e, Nat.two_pow_add_eq_or_of_lt (by omega), Nat.testBit_or, Nat.mul_one, Nat.testBit_two_pow, Nat.testBit_two_pow_sub_one]
  by_cases h1 : i < b
  · have h2 : ¬ b + 1 ≤ i := by omega
    have h3 : ¬ b = i := by omega
    simp [h1, h2, h3]
  · simp only [h1, if_false]
    by_cases h2 : i = b
    · subst h2; simp
    · have h3 : b + 1 ≤ i := by omega
      have h4 : ¬ i < b - a - 1 := by omega
      have h5 : ¬ b = i := by omega
      simp [h2, h3, h4, h5, show i - (b + 1) = i - b - 1 by omega]

/-- what the program reckons -/
theorem raised_eq {a b A : Nat} (h : a < b) : shp a b A + 2 ^ a = 2 ^ (b + 1) * A + 2 ^ b := by
  unfold shp
  have hpab : 2 ^ a ≤ 2 ^ b := Nat.pow_le_pow_right (by decide) (by omega)
  omega
theorem left_eq {a b A : Nat} (h : a < b) : (shp a b A ^^^ (2 ^ (b + 1) * A + 2 ^ b)) / 2 ^ a / 4 = 2 ^ (b - a - 1) - 1 := by
  have e : shp a b A ^^^ (2 ^ (b + 1) * A + 2 ^ b) = 2 ^ a * (2 ^ (b + 1 - a) - 1) := by
    apply Nat.eq_of_testBit_eq
    intro i
    have hpb : 2 ^ (b + 1) = 2 ^ b + 2 ^ b := by rw [Nat.pow_succ]; omega
    have hp := Nat.two_pow_pos b
    rw [Nat.testBit_xor, shp_bit h, Nat.two_pow_add_eq_or_of_lt (by omega), Nat.testBit_or, Nat.testBit_two_pow_mul, Nat.testBit_two_pow, Nat.testBit_two_pow_mul, Nat.testBit_two_pow_sub_one]
    by_cases h1 : i < b
    · have h2 : ¬ b + 1 ≤ i := by omega
      have h3 : ¬ b = i := by omega
      have h4 : a ≤ i → i - a < b + 1 - a := by omega
      by_cases h5 : a ≤ i
      · have := h4 h5
        simp [h1, h2, h3, h5, this]
      · simp [h1, h2, h3, h5]
    · by_cases h2 : i = b
      · subst h2
        have h4 : a ≤ i := by omega
        have h5 : i - a < i + 1 - a := by omega
        simp [h4, h5]
      · have h3 : b + 1 ≤ i := by omega
        have h4 : ¬ i - a < b + 1 - a := by omega
        have h5 : ¬ b = i := by omega
        simp [h1, h2, h3, h4, h5, show i - (b + 1) = i - b - 1 by omega]
  rw [e, Nat.mul_div_cancel_left _ (Nat.two_pow_pos a)]
  obtain ⟨d, hd⟩ : ∃ d, b = a + d + 1 := ⟨b - a - 1, by omega⟩
  subst hd
  rw [show a + d + 1 + 1 - a = d + 2 by omega, show a + d + 1 - a - 1 = d by omega]
  have : 2 ^ (d + 2) = 4 * 2 ^ d := by rw [Nat.pow_add]; omega
  have := Nat.two_pow_pos d
  omega
theorem next_or {a b A : Nat} (h : a < b) : (2 ^ (b + 1) * A + 2 ^ b) ||| (2 ^ (b - a - 1) - 1) = nxt a b A := by
  apply Nat.eq_of_testBit_eq
  intro i
  have hpb : 2 ^ (b + 1) = 2 ^ b + 2 ^ b := by rw [Nat.pow_succ]; omega
  have hp := Nat.two_pow_pos b
  rw [nxt_bit h, Nat.testBit_or, Nat.two_pow_add_eq_or_of_lt (by omega), Nat.testBit_or, Nat.testBit_two_pow_mul, Nat.testBit_two_pow, Nat.testBit_two_pow_sub_one]
  by_cases h1 : i < b
  · have h2 : ¬ b + 1 ≤ i := by omega
    have h3 : ¬ b = i := by omega
    simp [h1, h2, h3]
  · by_cases h2 : i = b
    · subst h2; simp
    · have h3 : b + 1 ≤ i := by omega
      have h4 : ¬ i < b - a - 1 := by omega
      have h5 : ¬ b = i := by omega
      simp [h1, h2, h3, h4, h5, show i - (b + 1) = i - b - 1 by omega]
theorem nxt_gt {a b A : Nat} (h : a < b) : shp a b A < nxt a b A := by
  unfold shp nxt
  have := Nat.two_pow_pos a
  have := Nat.two_pow_pos b
  omega
/-- below which n they are -/
theorem nxt_lt {a b A n : Nat} (h : a < b) (hs : shp a b A < 2 ^ n) : (b < n → nxt a b A < 2 ^ n) ∧ (¬ b < n → b = n ∧ A = 0 ∧ ¬ nxt a b A < 2 ^ n) := by
  have hpb : 2 ^ (b + 1) = 2 ^ b + 2 ^ b := by rw [Nat.pow_succ]; omega
  have hle : 2 ^ (b - a - 1) ≤ 2 ^ b := Nat.pow_le_pow_right (by decide) (by omega)
  have hp := Nat.two_pow_pos (b - a - 1)
  constructor
  · intro hb
    obtain ⟨d, rfl⟩ : ∃ d, n = b + 1 + d := ⟨n - b - 1, by omega⟩
    unfold shp at hs
    have hA : A < 2 ^ d := by
      rw [Nat.pow_add 2 (b + 1) d] at hs
      exact Nat.lt_of_mul_lt_mul_left (a := 2 ^ (b + 1)) (by omega)
    have : 2 ^ (b + 1) * (A + 1) ≤ 2 ^ (b + 1) * 2 ^ d := Nat.mul_le_mul_left _ hA
    rw [← Nat.pow_add 2 (b + 1) d, Nat.mul_add, Nat.mul_one] at this
    unfold nxt
    omega
  · intro hb
    have hbn : b = n := by
      apply Classical.byContradiction
      intro hne
      have h1 : 2 ^ (n + 1) ≤ 2 ^ b := Nat.pow_le_pow_right (by decide) (by omega)
      have h2 : 2 ^ a ≤ 2 ^ (b - 1) := Nat.pow_le_pow_right (by decide) (by omega)
      have h3 : 2 ^ b = 2 ^ (b - 1) + 2 ^ (b - 1) := by
        obtain ⟨d, rfl⟩ : ∃ d, b = d + 1 := ⟨b - 1, by omega⟩
        rw [Nat.add_sub_cancel, Nat.pow_succ]; omega
      have h4 : 2 ^ (n + 1) = 2 ^ n + 2 ^ n := by rw [Nat.pow_succ]; omega
      unfold shp at hs
      omega
    subst hbn
    have hA : A = 0 := by
      apply Classical.byContradiction
      intro hA
      have : 2 ^ (b + 1) * 1 ≤ 2 ^ (b + 1) * A := Nat.mul_le_mul_left _ (by omega)
      unfold shp at hs
      omega
    refine ⟨rfl, hA, ?_⟩
    unfold nxt
    omega

/-! ### ranks -/
/-- a run of l from a on -/
theorem run_rk {s a : Nat} : ∀ l, (∀ i, i < a → s.testBit i = false) → (∀ i, a ≤ i → i < a + l → s.testBit i = true) → rk (a + l) s + 1 = ch (a + l) l ∧ num (a + l) s = l
  | 0, h0, _ => by
    have : memn a s = [] := by
      unfold memn
      rw [List.filter_eq_nil_iff]
      intro i hi
      rw [h0 i (List.mem_range.1 hi)]
      decide
    show rkL 0 (memn a s) + 1 = ch a 0 ∧ (memn a s).length = 0
    rw [this, ch_zero]
    exact ⟨rfl, rfl⟩
  | l + 1, h0, h1 => by
    obtain ⟨e1, e2⟩ := run_rk l h0 fun i a b => h1 i a (by omega)
    rw [← Nat.add_assoc, rk_succ, num_succ, h1 (a + l) (by omega) (by omega), e2]
    simp only [if_true, ch]
    exact ⟨by omega, trivial⟩
theorem low_rk {s : Nat} : ∀ n l, l ≤ n → (∀ i, i < n → s.testBit i = decide (i < l)) → rk n s = 0 ∧ num n s = l
  | 0, l, h, _ => by
    obtain rfl : l = 0 := by omega
    exact ⟨rfl, rfl⟩
  | n + 1, l, h, hb => by
    rw [rk_succ, num_succ, hb n (by omega)]
    by_cases e : l = n + 1
    · subst e
      obtain ⟨e1, e2⟩ := low_rk n n (Nat.le_refl _) fun i hi => by
        rw [hb i (by omega)]
        simp [hi, show i < n + 1 by omega]
      rw [e1, e2, ch_above (by omega)]
      simp
    · obtain ⟨e1, e2⟩ := low_rk n l (by omega) fun i hi => hb i (by omega)
      rw [e1, e2]
      have : ¬ n < l := by omega
      simp [this]
theorem same_up {s t : Nat} : ∀ n d, (∀ i, n ≤ i → s.testBit i = t.testBit i) → num n s = num n t → rk n t = rk n s + 1 → rk (n + d) t = rk (n + d) s + 1 ∧ num (n + d) s = num (n + d) t
  | n, 0, _, h1, h2 => ⟨h2, h1⟩
  | n, d + 1, h, h1, h2 => by
    obtain ⟨e1, e2⟩ := same_up n d h h1 h2
    rw [← Nat.add_assoc, rk_succ, rk_succ, num_succ, num_succ, e1, e2, h (n + d) (by omega)]
    exact ⟨by omega, rfl⟩
/-- **the next one has one more, and is of the same size** -/
theorem nxt_rk {a b A n : Nat} (h : a < b) (hn : b < n) : rk n (nxt a b A) = rk n (shp a b A) + 1 ∧ num n (nxt a b A) = num n (shp a b A) := by
  have h1 : rk b (shp a b A) + 1 = ch b (b - a) ∧ num b (shp a b A) = b - a := by
    have := run_rk (s := shp a b A) (a := a) (b - a) (fun i hi => by rw [shp_bit h, if_pos (by omega)]; simp; omega) (fun i h1 h2 => by rw [shp_bit h, if_pos (by omega)]; simp; omega)
    rwa [show a + (b - a) = b by omega] at this
  have h2 := low_rk (s := nxt a b A) b (b - a - 1) (by omega) (fun i hi => by rw [nxt_bit h, if_pos hi])
  have b1 : (shp a b A).testBit b = false := by rw [shp_bit h]; simp
  have b2 : (nxt a b A).testBit b = true := by rw [nxt_bit h]; simp
  have h3 := same_up (s := shp a b A) (t := nxt a b A) (b + 1) (n - (b + 1)) (fun i hi => by
    rw [shp_bit h, nxt_bit h, if_neg (by omega), if_neg (by omega), if_neg (by omega), if_neg (by omega)])
    (by rw [num_succ, num_succ, b1, b2, h1.2, h2.2]; simp; omega) (by
      rw [rk_succ, rk_succ, b1, b2, h2.1, h2.2]
      simp only [if_true]
      rw [show b - a - 1 + 1 = b - a by omega, ← h1.1]
      simp)
  rw [show b + 1 + (n - (b + 1)) = n by omega] at h3
  exact ⟨h3.1, h3.2.symm⟩
theorem top_rk {a b : Nat} (h : a < b) : rk b (shp a b 0) + 1 = ch b (num b (shp a b 0)) := by
  have := run_rk (s := shp a b 0) (a := a) (b - a) (fun i hi => by rw [shp_bit h, if_pos (by omega)]; simp; omega) (fun i h1 h2 => by rw [shp_bit h, if_pos (by omega)]; simp; omega)
  rw [show a + (b - a) = b by omega] at this
  rw [this.1, this.2]

/-- what Next answers, and whether there is one -/
def nextF (s n : Nat) : Option Nat :=
  if s = 0 then none else
    let a := Lib.ctz 64 s
    let r := (s + 2 ^ a) % 2 ^ 64
    if r = 0 then none else
      let x := r ||| ((s ^^^ r) / 2 ^ a / 4)
      if x / 2 ^ n = 0 then some x else none
theorem nextF_shape {s n : Nat} (h0 : s ≠ 0) (h : s < 2 ^ 64) : ∃ a b A, a = Lib.ctz 64 s ∧ a < b ∧ b ≤ 64 ∧ s = shp a b A ∧ (b = 64 → A = 0) ∧
    ((b = 64 ∧ nextF s n = none ∧ (s + 2 ^ a) % 2 ^ 64 = 0) ∨ (b < 64 ∧ (s + 2 ^ a) % 2 ^ 64 = 2 ^ (b + 1) * A + 2 ^ b ∧ (s + 2 ^ a) % 2 ^ 64 ≠ 0 ∧ nxt a b A < 2 ^ 64 ∧ nextF s n = if nxt a b A < 2 ^ n then some (nxt a b A) else none)) := by
  obtain ⟨a, b, A, ha, hab, hb, hs, hA⟩ := shape h0 h
  refine ⟨a, b, A, ha, hab, hb, hs, hA, ?_⟩
  have hr : s + 2 ^ a = 2 ^ (b + 1) * A + 2 ^ b := by rw [hs]; exact raised_eq hab
  by_cases h64 : b = 64
  · left
    obtain rfl := hA h64
    have e : (s + 2 ^ a) % 2 ^ 64 = 0 := by rw [hr, h64]
    refine ⟨h64, ?_, e⟩
    unfold nextF
    rw [if_neg h0]
    simp only [← ha]
    rw [if_pos e]
  · right
    have hlt : b < 64 := by omega
    have hnx := (nxt_lt hab (n := 64) (by rw [← hs]; exact h)).1 hlt
    have hr64 : 2 ^ (b + 1) * A + 2 ^ b < 2 ^ 64 := by unfold nxt at hnx; omega
    have e : (s + 2 ^ a) % 2 ^ 64 = 2 ^ (b + 1) * A + 2 ^ b := by rw [hr, Nat.mod_eq_of_lt hr64]
    have hp := Nat.two_pow_pos b
    refine ⟨hlt, e, by omega, hnx, ?_⟩
    unfold nextF
    rw [if_neg h0]
    simp only [← ha]
    rw [e, if_neg (by omega)]
    have e2 : (s ^^^ (2 ^ (b + 1) * A + 2 ^ b)) / 2 ^ a / 4 = 2 ^ (b - a - 1) - 1 := by rw [hs]; exact left_eq hab
    rw [e2, next_or hab]
    have : nxt a b A / 2 ^ n = 0 ↔ nxt a b A < 2 ^ n := Nat.div_eq_zero_iff_lt (Nat.two_pow_pos n)
    by_cases h1 : nxt a b A < 2 ^ n
    · rw [if_pos (this.2 h1), if_pos h1]
    · rw [if_neg (fun e => h1 (this.1 e)), if_neg h1]
/-- **the next one below n: one more in rank; or there is none, and s was the last** -/
theorem nextF_rk {s n : Nat} (hn : n ≤ 64) (h : s < 2 ^ n) :
    (∃ x, nextF s n = some x ∧ x < 2 ^ n ∧ s < x ∧ rk n x = rk n s + 1 ∧ num n x = num n s ∧ rk n s + 1 < ch n (num n s)) ∨ (nextF s n = none ∧ rk n s + 1 = ch n (num n s)) := by
  have h64 : s < 2 ^ 64 := Nat.lt_of_lt_of_le h (Nat.pow_le_pow_right (by decide) hn)
  by_cases h0 : s = 0
  · right
    subst h0
    refine ⟨by simp [nextF], ?_⟩
    have e : memn n 0 = [] := by simp [memn]
    unfold rk num
    rw [e, show ([] : List Nat).length = 0 from rfl, ch_zero]
    rfl
  · obtain ⟨a, b, A, ha, hab, hb, hs, hA, hN⟩ := nextF_shape (n := n) h0 h64
    have hl := nxt_lt hab (n := n) (by rw [← hs]; exact h)
    rcases hN with ⟨e64, hnone, _⟩ | ⟨hlt, _, _, hnx, hsome⟩
    · right
      refine ⟨hnone, ?_⟩
      obtain ⟨rfl, rfl, _⟩ := hl.2 (by omega)
      rw [hs]; exact top_rk hab
    · by_cases hbn : b < n
      · left
        refine ⟨nxt a b A, by rw [hsome, if_pos (hl.1 hbn)], hl.1 hbn, by rw [hs]; exact nxt_gt hab, ?_⟩
        obtain ⟨e1, e2⟩ := nxt_rk (A := A) hab hbn
        rw [← hs] at e1 e2
        refine ⟨e1, e2, ?_⟩
        rw [← e1, ← e2]
        exact rk_lt _ _
      · right
        obtain ⟨rfl, rfl, h3⟩ := hl.2 hbn
        refine ⟨by rw [hsome, if_neg h3], ?_⟩
        rw [hs]; exact top_rk hab
/-! ### runs -/
/-- where a run that is open at i began -/
def beg (s : Nat) : Nat → Nat
  | 0 => 0
  | i + 1 => if s.testBit i then beg s i else i + 1
/-- the runs that are over at i -/
def rns (s : Nat) : Nat → List (Nat × Nat)
  | 0 => []
  | i + 1 => rns s i ++ if s.testBit i && !s.testBit (i + 1) then [(beg s i, i + 1)] else []
/-- the first ones of runs -/
def fst1 (s i : Nat) : Bool := s.testBit i && (i == 0 || !s.testBit (i - 1))
def spans (l : List (Nat × Nat)) : Nat := (l.map fun p => p.2 - p.1).sum
theorem spans_snoc (l : List (Nat × Nat)) (p : Nat × Nat) : spans (l ++ [p]) = spans l + (p.2 - p.1) := by simp [spans]
structure RunAt (s : Nat) (p : Nat × Nat) : Prop where
  lt : p.1 < p.2
  all : ∀ j, p.1 ≤ j → j < p.2 → s.testBit j = true
  no : s.testBit p.2 = false
  fst : fst1 s p.1 = true
theorem beg_all (s : Nat) : ∀ i, beg s i ≤ i ∧ (∀ j, beg s i ≤ j → j < i → s.testBit j = true) ∧ (beg s i = 0 ∨ s.testBit (beg s i - 1) = false)
  | 0 => ⟨Nat.le_refl _, fun j _ h => absurd h (Nat.not_lt_zero _), .inl rfl⟩
  | i + 1 => by
    obtain ⟨h1, h2, h3⟩ := beg_all s i
    unfold beg
    by_cases h : s.testBit i
    · rw [if_pos h]
      refine ⟨by omega, fun j a b => ?_, h3⟩
      by_cases e : j = i
      · subst e; exact h
      · exact h2 j a (by omega)
    · rw [if_neg h]
      exact ⟨Nat.le_refl _, fun j a b => by omega, .inr (by simpa using h)⟩
structure RnsI (s i : Nat) : Prop where
  each : ∀ p ∈ rns s i, RunAt s p ∧ p.2 ≤ i
  rise : (rns s i).Pairwise fun p q => p.2 < q.1
  ahead : s.testBit i = true → ∀ p ∈ rns s i, p.2 < beg s i
  sumT : s.testBit i = true → spans (rns s i) + (i - beg s i) = num i s
  sumF : s.testBit i = false → spans (rns s i) = num i s
  whole : ∀ j, j < i → fst1 s j = true → j ∈ (rns s i).map (·.1) ∨ (s.testBit i = true ∧ beg s i = j)
theorem rns_all (s : Nat) : ∀ i, RnsI s i
  | 0 => ⟨by simp [rns], by simp [rns], by simp [rns], by simp [rns, spans, num, memn], by simp [rns, spans, num, memn], fun j h => absurd h (Nat.not_lt_zero _)⟩
  | i + 1 => by
    obtain ⟨h1, h2, h3, h4, h5, h6⟩ := rns_all s i
    obtain ⟨b1, b2, b3⟩ := beg_all s i
    have hw : ∀ j, j < i + 1 → fst1 s j = true → j ∈ (rns s i).map (·.1) ∨ (s.testBit i = true ∧ beg s i = j) := by
      intro j hj hf
      by_cases e : j = i
      · right
        subst e
        simp only [fst1, Bool.and_eq_true, Bool.or_eq_true, beq_iff_eq] at hf
        refine ⟨hf.1, ?_⟩
        cases j with
        | zero => rfl
        | succ k =>
          have : s.testBit k = false := by simpa using hf.2
          simp [beg, this]
      · exact h6 j (by omega) hf
    by_cases hb : s.testBit i = true
    · have hn : num (i + 1) s = num i s + 1 := by rw [num_succ, hb]; rfl
      have hbe : beg s (i + 1) = beg s i := by simp [beg, hb]
      have s4 := h4 hb
      by_cases hc : s.testBit (i + 1) = true
      · have hr : rns s (i + 1) = rns s i := by simp [rns, hb, hc]
        refine ⟨?_, ?_, ?_, ?_, ?_, ?_⟩
        · rw [hr]; exact fun p hp => ⟨(h1 p hp).1, by have := (h1 p hp).2; omega⟩
        · rw [hr]; exact h2
        · rw [hr, hbe]; exact fun _ => h3 hb
        · rw [hr, hbe, hn]; intro _; omega
        · intro h; rw [hc] at h; cases h
        · rw [hr, hbe]
          intro j hj hf
          rcases hw j hj hf with h | h
          · exact .inl h
          · exact .inr ⟨hc, h.2⟩
      · have hc : s.testBit (i + 1) = false := by simpa using hc
        have hr : rns s (i + 1) = rns s i ++ [(beg s i, i + 1)] := by simp [rns, hb, hc]
        have hra : RunAt s (beg s i, i + 1) := by
          have hall : ∀ j, beg s i ≤ j → j < i + 1 → s.testBit j = true := fun j a b => by
            by_cases e : j = i
            · subst e; exact hb
            · exact b2 j a (by omega)
          refine ⟨by show beg s i < i + 1; omega, hall, hc, ?_⟩
          simp only [fst1, Bool.and_eq_true, Bool.or_eq_true, beq_iff_eq]
          exact ⟨hall _ (Nat.le_refl _) (by omega), by rcases b3 with h | h <;> simp [h]⟩
        refine ⟨?_, ?_, ?_, ?_, ?_, ?_⟩
        · rw [hr]
          intro p hp
          rcases List.mem_append.1 hp with h | h
          · exact ⟨(h1 p h).1, by have := (h1 p h).2; omega⟩
          · obtain rfl := List.mem_singleton.1 h
            exact ⟨hra, Nat.le_refl _⟩
        · rw [hr, List.pairwise_append]
          refine ⟨h2, by simp, fun p hp q hq => ?_⟩
          obtain rfl := List.mem_singleton.1 hq
          exact h3 hb p hp
        · intro h; rw [hc] at h; cases h
        · intro h; rw [hc] at h; cases h
        · intro _
          rw [hr, spans_snoc, hn]
          show spans (rns s i) + (i + 1 - beg s i) = _
          omega
        · rw [hr]
          intro j hj hf
          left
          rw [List.map_append]
          rcases hw j hj hf with h | h
          · exact List.mem_append_left _ h
          · exact List.mem_append_right _ (by simp [h.2])
    · have hb : s.testBit i = false := by simpa using hb
      have hr : rns s (i + 1) = rns s i := by simp [rns, hb]
      have hn : num (i + 1) s = num i s := by rw [num_succ, hb]; rfl
      have hbe : beg s (i + 1) = i + 1 := by simp [beg, hb]
      refine ⟨?_, ?_, ?_, ?_, ?_, ?_⟩
      · rw [hr]; exact fun p hp => ⟨(h1 p hp).1, by have := (h1 p hp).2; omega⟩
      · rw [hr]; exact h2
      · rw [hr, hbe]; exact fun _ p hp => by have := (h1 p hp).2; omega
      · rw [hr, hbe, hn]; intro _; have := h5 hb; omega
      · rw [hr, hn]; intro _; exact h5 hb
      · rw [hr]
        intro j hj hf
        rcases hw j hj hf with h | h
        · exact .inl h
        · rw [hb] at h; cases h.1
theorem run_once {s f t u : Nat} (h : RunAt s (f, t)) (k : RunAt s (f, u)) : t = u := by
  have a := h.lt; have b := k.lt; have c := h.all; have d := k.all; have e := h.no; have g := k.no
  dsimp only at a b c d e g
  rcases Nat.lt_trichotomy t u with hl | hl | hl
  · have := d t (by omega) hl
    rw [e] at this; cases this
  · exact hl
  · have := c u (by omega) hl
    rw [g] at this; cases this
theorem runs_once {s : Nat} : ∀ {l m : List (Nat × Nat)}, (∀ p ∈ l, RunAt s p) → (∀ p ∈ m, RunAt s p) → l.map (·.1) = m.map (·.1) → l = m
  | [], [], _, _, _ => rfl
  | [], _ :: _, _, _, h => by simp at h
  | _ :: _, [], _, _, h => by simp at h
  | (f, t) :: l, (g, u) :: m, hl, hm, h => by
    simp only [List.map_cons, List.cons.injEq] at h
    obtain ⟨rfl, h⟩ := h
    have e1 : t = u := run_once (hl (f, t) (by simp)) (hm (f, u) (by simp))
    have e2 : l = m := runs_once (fun p hp => hl p (by simp [hp])) (fun p hp => hm p (by simp [hp])) h
    rw [e1, e2]
/-- all runs of a set -/
def runsF (s : Nat) : List (Nat × Nat) := rns s 64
theorem runsF_fst {s x : Nat} (hs : s < 2 ^ 64) (hx : ∀ i, i < 64 → x.testBit i = fst1 s i) : (runsF s).map (·.1) = mem x := by
  have h := rns_all s 64
  refine sorted_ext ?_ (mem_sorted _) fun i => ?_
  · rw [List.pairwise_map]
    exact List.Pairwise.imp_of_mem (fun {p q} hp hq hpq => by have := (h.each p hp).1.lt; omega) h.rise
  · rw [mem_mem]
    constructor
    · intro hi
      obtain ⟨p, hp, rfl⟩ := List.mem_map.1 hi
      have := h.each p hp
      have hlt : p.1 < 64 := by have := this.1.lt; omega
      exact ⟨hlt, by rw [hx _ hlt]; exact this.1.fst⟩
    · rintro ⟨hi, hb⟩
      rw [hx i hi] at hb
      rcases h.whole i hi hb with h | h
      · exact h
      · rw [high_zero hs (Nat.le_refl _)] at h; cases h.1
theorem runsF_sum {s : Nat} (hs : s < 2 ^ 64) : spans (runsF s) = pc s := (rns_all s 64).sumF (high_zero hs (Nat.le_refl _))
theorem runsF_at {s : Nat} {p : Nat × Nat} (hp : p ∈ runsF s) : RunAt s p ∧ p.2 ≤ 64 := (rns_all s 64).each p hp
theorem runsF_rise (s : Nat) : (runsF s).Pairwise fun p q => p.2 < q.1 := (rns_all s 64).rise
/-- the first ones, as the program tells them -/
theorem first_bit {s : Nat} (i : Nat) (hi : i < 64) : (s &&& (18446744073709551615 - s * 2 % 18446744073709551616)).testBit i = fst1 s i := by
  have e : 18446744073709551615 - s * 2 % 18446744073709551616 = 2 ^ 64 - (s * 2 % 18446744073709551616 + 1) := by omega
  have e2 : s * 2 % 18446744073709551616 = (s * 2 ^ 1) % 2 ^ 64 := by omega
  rw [e, Nat.testBit_and, Nat.testBit_two_pow_sub_succ (Nat.mod_lt _ (by decide)), e2, Nat.testBit_mod_two_pow, Nat.testBit_mul_two_pow]
  cases i with
  | zero => simp [fst1]
  | succ k =>
    simp [fst1, hi]
end Go.Proofs.Ytklkndnikcjbhaa
