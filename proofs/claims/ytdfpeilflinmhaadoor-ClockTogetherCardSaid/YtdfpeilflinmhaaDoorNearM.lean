/-
  Whose readings are heard; averages of what two clocks hear.
-/
import Derived.Test.YtdfpeilflinmhaaDoorClkX
namespace Go.Proofs.YtdfpeilflinmhaaDoor
open Go.RowKit Go.Deep
set_option linter.unusedVariables false
set_option linter.unusedSimpArgs false

theorem fm_filter {α β : Type} (p : α → Bool) (f : α → Option β) (g : α → β) : ∀ l : List α, (∀ n ∈ l, f n = if p n then some (g n) else none) → l.filterMap f = (l.filter p).map g
  | [], _ => rfl
  | x :: l, h => by
    have ih := fm_filter p f g l fun n hn => h n (List.mem_cons_of_mem _ hn)
    have h1 := h x List.mem_cons_self
    cases hp : p x with
    | true => rw [hp, if_pos rfl] at h1; rw [List.filterMap_cons, h1, List.filter_cons, hp]; simp [ih]
    | false => rw [hp, if_neg (by decide)] at h1; rw [List.filterMap_cons, h1, List.filter_cons, hp]; simp [ih]

/-- whose readings count -/
def idxF (N : Nat) (mb : Int) : List Nat := (List.range N).filter (isM mb)
theorem reads_heard {k : Ck} {N : Nat} (hN : k.nodes = N) (mb own : Int) (V : Nat → Int) (h : ∀ n, n < N → k.rd.getD n default = (V n, true)) :
    readsF k mb own = (idxF N mb).map (fun n : Nat => if (n : Int) = own then 0 else V n) := by
  unfold readsF idxF
  rw [hN]
  refine fm_filter _ _ _ _ fun n hn => ?_
  have hn : n < N := by simpa using hn
  unfold valF
  rw [h n hn]
  cases isM mb n <;> simp <;> split <;> rfl
theorem bit_of : ∀ (N m : Nat), m < 2 ^ N → m ≠ 0 → ∃ n, n < N ∧ m / 2 ^ n % 2 = 1
  | 0, m, h, h0 => by omega
  | N + 1, m, h, h0 => by
    by_cases h1 : m % 2 = 1
    · exact ⟨0, by omega, by simpa using h1⟩
    · obtain ⟨n, hn, h2⟩ := bit_of N (m / 2) (by rw [Nat.pow_succ] at h; omega) (by omega)
      refine ⟨n + 1, by omega, ?_⟩
      rw [Nat.pow_succ, Nat.mul_comm, ← Nat.div_div_eq_div_mul]
      exact h2
theorem idx_some {N m : Nat} (h : m < 2 ^ N) (h0 : m ≠ 0) : idxF N (m : Int) ≠ [] := by
  obtain ⟨n, hn, h1⟩ := bit_of N m h h0
  intro e
  have hm : n ∈ idxF N (m : Int) := by
    unfold idxF
    rw [List.mem_filter]
    refine ⟨by simpa using hn, ?_⟩
    unfold isM
    rw [decide_eq_true_eq]
    have e2 : ((m : Int) / (2 : Int) ^ n) = ((m / 2 ^ n : Nat) : Int) := by rw [Int.natCast_ediv]; congr 1
    rw [e2]
    omega
  rw [e] at hm
  cases hm

/-- what i hears of n, whose clock is X n: with an error of at most R; its own reading is 0 -/
def heardF (X : Nat → Int) (er : Nat → Nat → Int) (i n : Nat) : Int := if n = i then 0 else X n - X i + er i n
theorem near_avg (X : Nat → Int) (er : Nat → Nat → Int) (R : Int) (hR : 0 ≤ R) (he : ∀ i n, -R ≤ er i n ∧ er i n ≤ R) (ns : List Nat) (h0 : ns ≠ []) (i j : Nat) :
    X i + avg (ns.map (heardF X er i)) ≤ X j + avg (ns.map (heardF X er j)) + 2 * R := by
  have := avg_near (heardF X er i) (heardF X er j) (X j - X i + 2 * R) ns (fun n _ => by
    have h1 := he i n; have h2 := he j n
    unfold heardF
    by_cases h3 : n = i
    · subst h3
      rw [if_pos rfl]
      by_cases h4 : n = j
      · subst h4
        rw [if_pos rfl]
        omega
      · rw [if_neg h4]
        omega
    · rw [if_neg h3]
      by_cases h4 : n = j
      · subst h4
        rw [if_pos rfl]
        omega
      · rw [if_neg h4]
        omega) h0
  omega

theorem or_step : ∀ k : Nat, k < 16 → bits .or .u16 ((2 : Int) ^ k - 1) (IntKind.u16.wrap ((2 : Int) ^ k)) = (2 : Int) ^ (k + 1) - 1 := by decide +kernel
theorem and_low {mb : Int} (h : 0 ≤ mb ∧ mb < 65536) {N : Nat} (hN : N ≤ 16) : ∃ m : Nat, m < 2 ^ N ∧ m < 65536 ∧ bits .and .u16 mb ((2 : Int) ^ N - 1) = (m : Int) := by
  obtain ⟨b, rfl⟩ := Int.eq_ofNat_of_zero_le h.1
  have h2 : 2 ^ N ≤ 2 ^ 16 := Nat.pow_le_pow_right (by omega) hN
  have h0 : 0 < 2 ^ N := Nat.two_pow_pos N
  have hl : b % 2 ^ N < 2 ^ N := Nat.mod_lt _ h0
  refine ⟨b % 2 ^ N, hl, by omega, ?_⟩
  have e : ((2 : Int) ^ N - 1) = ((2 ^ N - 1 : Nat) : Int) := by
    rw [Int.natCast_sub (by omega)]
    simp
  rw [e, u16_and_nat _ _ (by omega) (by omega), Nat.and_two_pow_sub_one_eq_mod]
end Go.Proofs.YtdfpeilflinmhaaDoor
