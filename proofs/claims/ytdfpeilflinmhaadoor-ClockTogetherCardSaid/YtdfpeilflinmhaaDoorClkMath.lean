/-
  Averages without the extremes: of numbers that differ by little they differ by as little.
-/
import Derived.Test.YtdfpeilflinmhaaDoorProg
namespace Go.Proofs.YtdfpeilflinmhaaDoor
set_option linter.unusedVariables false

/-- some numbers, in order -/
def isort (l : List Int) : List Int := l.mergeSort fun x y => decide (x ≤ y)
theorem isort_perm (l : List Int) : (isort l).Perm l := List.mergeSort_perm l _
theorem isort_len (l : List Int) : (isort l).length = l.length := (isort_perm l).length_eq
theorem isort_pw (l : List Int) : (isort l).Pairwise (· ≤ ·) := by
  have h := List.pairwise_mergeSort (le := fun x y : Int => decide (x ≤ y)) (fun a b c h1 h2 => by simp only [decide_eq_true_eq] at *; omega) (fun a b => by simp only [Bool.or_eq_true, decide_eq_true_eq]; omega) l
  exact h.imp fun h => of_decide_eq_true h
theorem isort_mem {l : List Int} {x : Int} : x ∈ isort l ↔ x ∈ l := (isort_perm l).mem_iff

theorem pw_le {s : List Int} (h : s.Pairwise (· ≤ ·)) {i j : Nat} (hij : i ≤ j) (hj : j < s.length) : s.getD i 0 ≤ s.getD j 0 := by
  simp only [List.getD_eq_getElem?_getD, List.getElem?_eq_getElem hj, List.getElem?_eq_getElem (show i < s.length by omega), Option.getD_some]
  rcases Nat.lt_or_eq_of_le hij with h1 | rfl
  · exact List.pairwise_iff_getElem.1 h i j _ hj h1
  · exact Int.le_refl _

theorem count_low {s : List Int} (h : s.Pairwise (· ≤ ·)) {k : Nat} (hk : k < s.length) : k + 1 ≤ s.countP (fun y => decide (y ≤ s.getD k 0)) := by
  have e : s.countP (fun y => decide (y ≤ s.getD k 0)) = (s.take (k + 1)).countP (fun y => decide (y ≤ s.getD k 0)) + (s.drop (k + 1)).countP (fun y => decide (y ≤ s.getD k 0)) := by
    rw [← List.countP_append, List.take_append_drop]
  have h1 : (s.take (k + 1)).countP (fun y => decide (y ≤ s.getD k 0)) = (s.take (k + 1)).length := by
    rw [List.countP_eq_length]
    intro a ha
    obtain ⟨i, hi, rfl⟩ := List.mem_iff_getElem.1 ha
    simp only [List.length_take] at hi
    simp only [decide_eq_true_eq, List.getElem_take]
    have := pw_le h (show i ≤ k by omega) hk
    rwa [List.getD_eq_getElem?_getD, List.getElem?_eq_getElem (show i < s.length by omega)] at this
  rw [e, h1, List.length_take]
  omega
theorem count_high {s : List Int} (h : s.Pairwise (· ≤ ·)) {k : Nat} (hk : k < s.length) {x : Int} (hx : x < s.getD k 0) : s.countP (fun y => decide (y ≤ x)) ≤ k := by
  have e : s.countP (fun y => decide (y ≤ x)) = (s.take k).countP (fun y => decide (y ≤ x)) + (s.drop k).countP (fun y => decide (y ≤ x)) := by
    rw [← List.countP_append, List.take_append_drop]
  have h1 : (s.drop k).countP (fun y => decide (y ≤ x)) = 0 := by
    rw [List.countP_eq_zero]
    intro a ha
    obtain ⟨i, hi, rfl⟩ := List.mem_iff_getElem.1 ha
    simp only [List.length_drop] at hi
    simp only [decide_eq_true_eq, List.getElem_drop]
    have := pw_le h (show k ≤ k + i by omega) (by omega)
    rw [List.getD_eq_getElem?_getD (i := k + i), List.getElem?_eq_getElem (show k + i < s.length by omega)] at this
    simp only [Option.getD_some] at this
    omega
  have h2 := List.countP_le_length (p := fun y => decide (y ≤ x)) (l := s.take k)
  rw [List.length_take] at h2
  omega

/-- in order, the k-th of numbers that are greater by d at most is greater by d at most -/
theorem sorted_near {α : Type} (f g : α → Int) (d : Int) (ns : List α) (h : ∀ n ∈ ns, f n ≤ g n + d) {k : Nat} (hk : k < ns.length) : (isort (ns.map f)).getD k 0 ≤ (isort (ns.map g)).getD k 0 + d := by
  rcases Int.lt_or_le ((isort (ns.map g)).getD k 0 + d) ((isort (ns.map f)).getD k 0) with hlt | hle
  · exfalso
    have h1 := count_high (isort_pw (ns.map f)) (by rw [isort_len, List.length_map]; exact hk) hlt
    have h2 := count_low (isort_pw (ns.map g)) (k := k) (by rw [isort_len, List.length_map]; exact hk)
    rw [(isort_perm _).countP_eq, List.countP_map] at h1 h2
    have h3 := List.countP_mono_left (l := ns) (p := (fun y => decide (y ≤ (isort (ns.map g)).getD k 0)) ∘ g) (q := (fun y => decide (y ≤ (isort (ns.map g)).getD k 0 + d)) ∘ f) (by
      intro n hn hp
      simp only [Function.comp, decide_eq_true_eq] at hp ⊢
      have := h n hn
      omega)
    omega
  · exact hle

/-- the first and the last one that are left, halved -/
def mid (s : List Int) : Int := if 3 ≤ s.length then (s.getD 1 0 + s.getD (s.length - 2) 0) / 2 else (s.getD 0 0 + s.getD (s.length - 1) 0) / 2
/-- the average of some -/
def avg (l : List Int) : Int := if l.length = 0 then 0 else mid (isort l)
theorem avg_near {α : Type} (f g : α → Int) (d : Int) (ns : List α) (h : ∀ n ∈ ns, f n ≤ g n + d) (h0 : ns ≠ []) : avg (ns.map f) ≤ avg (ns.map g) + d := by
  have hl : 0 < ns.length := List.length_pos_iff.2 h0
  unfold avg mid
  simp only [List.length_map, isort_len]
  rw [if_neg (by omega)]
  split
  · have h1 := sorted_near f g d ns h (k := 1) (by omega)
    have h2 := sorted_near f g d ns h (k := ns.length - 2) (by omega)
    omega
  · have h1 := sorted_near f g d ns h (k := 0) (by omega)
    have h2 := sorted_near f g d ns h (k := ns.length - 1) (by omega)
    omega
/-- an average lies among them -/
theorem avg_within {l : List Int} {a b : Int} (h : ∀ x ∈ l, a ≤ x ∧ x ≤ b) (h0 : l ≠ []) : a ≤ avg l ∧ avg l ≤ b := by
  have hl : 0 < l.length := List.length_pos_iff.2 h0
  have hk : ∀ k, k < l.length → a ≤ (isort l).getD k 0 ∧ (isort l).getD k 0 ≤ b := by
    intro k hk
    have hk' : k < (isort l).length := by rw [isort_len]; exact hk
    rw [List.getD_eq_getElem?_getD, List.getElem?_eq_getElem hk']
    exact h _ (isort_mem.1 (List.getElem_mem hk'))
  unfold avg mid
  rw [if_neg (by omega), isort_len]
  split
  · have h1 := hk 1 (by omega)
    have h2 := hk (l.length - 2) (by omega)
    omega
  · have h1 := hk 0 (by omega)
    have h2 := hk (l.length - 1) (by omega)
    omega

/-- a number to another one -/
def cutF (x lo hi : Int) : Int := if hi < (if x < lo then lo else x) then hi else (if x < lo then lo else x)
theorem cutF_in {x lo hi : Int} (h1 : lo ≤ x) (h2 : x ≤ hi) : cutF x lo hi = x := by unfold cutF; split <;> split <;> omega
theorem cutF_range (x : Int) {lo hi : Int} (h : lo ≤ hi) : lo ≤ cutF x lo hi ∧ cutF x lo hi ≤ hi := by unfold cutF; split <;> split <;> omega
theorem cutF_near {x y d : Int} (lo hi : Int) (h0 : lo ≤ hi) (h : x ≤ y + d) (hd : 0 ≤ d) : cutF x lo hi ≤ cutF y lo hi + d := by
  unfold cutF
  repeat' split
  all_goals omega
end Go.Proofs.YtdfpeilflinmhaaDoor
