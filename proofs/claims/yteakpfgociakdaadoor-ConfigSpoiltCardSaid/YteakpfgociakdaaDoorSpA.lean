/-
  A configuration that may be, with one number turned: what Check says of it.
-/
import Derived.Test.YteakpfgociakdaaDoorTwD
import Derived.Test.YteakpfgociakdaaDoorChkP
import Derived.Test.YteakpfgociakdaaDoorGreat
namespace Go.Proofs.YteakpfgociakdaaDoor
open Go.RowKit Go.Deep
set_option linter.unusedVariables false
set_option linter.unusedSimpArgs false

theorem check_zero {c : Conf} (h : checkF c = 0) : NodesK c ∧ ClockK c = true ∧ PartsK c ∧ WindowsK c ∧ PortsK c ∧ LinksK c := by
  unfold checkF checkW at h
  split at h
  · cases h
  rename_i h1
  split at h
  · cases h
  rename_i h2
  split at h
  · cases h
  rename_i h3
  split at h
  · cases h
  rename_i h4
  split at h
  · cases h
  rename_i h5
  split at h
  · cases h
  rename_i h6
  exact ⟨Decidable.not_not.1 h1, by simpa using h2, Decidable.not_not.1 h3, Decidable.not_not.1 h4, Decidable.not_not.1 h5, Decidable.not_not.1 h6⟩

theorem check_from (c : Conf) : checkF c = 0 ∨ (21 ≤ checkF c ∧ checkF c ≤ 26) := by
  unfold checkF checkW
  repeat' split
  all_goals omega
theorem check_from2 {c : Conf} (h : NodesK c) : checkF c = 0 ∨ (22 ≤ checkF c ∧ checkF c ≤ 26) := by
  unfold checkF checkW
  rw [if_neg (fun n => n h)]
  repeat' split
  all_goals omega
theorem check_from3 {c : Conf} (h : NodesK c) (h2 : ClockK c = true) : checkF c = 0 ∨ (23 ≤ checkF c ∧ checkF c ≤ 26) := by
  unfold checkF checkW
  rw [if_neg (fun n => n h), if_neg (by rw [h2]; simp)]
  repeat' split
  all_goals omega
theorem check_from4 {c : Conf} (h : NodesK c) (h2 : ClockK c = true) (h3 : PartsK c) : checkF c = 0 ∨ (24 ≤ checkF c ∧ checkF c ≤ 26) := by
  unfold checkF checkW
  rw [if_neg (fun n => n h), if_neg (by rw [h2]; simp), if_neg (fun n => n h3)]
  repeat' split
  all_goals omega
theorem check_from5 {c : Conf} (h : NodesK c) (h2 : ClockK c = true) (h3 : PartsK c) (h4 : WindowsK c) : checkF c = 0 ∨ (25 ≤ checkF c ∧ checkF c ≤ 26) := by
  unfold checkF checkW
  rw [if_neg (fun n => n h), if_neg (by rw [h2]; simp), if_neg (fun n => n h3), if_neg (fun n => n h4)]
  repeat' split
  all_goals omega
theorem check_from6 {c : Conf} (h : NodesK c) (h2 : ClockK c = true) (h3 : PartsK c) (h4 : WindowsK c) (h5 : PortsK c) : checkF c = 0 ∨ (26 ≤ checkF c ∧ checkF c ≤ 26) := by
  unfold checkF checkW
  rw [if_neg (fun n => n h), if_neg (by rw [h2]; simp), if_neg (fun n => n h3), if_neg (fun n => n h4), if_neg (fun n => n h5)]
  repeat' split
  all_goals omega
theorem check_clock {c : Conf} (h : NodesK c) : checkF c = 22 ↔ ClockK c = false := by
  constructor
  · intro e
    by_cases h2 : ClockK c = false
    · exact h2
    · have := check_from3 h (by simpa using h2)
      omega
  · intro e
    unfold checkF checkW
    rw [if_neg (fun n => n h), if_pos e]

theorem stand_count : ∀ (l : List Int) (L : List Bool), (standF L l).isSome = true → (∀ z ∈ l, z.toNat < L.length) → l.length ≤ L.count false
  | [], L, _, _ => Nat.zero_le _
  | z :: l, L, h, hz => by
    simp only [standF] at h
    split at h
    · cases h
    rename_i hn
    have hlt := hz z (List.mem_cons_self ..)
    have hf : L[z.toNat] = false := by
      have : L.getD z.toNat false = L[z.toNat] := by rw [List.getD_eq_getElem?_getD, List.getElem?_eq_getElem hlt]; rfl
      rw [this] at hn
      simpa using hn
    have ih := stand_count l (L.set z.toNat true) h (fun y hy => by rw [List.length_set]; exact hz y (List.mem_cons_of_mem _ hy))
    rw [List.count_set hlt, hf] at ih
    have hp : 0 < L.count false := List.count_pos_iff.2 (hf ▸ List.getElem_mem hlt)
    simp at ih
    rw [List.length_cons]
    omega
theorem names_len (l : List Lk) (k : Nat) (h : k < l.length) : (l.getD k default).dests.length ≤ (namesOf l).length := by
  induction l generalizing k with
  | nil => simp at h
  | cons x l ih =>
    unfold namesOf at ih ⊢
    rw [List.flatMap_cons, List.length_append]
    cases k with
    | zero => simp; omega
    | succ k =>
      have := ih k (by simpa using h)
      simp only [List.getD_cons_succ]
      omega

theorem small_of {c : Conf} (h : checkF c = 0) : Small c := by
  obtain ⟨h1, h2, h3, h4, h5, h6⟩ := check_zero h
  obtain ⟨a1, a2, a3, _⟩ := h1
  obtain ⟨d1, d2⟩ := h4
  obtain ⟨e1, e2⟩ := h5
  obtain ⟨f1, f2, f3, f4⟩ := h6
  refine ⟨by omega, by have := h3.1; omega, by omega, by omega, by omega, fun k hk => ?_, fun k hk => ?_⟩
  · have := (d2 k hk).1
    omega
  · have hn := names_len c.links k hk
    have hs := stand_count (namesOf c.links) (List.replicate c.ports.length false) f3 (fun z hz => by
      rw [List.length_replicate]
      unfold namesOf at hz
      obtain ⟨x, hx, hz⟩ := List.mem_flatMap.1 hz
      obtain ⟨j, hj, rfl⟩ := List.getElem_of_mem hx
      have hl := f2 j hj
      rw [List.getD_eq_getElem?_getD, List.getElem?_eq_getElem hj] at hl
      simp only [Option.getD_some] at hl
      obtain ⟨g1, _, _, g4, _⟩ := hl
      rcases List.mem_cons.1 hz with rfl | hz
      · simp only [ofB, Bool.and_eq_true, decide_eq_true_eq] at g1; omega
      · obtain ⟨i, hi, rfl⟩ := List.getElem_of_mem hz
        have := (g4 i hi).1
        rw [List.getD_eq_getElem?_getD, List.getElem?_eq_getElem hi] at this
        simp only [Option.getD_some, ofB, Bool.and_eq_true, decide_eq_true_eq] at this
        omega)
    rw [List.count_replicate] at hs
    simp at hs
    omega
end Go.Proofs.YteakpfgociakdaaDoor
