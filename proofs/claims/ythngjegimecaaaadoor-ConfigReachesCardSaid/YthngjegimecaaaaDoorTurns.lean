/-
  Of a configuration that may be, each node has one slot of a round, and the same one of each round.
-/
import Derived.Test.YthngjegimecaaaaDoorChkA
import Derived.Deep.QuietTactic
import Derived.BigQuiet
namespace Go.Proofs.YthngjegimecaaaaDoor
open Go.RowKit Go.Deep
set_option linter.unusedVariables false
set_option linter.unusedSimpArgs false

theorem ixF_at' : ∀ {l : List Int} {n : Int} {k : Nat}, ixF l n = (k : Int) → k < l.length ∧ l.getD k 0 = n
  | [], n, k, h => by simp [ixF] at h
  | x :: l, n, k, h => by
    simp only [ixF] at h
    split at h
    · rename_i e
      obtain rfl : k = 0 := by omega
      exact ⟨by simp, by simpa using e⟩
    · split at h
      · omega
      · obtain ⟨m, hm⟩ := Int.eq_ofNat_of_zero_le (show 0 ≤ ixF l n by omega)
        obtain ⟨h1, h2⟩ := ixF_at' hm
        obtain rfl : k = m + 1 := by omega
        exact ⟨by simp; omega, by simpa using h2⟩

theorem all_once : ∀ (n : Nat) (l : List Int), (∀ k : Nat, k < n → (k : Int) ∈ l) → n ≤ l.length ∧ (n = l.length → l.Nodup ∧ ∀ x ∈ l, 0 ≤ x ∧ x < n)
  | 0, l, h => ⟨Nat.zero_le _, fun e => by
    have : l = [] := List.length_eq_zero_iff.1 e.symm
    subst this; simp⟩
  | n + 1, l, h => by
    have hm := h n (Nat.lt_succ_self n)
    have hp := List.perm_cons_erase hm
    have hl : (l.erase (n : Int)).length + 1 = l.length := by have := hp.length_eq; simp at this; omega
    obtain ⟨a, b⟩ := all_once n (l.erase (n : Int)) (fun k hk => (List.mem_erase_of_ne (by omega)).2 (h k (by omega)))
    refine ⟨by omega, fun e => ?_⟩
    obtain ⟨b1, b2⟩ := b (by omega)
    refine ⟨hp.nodup_iff.2 (List.nodup_cons.2 ⟨fun hx => ?_, b1⟩), fun x hx => ?_⟩
    · have := b2 _ hx; omega
    · rcases List.mem_cons.1 (hp.mem_iff.1 hx) with rfl | hx
      · omega
      · have := b2 _ hx; omega

theorem turn_math (l : List Int) (N : Nat) (hN : l.length = N) (h : ∀ k : Nat, k < N → (k : Int) ∈ l) (n : Nat) (hn : n < N) :
    ∃ at_ : Nat, ixF l n = (at_ : Int) ∧ at_ < N ∧ ∀ i, i < N → (l.getD i 0 = (n : Int) ↔ i = at_) := by
  obtain ⟨_, h2⟩ := all_once N l h
  obtain ⟨hd, _⟩ := h2 hN.symm
  have hm := h n hn
  have h0 : 0 ≤ ixF l n := (ixF_mem l n).1 hm
  obtain ⟨a, ha⟩ := Int.eq_ofNat_of_zero_le h0
  obtain ⟨a1, a2⟩ := ixF_at' ha
  refine ⟨a, ha, by omega, fun i hi => ⟨fun e => ?_, fun e => by rw [e]; exact a2⟩⟩
  have hi' : i < l.length := by omega
  rw [List.getD_eq_getElem?_getD, List.getElem?_eq_getElem hi'] at e
  rw [List.getD_eq_getElem?_getD, List.getElem?_eq_getElem a1] at a2
  simp only [Option.getD_some] at e a2
  have hp := List.pairwise_iff_getElem.1 hd
  rcases Nat.lt_trichotomy i a with g | g | g
  · exact absurd (e.trans a2.symm) (hp i a hi' a1 g)
  · exact g
  · exact absurd (a2.trans e.symm) (hp a i a1 hi' g)

/-- whose a slot is -/
def ownF (c : Conf) (slot : Int) : Int := if slot < 0 ∨ c.nodes < 1 ∨ (c.owners.length : Int) ≠ c.nodes then -1 else c.owners.getD (slot % c.nodes).toNat 0

end Go.Proofs.YthngjegimecaaaaDoor
