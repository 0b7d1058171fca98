/-
  What the bound on what comes in says of tokens' texts.
-/
import Derived.Test.YtohmenghlboalaaDoorRows
import Derived.Test.YtohmenghlboalaaDoorLxO
import Derived.Test.YtohmenghlboalaaDoorLxQ
namespace Go.Proofs.YtohmenghlboalaaDoor
open Go.RowKit Go.Deep Go.ChangeShapes Go.WideShapes
set_option linter.unusedVariables false

section
variable {H : Type}
theorem bulk_in {d : DataW H} {l : List (DataW H)} (h : d ∈ l) : Rows.uptoBulk d ≤ Rows.uptoBulkAll l := by
  induction l with
  | nil => cases h
  | cons x r ih =>
    simp only [Rows.uptoBulkAll]
    cases List.mem_cons.1 h with
    | inl e => subst e; omega
    | inr e => have := ih e; omega
theorem bulk_app (l r : List (DataW H)) : Rows.uptoBulkAll (l ++ r) = Rows.uptoBulkAll l + Rows.uptoBulkAll r := by
  induction l with
  | nil => simp [Rows.uptoBulkAll]
  | cons x l ih => simp only [List.cons_append, Rows.uptoBulkAll, ih]; omega
theorem bulk_str (b : List UInt8) : Rows.uptoBulk (DataW.lit (H := H) (.string b)) = b.length + 1 := by simp [Rows.uptoBulk]
theorem toks_bulk {L : List Tv} {D : Nat → DataW H} (h : ∀ i, i < L.length → ∃ parts, D i = .agg parts ∧ DataW.lit (.string (L.getD i default).t) ∈ parts) :
    ∀ k, k ≤ L.length → (putV (L.take k)).length ≤ Rows.uptoBulkAll ((List.range k).map D)
  | 0, _ => Nat.zero_le _
  | k + 1, hk => by
    have h1 := toks_bulk h k (by omega)
    obtain ⟨parts, e, hm⟩ := h k (by omega)
    have h2 := bulk_in hm
    rw [bulk_str] at h2
    rw [putV_next (by omega), List.range_succ, List.map_append, bulk_app]
    simp only [List.length_append, List.length_cons, List.length_nil, List.map_cons, List.map_nil, Rows.uptoBulkAll, e, Rows.uptoBulk]
    omega
theorem toks_small {L : List Tv} {d : DataW H} {l : List (DataW H)} (hd : d ∈ l) (hk : Rows.uptoSmall H l = true)
    (h : L = [] ∨ ∃ (D : Nat → DataW H) (rest : List (DataW H)), d = .slice ((List.range L.length).map D) rest ∧ ∀ i, i < L.length → ∃ parts, D i = .agg parts ∧ DataW.lit (.string (L.getD i default).t) ∈ parts) :
    (putV L).length ≤ 1048576 := by
  have hb : Rows.uptoBulkAll l ≤ 1048576 := of_decide_eq_true hk
  have h1 := bulk_in hd
  rcases h with rfl | ⟨D, rest, rfl, hD⟩
  · exact Nat.zero_le _
  · have h2 := toks_bulk hD L.length (Nat.le_refl _)
    rw [List.take_length] at h2
    simp only [Rows.uptoBulk] at h1
    omega
end
end Go.Proofs.YtohmenghlboalaaDoor
