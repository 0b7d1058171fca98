/-
  What the operations of do's two regions with two calls have made.
-/
import Derived.Test.YtdimllmbalponaaPlC
namespace Go.Proofs.Ytdimllmbalponaa
open Go.RowKit Go.Shelf
set_option linter.unusedVariables false

/-- what the operations have made; from 9 on: what stood before -/
def soF (base b rb x d : Nat) (A : Option Addr) (n c dc : Nat) (k z : Int) (P : Prm) (S S2 : St) (r : Int) (Xs X : Nat → Prop) (h : Value) (ms : List Msg) (drow : Array Value) (j : Nat) (vals : Nat → Value) (W : World) : Prop :=
  match j with
  | 0 => vals 0 = .pointer (some ⟨b, 0, none⟩)
  | 1 => vals 1 = .slice (some ⟨d, 0, none⟩) n dc
  | 2 => vals 2 = .int .i64 r ∧ ∃ (h' : Value) (ms' : List Msg), BoxS W base b P h' ms' S2 ∧ ∀ m ∈ ms', ¬ Xs m.blk
  | 3 => vals 3 = .pointer (some ⟨rb, 0, none⟩)
  | 4 => vals 4 = .pointer (some ⟨x, 1, none⟩)
  | 5 => vals 5 = .slice A n c
  | 6 => vals 6 = .int .i64 r ∧ RefS W base rb P S2 X
  | 7 => vals 7 = .bool true
  | 8 => vals 8 = .bool true
  | 9 => BoxS W base b P h ms S
  | 10 => RefS W base rb P S X
  | 11 => W.heap[d]? = some (.cells drow 5 (0, 0)) ∧ W.heap[x]? = some (.cells #[.int .i64 k, .slice A n c, .int .i64 z] 39 (0, 0))
  | _ => True
def soT : Nat → Nat
  | 9 => 2 | 10 => 6 | _ => 100
def soM (j : Nat) : List Nat := if 9 ≤ j then [] else [j]
theorem soF_sup {base b rb x d : Nat} {A : Option Addr} {n c dc : Nat} {k z : Int} {P : Prm} {S S2 : St} {r : Int} {Xs X : Nat → Prop} {h : Value} {ms : List Msg} {drow : Array Value} : ∀ j vals vals' W, (∀ i ∈ soM j, vals i = vals' i) → soF base b rb x d A n c dc k z P S S2 r Xs X h ms drow j vals W → soF base b rb x d A n c dc k z P S S2 r Xs X h ms drow j vals' W := by
  intro j vals vals' W h hF
  unfold soM at h
  match j, hF with
  | 0, hF | 1, hF | 2, hF | 3, hF | 4, hF | 5, hF | 6, hF | 7, hF | 8, hF =>
    simp only [soF] at hF ⊢
    rw [← h _ (by simp)]; exact hF
  | 9, hF | 10, hF | 11, hF => exact hF
  | _ + 12, _ => trivial
/-- what the operations have made; from 13 on: what stood before -/
def arF (base b rb x d : Nat) (A : Option Addr) (n c dc : Nat) (k z : Int) (P : Prm) (S S2 : St) (r : Int) (Xs X : Nat → Prop) (h : Value) (ms : List Msg) (drow : Array Value) (j : Nat) (vals : Nat → Value) (W : World) : Prop :=
  match j with
  | 0 => vals 0 = .pointer (some ⟨b, 0, none⟩)
  | 1 => vals 1 = .slice (some ⟨d, 0, none⟩) n dc
  | 2 => vals 2 = .pointer (some ⟨x, 2, none⟩)
  | 3 => vals 3 = .int .i64 z
  | 4 => vals 4 = .int .i64 r ∧ ∃ (h' : Value) (ms' : List Msg), BoxS W base b P h' ms' S2 ∧ ∀ m ∈ ms', ¬ Xs m.blk
  | 5 => vals 5 = .pointer (some ⟨rb, 0, none⟩)
  | 6 => vals 6 = .pointer (some ⟨x, 1, none⟩)
  | 7 => vals 7 = .slice A n c
  | 8 => vals 8 = .pointer (some ⟨x, 2, none⟩)
  | 9 => vals 9 = .int .i64 z
  | 10 => vals 10 = .int .i64 r ∧ RefS W base rb P S2 X
  | 11 => vals 11 = .bool true
  | 12 => vals 12 = .bool true
  | 13 => BoxS W base b P h ms S
  | 14 => RefS W base rb P S X
  | 15 => W.heap[d]? = some (.cells drow 5 (0, 0)) ∧ W.heap[x]? = some (.cells #[.int .i64 k, .slice A n c, .int .i64 z] 39 (0, 0))
  | _ => True
def arT : Nat → Nat
  | 13 => 4 | 14 => 10 | _ => 100
def arM (j : Nat) : List Nat := if 13 ≤ j then [] else [j]
theorem arF_sup {base b rb x d : Nat} {A : Option Addr} {n c dc : Nat} {k z : Int} {P : Prm} {S S2 : St} {r : Int} {Xs X : Nat → Prop} {h : Value} {ms : List Msg} {drow : Array Value} : ∀ j vals vals' W, (∀ i ∈ arM j, vals i = vals' i) → arF base b rb x d A n c dc k z P S S2 r Xs X h ms drow j vals W → arF base b rb x d A n c dc k z P S S2 r Xs X h ms drow j vals' W := by
  intro j vals vals' W h hF
  unfold arM at h
  match j, hF with
  | 0, hF | 1, hF | 2, hF | 3, hF | 4, hF | 5, hF | 6, hF | 7, hF | 8, hF | 9, hF | 10, hF | 11, hF | 12, hF =>
    simp only [arF] at hF ⊢
    rw [← h _ (by simp)]; exact hF
  | 13, hF | 14, hF | 15, hF => exact hF
  | _ + 16, _ => trivial
end Go.Proofs.Ytdimllmbalponaa
