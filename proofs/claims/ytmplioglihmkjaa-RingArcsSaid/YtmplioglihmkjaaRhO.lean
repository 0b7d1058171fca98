/-
  Of a slice that came in: its address is plain.
-/
import Derived.Test.YtmplioglihmkjaaRgO
namespace Go.Proofs.Ytmplioglihmkjaa
open Go.RowKit Go.Deep Go.ChangeShapes Go.WideShapes
theorem spot_of {w : World} {r : Reach} {b : Nat} {t e : TypeId} {A : Option Addr} {n c : Nat} (ht : Try.prog.underlying t = some (.slice e)) (h : Value.okWide Try.prog w r b t (.slice A n c)) : ∀ a, A = some a → a.spot = none := by
  rintro a rfl
  unfold Value.okWide at h
  rw [ht] at h
  unfold Cell.okWide at h
  rw [ht] at h
  unfold Cell.ok at h
  rw [ht] at h
  exact h.2.2.2.1
end Go.Proofs.Ytmplioglihmkjaa
