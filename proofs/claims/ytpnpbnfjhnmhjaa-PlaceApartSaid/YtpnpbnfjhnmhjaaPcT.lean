/-
  Spans that came in, opened.
-/
import Derived.Test.YtpnpbnfjhnmhjaaPlO
import Derived.Test.YtpnpbnfjhnmhjaaPcA
namespace Go.Proofs.Ytpnpbnfjhnmhjaa
open Go.RowKit Go.Deep Go.ChangeShapes Go.WideShapes
set_option linter.unusedVariables false

section
variable {H : Type} {enc : TypeId × Value → H} {w : World} {base : Nat} {spare : Nat → Bool} {held : Bool}
theorem spans_of {fuel : Nat} {v : Value} {x : DataW H × List MemPlace} (h : DataW.trod enc Try.prog w 0 (fun _ => true) true fuel 22 [v] = some x) :
    ∃ (A : Option Addr) (L : List Ai) (c : Nat), v = .slice A L.length c ∧ L.length ≤ c ∧ c ≤ maxLen ∧ Sps w A L := by
  obtain ⟨A, L, c, h1, h2, h3, h4, h5⟩ := lies_of (α := Ai) (k := 2) (p := fun z b o => (w.cell? ⟨b, o, none⟩ = some (.int .i64 z.1) ∧ w.cell? ⟨b, o + 1, none⟩ = some (.int .i64 z.2)) ∧ I64 z.1 ∧ I64 z.2) Try.underlying22 (by kernel_rfl) (by omega)
    (fun n b o cs y hl hc ht => by
      obtain ⟨z0, e0, i0⟩ := int_field Try.underlying37 (by kernel_rfl) ht 0 _ rfl rfl (by rw [show Try.prog.cellsOf 37 = 2 by kernel_rfl]; omega)
      obtain ⟨z1, e1, i1⟩ := int_field Try.underlying37 (by kernel_rfl) ht 1 _ rfl rfl (by rw [show Try.prog.cellsOf 37 = 2 by kernel_rfl]; omega)
      exact ⟨(z0, z1), ⟨(hc 0 (by omega)).trans e0, (hc 1 (by omega)).trans e1⟩, i0, i1⟩) h
  refine ⟨A, L, c, h1, h2, h3, fun z hz => ?_, ?_⟩
  · rcases h5 with rfl | h5
    · cases hz
    · obtain ⟨b, o, hp⟩ := h5 z hz
      exact hp.2
  · rcases h4 with h4 | ⟨b, off, e, hlt, hp⟩
    · exact .inl h4
    · exact .inr ⟨b, off, e, hlt, fun i hi => (hp i hi).1⟩
end
end Go.Proofs.Ytpnpbnfjhnmhjaa
