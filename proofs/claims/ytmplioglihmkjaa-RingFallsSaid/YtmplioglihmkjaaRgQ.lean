/-
  Two small numbers that came in, opened.
-/
import Derived.Test.YtmplioglihmkjaaPlO
import Derived.Test.YtmplioglihmkjaaRgO
namespace Go.Proofs.Ytmplioglihmkjaa
open Go.RowKit Go.Deep Go.ChangeShapes Go.WideShapes
set_option linter.unusedVariables false

section
variable {H : Type} {enc : TypeId × Value → H} {w : World} {base : Nat} {spare : Nat → Bool} {held : Bool}
theorem two16_of {r : Reach} {b : Nat} {v : Value} {d : DataW H} {q : List MemPlace} (hv : Value.okWide Try.prog w r b 62 v) (h : DataW.Trod enc Try.prog w base spare held 62 v d q) :
    ∃ (x y : Int), v = .agg #[.int .i16 x, .int .i16 y] ∧ (Lit.int .i16 x).wf = true ∧ (Lit.int .i16 y).wf = true := by
  obtain ⟨cs, rfl⟩ := okWide_array Try.underlying62 hv
  obtain ⟨fuel, ht⟩ := h
  obtain ⟨xs, n, _, _, hl, hlen, hfs⟩ := DataW.trod_array Try.underlying62 (show DataW.trod enc Try.prog w base spare held fuel 62 cs.toList = some (d, q) by simpa [Value.cells] using ht)
  rw [show Try.prog.cellsOf 62 = 2 by kernel_rfl] at hl
  have h0 := hfs 0 (by omega)
  have h1 := hfs 1 (by omega)
  obtain ⟨l, hcs⟩ : ∃ l, cs.toList = l := ⟨_, rfl⟩
  rw [hcs] at hl h0 h1
  match l, hl with
  | [a, c], _ =>
    simp only [show Try.prog.cellsOf 61 = 1 by kernel_rfl, Nat.zero_mul, Nat.one_mul, List.drop_zero, List.drop_succ_cons, List.take_succ_cons, List.take_zero] at h0 h1
    rw [List.getElem?_eq_getElem (by omega)] at h0 h1
    obtain ⟨x, e0, _, i0⟩ := DataW.trod_int Try.underlying61 h0
    obtain ⟨y, e1, _, i1⟩ := DataW.trod_int Try.underlying61 h1
    simp at e0 e1
    subst e0 e1
    exact ⟨x, y, by rw [← Array.toArray_toList (xs := cs), hcs], i0, i1⟩

end
end Go.Proofs.Ytmplioglihmkjaa
