/-
  Four numbers that came in, opened.
-/
import Derived.Test.YtmplioglihmkjaaPlO
import Derived.Test.YtmplioglihmkjaaRgO
namespace Go.Proofs.Ytmplioglihmkjaa
open Go.RowKit Go.Deep Go.ChangeShapes Go.WideShapes
set_option linter.unusedVariables false

section
variable {H : Type} {enc : TypeId × Value → H} {w : World} {base : Nat} {spare : Nat → Bool} {held : Bool}
theorem fourint_of {r : Reach} {b : Nat} {v : Value} {d : DataW H} {q : List MemPlace} (hv : Value.okWide Try.prog w r b 49 v) (h : DataW.Trod enc Try.prog w base spare held 49 v d q) :
    ∃ (x y z u : Int), v = .agg #[.int .i64 x, .int .i64 y, .int .i64 z, .int .i64 u] ∧ I64 x ∧ I64 y ∧ I64 z ∧ I64 u := by
  obtain ⟨cs, rfl⟩ := okWide_array Try.underlying49 hv
  obtain ⟨fuel, ht⟩ := h
  obtain ⟨xs, n, _, _, hl, hlen, hfs⟩ := DataW.trod_array Try.underlying49 (show DataW.trod enc Try.prog w base spare held fuel 49 cs.toList = some (d, q) by simpa [Value.cells] using ht)
  rw [show Try.prog.cellsOf 49 = 4 by kernel_rfl] at hl
  have h0 := hfs 0 (by omega)
  have h1 := hfs 1 (by omega)
  have h2 := hfs 2 (by omega)
  have h3 := hfs 3 (by omega)
  obtain ⟨l, hcs⟩ : ∃ l, cs.toList = l := ⟨_, rfl⟩
  rw [hcs] at hl h0 h1 h2 h3
  match l, hl with
  | [a, c, e, g], _ =>
    simp only [show Try.prog.cellsOf 3 = 1 by kernel_rfl, Nat.zero_mul, Nat.one_mul, List.drop_zero, List.drop_succ_cons, List.take_succ_cons, List.take_zero] at h0 h1 h2 h3
    rw [List.getElem?_eq_getElem (by omega)] at h0 h1 h2 h3
    obtain ⟨x, e0, _, i0⟩ := DataW.trod_int Try.underlying3 h0
    obtain ⟨y, e1, _, i1⟩ := DataW.trod_int Try.underlying3 h1
    obtain ⟨z, e2, _, i2⟩ := DataW.trod_int Try.underlying3 h2
    obtain ⟨u, e3, _, i3⟩ := DataW.trod_int Try.underlying3 h3
    simp at e0 e1 e2 e3
    subst e0 e1 e2 e3
    exact ⟨x, y, z, u, by rw [← Array.toArray_toList (xs := cs), hcs], i64_wf i0, i64_wf i1, i64_wf i2, i64_wf i3⟩

end
end Go.Proofs.Ytmplioglihmkjaa
