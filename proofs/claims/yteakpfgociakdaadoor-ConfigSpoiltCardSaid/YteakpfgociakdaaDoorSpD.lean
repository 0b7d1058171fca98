/-
  What spoils, opened.
-/
import Derived.Test.YteakpfgociakdaaDoorCfg
namespace Go.Proofs.YteakpfgociakdaaDoor
open Go.RowKit Go.Deep Go.ChangeShapes Go.WideShapes
set_option linter.unusedVariables false

theorem array3 {cs : Array Value} (h : cs.size = 3) : ∃ a b c, cs = #[a, b, c] := by
  obtain ⟨l⟩ := cs
  match l, h with
  | [a, b, c], _ => exact ⟨a, b, c, rfl⟩

section
variable {H : Type} {enc : TypeId × Value → H} {w : World}
set_option maxRecDepth 100000 in
theorem spoilt_of {r : Reach} {base : Nat} {v : Value} {d : DataW H} {p : List MemPlace} (hv : Value.okWide Tryd.prog w r base 46 v) (h : DataW.Trod enc Tryd.prog w 0 (fun _ => true) true 46 v d p) :
    ∃ f a t, v = .agg #[.int .i64 f, .int .u8 a, .int .i64 t] ∧ (0 ≤ a ∧ a ≤ 255) ∧ I64 t := by
  have k : Tryd.prog.cellsOf 46 = 3 := by kernel_rfl
  obtain ⟨cs, rfl, hsz⟩ := okWide_struct Tryd.underlying46 hv
  obtain ⟨c0, c1, c2, rfl⟩ := array3 (hsz.trans k)
  obtain ⟨fuel, ht⟩ := h
  have ht' : DataW.trod enc Tryd.prog w 0 (fun _ => true) true fuel 46 [c0, c1, c2] = some (d, p) := by simpa [Value.cells] using ht
  clear ht hv hsz
  obtain ⟨z0, e0, i0⟩ := int_field Tryd.underlying46 (by kernel_rfl) ht' 0 _ rfl rfl (by omega)
  obtain ⟨z2, e2, i2⟩ := int_field Tryd.underlying46 (by kernel_rfl) ht' 2 _ rfl rfl (by omega)
  obtain ⟨v1, m1, y1, e1, t1⟩ := field_of Tryd.underlying46 (by kernel_rfl) ht' 1 _ rfl (by omega)
  obtain ⟨z1, h3, _, h4⟩ := DataW.trod_int Tryd.underlying5 t1
  simp at h3
  subst h3
  simp only [List.getElem?_cons_zero, List.getElem?_cons_succ, Option.some.injEq] at e0 e1 e2
  subst e0 e1 e2
  exact ⟨z0, z1, z2, rfl, bounds_u8 h4, i2⟩
end
end Go.Proofs.YteakpfgociakdaaDoor
