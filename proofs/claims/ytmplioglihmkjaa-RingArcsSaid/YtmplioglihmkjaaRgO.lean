/-
  Arcs and arrays that came in, opened.
-/
import Derived.Test.YtmplioglihmkjaaPlO
import Derived.Test.YtmplioglihmkjaaRgB
namespace Go.Proofs.Ytmplioglihmkjaa
open Go.RowKit Go.Deep Go.ChangeShapes Go.WideShapes
set_option linter.unusedVariables false

section
variable {H : Type} {enc : TypeId × Value → H} {w : World} {base : Nat} {spare : Nat → Bool} {held : Bool}
theorem okWide_array {P : Program} {r : Reach} {b : Nat} {t e : TypeId} {v : Value} {n : Nat} (ht : P.underlying t = some (.array n e)) (h : Value.okWide P w r b t v) : ∃ cs, v = .agg cs := by
  simp only [Value.okWide, ht] at h
  obtain ⟨cs, h1, _⟩ := h
  exact ⟨cs, h1⟩
theorem threeint_of {r : Reach} {b : Nat} {v : Value} {d : DataW H} {q : List MemPlace} (hv : Value.okWide Try.prog w r b 22 v) (h : DataW.Trod enc Try.prog w base spare held 22 v d q) :
    ∃ (x y z : Int), v = .agg #[.int .i64 x, .int .i64 y, .int .i64 z] ∧ I64 x ∧ I64 y ∧ I64 z := by
  obtain ⟨cs, rfl⟩ := okWide_array Try.underlying22 hv
  obtain ⟨fuel, ht⟩ := h
  obtain ⟨xs, n, _, _, hl, hlen, hfs⟩ := DataW.trod_array Try.underlying22 (show DataW.trod enc Try.prog w base spare held fuel 22 cs.toList = some (d, q) by simpa [Value.cells] using ht)
  rw [show Try.prog.cellsOf 22 = 3 by kernel_rfl] at hl
  have h0 := hfs 0 (by omega)
  have h1 := hfs 1 (by omega)
  have h2 := hfs 2 (by omega)
  obtain ⟨l, hcs⟩ : ∃ l, cs.toList = l := ⟨_, rfl⟩
  rw [hcs] at hl h0 h1 h2
  match l, hl with
  | [a, c, e], _ =>
    simp only [show Try.prog.cellsOf 3 = 1 by kernel_rfl, Nat.zero_mul, Nat.one_mul, List.drop_zero, List.drop_succ_cons, List.take_succ_cons, List.take_zero] at h0 h1 h2
    rw [List.getElem?_eq_getElem (by omega)] at h0 h1 h2
    obtain ⟨x, e0, _, i0⟩ := DataW.trod_int Try.underlying3 h0
    obtain ⟨y, e1, _, i1⟩ := DataW.trod_int Try.underlying3 h1
    obtain ⟨z, e2, _, i2⟩ := DataW.trod_int Try.underlying3 h2
    simp at e0 e1 e2
    subst e0 e1 e2
    exact ⟨x, y, z, by rw [← Array.toArray_toList (xs := cs), hcs], i64_wf i0, i64_wf i1, i64_wf i2⟩

theorem arcs_of {fuel : Nat} {v : Value} {x : DataW H × List MemPlace} (h : DataW.trod enc Try.prog w 0 (fun _ => true) true fuel 34 [v] = some x) :
    ∃ (A : Option Addr) (L : List Ai) (c : Nat), v = .slice A L.length c ∧ L.length ≤ c ∧ c ≤ maxLen ∧ Arcs w A L := by
  obtain ⟨A, L, c, h1, h2, h3, h4, h5⟩ := lies_of (α := Ai) (k := 2) (p := fun z b o => (w.cell? ⟨b, o, none⟩ = some (.int .i64 z.1) ∧ w.cell? ⟨b, o + 1, none⟩ = some (.int .i64 z.2)) ∧ I64 z.1 ∧ I64 z.2) Try.underlying34 (by kernel_rfl) (by omega)
    (fun n b o cs y hl hc ht => by
      obtain ⟨z0, e0, i0⟩ := int_field Try.underlying41 (by kernel_rfl) ht 0 _ rfl rfl (by rw [show Try.prog.cellsOf 41 = 2 by kernel_rfl]; omega)
      obtain ⟨z1, e1, i1⟩ := int_field Try.underlying41 (by kernel_rfl) ht 1 _ rfl rfl (by rw [show Try.prog.cellsOf 41 = 2 by kernel_rfl]; omega)
      exact ⟨(z0, z1), ⟨(hc 0 (by omega)).trans e0, (hc 1 (by omega)).trans e1⟩, i0, i1⟩) h
  refine ⟨A, L, c, h1, h2, h3, fun z hz => ?_, ?_⟩
  · rcases h5 with rfl | h5
    · cases hz
    · obtain ⟨b, o, hp⟩ := h5 z hz
      exact hp.2
  · rcases h4 with h4 | ⟨b, off, e, hlt, hp⟩
    · exact .inl h4
    · exact .inr ⟨b, off, e, hlt, fun i hi => (hp i hi).1⟩
end
end Go.Proofs.Ytmplioglihmkjaa
