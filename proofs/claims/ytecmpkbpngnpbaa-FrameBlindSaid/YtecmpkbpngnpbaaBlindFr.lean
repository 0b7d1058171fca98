/-
  For FrameBlind: a payload and two bursts that came in; a payload laid into a frame's block.
-/
import Derived.Test.YtecmpkbpngnpbaaFr
import Derived.Test.YtecmpkbpngnpbaaBlindMath
import Derived.Deep.MidRow
namespace Go.Proofs.Ytecmpkbpngnpbaa
open Go.RowKit Go.ChangeShapes Go.WideShapes
set_option linter.unusedVariables false

section
variable {H : Type} {enc : TypeId × Value → H} {w : World} {base : Nat} {spare : Nat → Bool} {held : Bool}
theorem okWide_array {P : Program} {r : Reach} {b : Nat} {t e : TypeId} {v : Value} {n : Nat} (ht : P.underlying t = some (.array n e)) (h : Value.okWide P w r b t v) : ∃ cs, v = .agg cs := by
  simp only [Value.okWide, ht] at h
  obtain ⟨cs, h1, _⟩ := h
  exact ⟨cs, h1⟩
/-- A PAYLOAD THAT CAME IN. -/
theorem pay_of {r : Reach} {b : Nat} {v : Value} {d : DataW H} {q : List MemPlace} (hv : Value.okWide Try.prog w r b 25 v) (h : DataW.Trod enc Try.prog w base spare held 25 v d q) :
    ∃ p : List Nat, v = .agg (bys p) ∧ p.length = 64 ∧ (∀ c ∈ p, c < 256) := by
  obtain ⟨cs, rfl⟩ := okWide_array Try.underlying25 hv
  obtain ⟨fuel, ht⟩ := h
  obtain ⟨p, hp, hpl, e⟩ := pay_trod (cs := cs.toList) (by simpa [Value.cells] using ht)
  exact ⟨p, by rw [← Array.toArray_toList (xs := cs), e]; rfl, hp, hpl⟩
theorem burst_trod {fuel : Nat} {cs : List Value} {x : DataW H × List MemPlace} (h : DataW.trod enc Try.prog w base spare held fuel 51 cs = some x) :
    ∃ (z : Int) (k : Nat), cs = [.int .i64 z, .int .u32 (k : Int)] ∧ (Lit.int .i64 z).wf = true ∧ k < 4294967296 := by
  obtain ⟨xs, n, _, rfl, hl, hlen, hfs⟩ := DataW.trod_struct Try.underlying51 h
  have h0 : DataW.trod enc Try.prog w base spare held n 3 ((cs.drop 0).take (Try.prog.cellsOf 3)) = xs[0]? := hfs 0 _ rfl
  have h1 : DataW.trod enc Try.prog w base spare held n 42 ((cs.drop 1).take (Try.prog.cellsOf 42)) = xs[1]? := hfs 1 _ rfl
  rw [show Try.prog.cellsOf 51 = 2 by kernel_rfl] at hl
  match cs, hl with
  | [a, b], _ =>
    simp only [show Try.prog.cellsOf 3 = 1 by kernel_rfl, show Try.prog.cellsOf 42 = 1 by kernel_rfl, List.drop_zero, List.drop_succ_cons, List.take_succ_cons, List.take_zero] at h0 h1
    simp at hlen
    rw [List.getElem?_eq_getElem (by omega)] at h0 h1
    obtain ⟨z, e0, _, i0⟩ := DataW.trod_int Try.underlying3 h0
    obtain ⟨m, e1, _, i1⟩ := DataW.trod_int Try.underlying42 h1
    have hb := bounds_u32 i1
    simp at e0 e1
    exact ⟨z, m.toNat, by rw [e0, e1, Int.toNat_of_nonneg hb.1], i0, by omega⟩
/-- TWO BURSTS THAT CAME IN. -/
theorem bursts_of {r : Reach} {b : Nat} {v : Value} {d : DataW H} {q : List MemPlace} (hv : Value.okWide Try.prog w r b 52 v) (h : DataW.Trod enc Try.prog w base spare held 52 v d q) :
    ∃ (z1 : Int) (k1 : Nat) (z2 : Int) (k2 : Nat), v = .agg #[.int .i64 z1, .int .u32 (k1 : Int), .int .i64 z2, .int .u32 (k2 : Int)] ∧ (Lit.int .i64 z1).wf = true ∧ k1 < 4294967296 ∧ (Lit.int .i64 z2).wf = true ∧ k2 < 4294967296 := by
  obtain ⟨cs, rfl⟩ := okWide_array Try.underlying52 hv
  obtain ⟨fuel, ht⟩ := h
  obtain ⟨xs, n, _, _, hl, hlen, hfs⟩ := DataW.trod_array Try.underlying52 (show DataW.trod enc Try.prog w base spare held fuel 52 cs.toList = some (d, q) by simpa [Value.cells] using ht)
  rw [show Try.prog.cellsOf 52 = 4 by kernel_rfl] at hl
  have h0 := hfs 0 (by omega)
  have h1 := hfs 1 (by omega)
  obtain ⟨l, hcs⟩ : ∃ l, cs.toList = l := ⟨_, rfl⟩
  rw [hcs] at hl h0 h1
  match l, hl with
  | [a, b, c, e], _ =>
    simp only [show Try.prog.cellsOf 51 = 2 by kernel_rfl, Nat.zero_mul, Nat.one_mul, List.drop_zero, List.drop_succ_cons, List.take_succ_cons, List.take_zero] at h0 h1
    rw [List.getElem?_eq_getElem (by omega)] at h0 h1
    obtain ⟨z1, k1, e1, i1, j1⟩ := burst_trod h0
    obtain ⟨z2, k2, e2, i2, j2⟩ := burst_trod h1
    simp at e1 e2
    obtain ⟨rfl, rfl⟩ := e1
    obtain ⟨rfl, rfl⟩ := e2
    exact ⟨z1, k1, z2, k2, by rw [← Array.toArray_toList (xs := cs), hcs], i1, j1, i2, j2⟩
end

/-- a payload laid into a frame's block -/
theorem put_pay {w : World} {g : Nat} {o s m : Int} {p p' : List Nat} (hp : p.length = 64) (hp' : p'.length = 64) (h : w.heap[g]? = some (.cells (frv o s m p) 27 (0, 0))) :
    w.there g 3 (bys p').size ∧ (w.setCells g 3 (bys p').toList).rangeAt g 0 (frv o s m p').toList := by
  have hr : ∀ j, j < 67 → w.cell? ⟨g, j, none⟩ = (frv o s m p)[j]? := fun j hj => cell_of_row _ _ _ _ _ _ h
  have ht : w.there g 3 (bys p').size := by
    intro j hj
    rw [bys_size, hp'] at hj
    refine ⟨?_, frozen_of_row _ _ _ _ _ h⟩
    rw [hr (3 + j) (by omega), Array.getElem?_eq_getElem (by rw [frv_size, hp]; omega)]
    rfl
  refine ⟨ht, fun j v hv => ?_⟩
  have hj : j < 67 := by
    have := (List.getElem?_eq_some_iff.1 hv).1
    simpa [frv_size, hp'] using this
  rw [Nat.zero_add]
  have e : (frv o s m p').toList = [.int .i64 o, .int .i64 s, .int .u16 m] ++ (bys p').toList := by simp [frv]
  rw [e] at hv
  by_cases h3 : j < 3
  · rw [World.cell?_setCells_out g _ 3 w ⟨g, j, none⟩ (fun _ _ => .inl h3), hr j hj]
    rw [List.getElem?_append_left (by simpa using h3)] at hv
    rw [← hv]
    rcases (show j = 0 ∨ j = 1 ∨ j = 2 by omega) with rfl | rfl | rfl
    · exact frv_0 _ _ _ _
    · exact frv_1 _ _ _ _
    · exact frv_2 _ _ _ _
  · obtain ⟨i, rfl⟩ : ∃ i, j = 3 + i := ⟨j - 3, by omega⟩
    have hr2 := World.rangeAt_setCells_same w g 3 (bys p').toList (by simpa using ht) i v (by
      rw [List.getElem?_append_right (by simp)] at hv
      simpa using hv)
    exact hr2
end Go.Proofs.Ytecmpkbpngnpbaa
