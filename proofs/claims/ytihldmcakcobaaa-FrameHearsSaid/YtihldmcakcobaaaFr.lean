/-
  A frame, and a state, that came in: what their values are.
-/
import Derived.Test.YtihldmcakcobaaaStr
import Derived.OpenShut
namespace Go.Proofs.Ytihldmcakcobaaa
open Go.RowKit Go.ChangeShapes Go.WideShapes
set_option linter.unusedVariables false

section
variable {H : Type} {enc : TypeId × Value → H} {w : World} {base : Nat} {spare : Nat → Bool} {held : Bool}

theorem st_trod {fuel : Nat} {cs : List Value} {x : DataW H × List MemPlace} (h : DataW.trod enc Try.prog w base spare held fuel 24 cs = some x) :
    ∃ z m : Int, cs = [.int .i64 z, .int .u16 m] ∧ (Lit.int .i64 z).wf = true ∧ (Lit.int .u16 m).wf = true := by
  obtain ⟨xs, n, _, rfl, hl, hlen, hfs⟩ := DataW.trod_struct Try.underlying24 h
  have h0 : DataW.trod enc Try.prog w base spare held n 3 ((cs.drop 0).take (Try.prog.cellsOf 3)) = xs[0]? := hfs 0 _ rfl
  have h1 : DataW.trod enc Try.prog w base spare held n 22 ((cs.drop 1).take (Try.prog.cellsOf 22)) = xs[1]? := hfs 1 _ rfl
  rw [show Try.prog.cellsOf 24 = 2 by kernel_rfl] at hl
  match cs, hl with
  | [a, b], _ =>
    simp only [show Try.prog.cellsOf 3 = 1 by kernel_rfl, show Try.prog.cellsOf 22 = 1 by kernel_rfl, List.drop_zero, List.drop_succ_cons, List.take_succ_cons, List.take_zero] at h0 h1
    simp at hlen
    rw [List.getElem?_eq_getElem (by omega)] at h0 h1
    obtain ⟨z, e0, _, i0⟩ := DataW.trod_int Try.underlying3 h0
    obtain ⟨m, e1, _, i1⟩ := DataW.trod_int Try.underlying22 h1
    simp at e0 e1
    exact ⟨z, m, by rw [e0, e1], i0, i1⟩

theorem pay_trod {fuel : Nat} {cs : List Value} {x : DataW H × List MemPlace} (h : DataW.trod enc Try.prog w base spare held fuel 25 cs = some x) :
    ∃ p : List Nat, p.length = 64 ∧ (∀ c ∈ p, c < 256) ∧ cs = p.map fun c : Nat => Value.int .u8 (c : Int) := by
  obtain ⟨xs, n, _, rfl, hl, hlen, hfs⟩ := DataW.trod_array Try.underlying25 h
  rw [show Try.prog.cellsOf 25 = 64 by kernel_rfl] at hl
  have each : ∀ i, i < 64 → ∃ c : Nat, c < 256 ∧ cs[i]? = some (.int .u8 (c : Int)) := by
    intro i hi
    have h1 := hfs i hi
    rw [show Try.prog.cellsOf 5 = 1 by kernel_rfl, Nat.mul_one, List.getElem?_eq_getElem (by omega), List.drop_eq_getElem_cons (by omega), List.take_succ_cons, List.take_zero] at h1
    obtain ⟨z, e0, _, i0⟩ := DataW.trod_int Try.underlying5 h1
    have hb := bounds_u8 i0
    simp at e0
    exact ⟨z.toNat, by omega, by rw [List.getElem?_eq_getElem (by omega), e0, Int.toNat_of_nonneg hb.1]⟩
  obtain ⟨F, hF⟩ : ∃ F : Nat → Nat, ∀ i, i < 64 → F i < 256 ∧ cs[i]? = some (.int .u8 ((F i : Nat) : Int)) :=
    ⟨fun i => if hi : i < 64 then (each i hi).choose else 0, fun i hi => by simp only [dif_pos hi]; exact (each i hi).choose_spec⟩
  refine ⟨(List.range 64).map F, by simp, fun c hc => ?_, ?_⟩
  · simp at hc; obtain ⟨i, hi, rfl⟩ := hc; exact (hF i hi).1
  · apply List.ext_getElem?
    intro i
    rcases Nat.lt_or_ge i 64 with hi | hi
    · rw [(hF i hi).2]; simp [hi]
    · rw [List.getElem?_eq_none (by omega), List.getElem?_eq_none (by simp; omega)]

theorem fr_trod {fuel : Nat} {cs : List Value} {x : DataW H × List MemPlace} (h : DataW.trod enc Try.prog w base spare held fuel 27 cs = some x) :
    ∃ (o s m : Int) (p : List Nat), cs = (frv o s m p).toList ∧ p.length = 64 ∧ (∀ c ∈ p, c < 256) ∧ (Lit.int .i64 o).wf = true ∧ (Lit.int .i64 s).wf = true ∧ (Lit.int .u16 m).wf = true := by
  obtain ⟨xs, n, _, rfl, hl, hlen, hfs⟩ := DataW.trod_struct Try.underlying27 h
  have h0 : DataW.trod enc Try.prog w base spare held n 3 ((cs.drop 0).take (Try.prog.cellsOf 3)) = xs[0]? := hfs 0 _ rfl
  have h1 : DataW.trod enc Try.prog w base spare held n 24 ((cs.drop 1).take (Try.prog.cellsOf 24)) = xs[1]? := hfs 1 _ rfl
  have h2 : DataW.trod enc Try.prog w base spare held n 25 ((cs.drop 3).take (Try.prog.cellsOf 25)) = xs[2]? := hfs 2 _ rfl
  rw [show Try.prog.cellsOf 27 = 67 by kernel_rfl] at hl
  match cs, hl with
  | a :: b :: c :: r, hl =>
    simp at hlen hl
    simp only [show Try.prog.cellsOf 3 = 1 by kernel_rfl, show Try.prog.cellsOf 24 = 2 by kernel_rfl, show Try.prog.cellsOf 25 = 64 by kernel_rfl, List.drop_zero, List.drop_succ_cons, List.take_succ_cons, List.take_zero] at h0 h1 h2
    rw [List.take_of_length_le (by omega)] at h2
    rw [List.getElem?_eq_getElem (by omega)] at h0 h1 h2
    obtain ⟨o, e0, _, i0⟩ := DataW.trod_int Try.underlying3 h0
    obtain ⟨z, m, e1, i1, i2⟩ := st_trod h1
    obtain ⟨p, hp, hpl, e2⟩ := pay_trod h2
    simp at e0 e1
    exact ⟨o, z, m, p, by rw [e0, e1.1, e1.2, e2]; simp [frv, bys], hp, hpl, i0, i1, i2⟩

/-- BYTES THAT CAME IN. -/
theorem bytes_of {fuel : Nat} {a : Option Addr} {len cap : Nat} {x : DataW H × List MemPlace} (h : DataW.trod enc Try.prog w 0 (fun _ => true) true fuel 28 [.slice a len cap] = some x) :
    ∃ l : List Nat, l.length = len ∧ len ≤ cap ∧ cap ≤ maxLen ∧ Bytes w a l := by
  rcases open_ints Try.underlying28 Try.underlying5 (by kernel_rfl) h with ⟨hcs, _⟩ | ⟨b, len', cap', zs, hcs, _, hl, hm, hz, _, hc, hwf⟩
  · simp at hcs
    exact row_bytes (.inl ⟨hcs.1, hcs.2.1, hcs.2.2, rfl⟩)
  · simp at hcs
    obtain ⟨rfl, rfl, rfl⟩ := hcs
    simp only [if_true] at hz
    exact row_bytes (.inr ⟨b, rfl, hl, hm, hz, hc, hwf⟩)
/-- A STATE THAT CAME IN. -/
theorem st_of {r : Reach} {b : Nat} {v : Value} {d : DataW H} {p : List MemPlace} (hv : Value.okWide Try.prog w r b 24 v) (h : DataW.Trod enc Try.prog w base spare held 24 v d p) :
    ∃ z m : Int, v = .agg #[.int .i64 z, .int .u16 m] ∧ (Lit.int .i64 z).wf = true ∧ (Lit.int .u16 m).wf = true := by
  obtain ⟨cs, rfl, hsz⟩ := okWide_struct Try.underlying24 hv
  obtain ⟨fuel, ht⟩ := h
  obtain ⟨z, m, e, i0, i1⟩ := st_trod (cs := cs.toList) (by simpa [Value.cells] using ht)
  exact ⟨z, m, by rw [← Array.toArray_toList (xs := cs), e], i0, i1⟩
/-- A FRAME THAT CAME IN. -/
theorem fr_of {r : Reach} {b : Nat} {v : Value} {d : DataW H} {q : List MemPlace} (hv : Value.okWide Try.prog w r b 27 v) (h : DataW.Trod enc Try.prog w base spare held 27 v d q) :
    ∃ (o s m : Int) (p : List Nat), v = .agg (frv o s m p) ∧ p.length = 64 ∧ (∀ c ∈ p, c < 256) ∧ (Lit.int .i64 o).wf = true ∧ (Lit.int .i64 s).wf = true ∧ (Lit.int .u16 m).wf = true := by
  obtain ⟨cs, rfl, hsz⟩ := okWide_struct Try.underlying27 hv
  obtain ⟨fuel, ht⟩ := h
  obtain ⟨o, s, m, p, e, hp, hpl, i0, i1, i2⟩ := fr_trod (cs := cs.toList) (by simpa [Value.cells] using ht)
  exact ⟨o, s, m, p, by rw [← Array.toArray_toList (xs := cs), e], hp, hpl, i0, i1, i2⟩
end
end Go.Proofs.Ytihldmcakcobaaa
