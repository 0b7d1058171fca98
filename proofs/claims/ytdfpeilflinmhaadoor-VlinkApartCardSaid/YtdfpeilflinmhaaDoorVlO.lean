/-
  What comes in beside a configuration, opened: a way, a payload, two of them.
-/
import Derived.Test.YtdfpeilflinmhaaDoorVlF
namespace Go.Proofs.YtdfpeilflinmhaaDoor
open Go.RowKit Go.Deep Go.ChangeShapes Go.WideShapes
set_option linter.unusedVariables false

section
variable {H : Type} {enc : TypeId × Value → H} {w : World}
theorem vokWide_array {P : Program} {r : Reach} {b : Nat} {t e : TypeId} {v : Value} {n : Nat} (ht : P.underlying t = some (.array n e)) (h : Value.okWide P w r b t v) : ∃ cs, v = .agg cs := by
  unfold Value.okWide at h
  rw [ht] at h
  cases v <;> first | exact ⟨_, rfl⟩ | simp at h
set_option maxRecDepth 100000 in
theorem vpay_trod {fuel : Nat} {cs : List Value} {x : DataW H × List MemPlace} (h : DataW.trod enc Tryd.prog w 0 (fun _ => true) true fuel 38 cs = some x) :
    ∃ p : List Nat, p.length = 64 ∧ (∀ c ∈ p, c < 256) ∧ cs = p.map fun c : Nat => Value.int .u8 (c : Int) := by
  obtain ⟨xs, n, _, rfl, hl, hlen, hfs⟩ := DataW.trod_array Tryd.underlying38 h
  rw [show Tryd.prog.cellsOf 38 = 64 by kernel_rfl] at hl
  have each : ∀ i, i < 64 → ∃ c : Nat, c < 256 ∧ cs[i]? = some (.int .u8 (c : Int)) := by
    intro i hi
    have h1 := hfs i hi
    rw [show Tryd.prog.cellsOf 5 = 1 by kernel_rfl, Nat.mul_one, List.getElem?_eq_getElem (by omega), List.drop_eq_getElem_cons (by omega), List.take_succ_cons, List.take_zero] at h1
    obtain ⟨z, e0, _, i0⟩ := DataW.trod_int Tryd.underlying5 h1
    have hb := bounds_u8 i0
    simp at e0
    exact ⟨z.toNat, by omega, by rw [List.getElem?_eq_getElem (by omega), e0, Int.toNat_of_nonneg hb.1]⟩
  obtain ⟨F, hF⟩ : ∃ F : Nat → Nat, ∀ i, i < 64 → F i < 256 ∧ cs[i]? = some (.int .u8 ((F i : Nat) : Int)) :=
    ⟨fun i => if hi : i < 64 then (each i hi).choose else 0, fun i hi => by simp only [dif_pos hi]; exact (each i hi).choose_spec⟩
  refine ⟨(List.range 64).map F, by simp, fun c hc => ?_, ?_⟩
  · simp at hc; obtain ⟨i, hi, rfl⟩ := hc; exact (hF i hi).1
  · apply List.ext_getElem?
    intro i
    rcases Nat.lt_or_ge i 64 with hi | hi
    · rw [(hF i hi).2]; simp [hi]
    · rw [List.getElem?_eq_none (by omega), List.getElem?_eq_none (by simp; omega)]
set_option maxRecDepth 100000 in
theorem vpay_of {r : Reach} {b : Nat} {v : Value} {d : DataW H} {q : List MemPlace} (hv : Value.okWide Tryd.prog w r b 38 v) (h : DataW.Trod enc Tryd.prog w 0 (fun _ => true) true 38 v d q) :
    ∃ p : List Nat, v = .agg (bys p) ∧ p.length = 64 ∧ ∀ c ∈ p, c < 256 := by
  obtain ⟨cs, rfl⟩ := vokWide_array Tryd.underlying38 hv
  obtain ⟨fuel, ht⟩ := h
  obtain ⟨p, h1, h2, h3⟩ := vpay_trod (by simpa [Value.cells] using ht)
  refine ⟨p, ?_, h1, h2⟩
  obtain ⟨l⟩ := cs
  simp at h3
  subst h3
  rfl
theorem varray3 {cs : Array Value} (h : cs.size = 3) : ∃ a b c, cs = #[a, b, c] := by
  obtain ⟨l⟩ := cs
  match l, h with
  | [a, b, c], _ => exact ⟨a, b, c, rfl⟩
set_option maxRecDepth 100000 in
theorem way_of {r : Reach} {base : Nat} {v : Value} {d : DataW H} {p : List MemPlace} (hv : Value.okWide Tryd.prog w r base 63 v) (h : DataW.Trod enc Tryd.prog w 0 (fun _ => true) true 63 v d p) :
    ∃ o n s : Int, v = .agg #[.int .i64 o, .int .i64 n, .int .i64 s] ∧ I64 o ∧ I64 n ∧ I64 s := by
  have k : Tryd.prog.cellsOf 63 = 3 := by kernel_rfl
  obtain ⟨cs, rfl, hsz⟩ := okWide_struct Tryd.underlying63 hv
  obtain ⟨c0, c1, c2, rfl⟩ := varray3 (hsz.trans k)
  obtain ⟨fuel, ht⟩ := h
  have ht' : DataW.trod enc Tryd.prog w 0 (fun _ => true) true fuel 63 [c0, c1, c2] = some (d, p) := by simpa [Value.cells] using ht
  clear ht hv hsz
  obtain ⟨z0, e0, i0⟩ := int_field Tryd.underlying63 (by kernel_rfl) ht' 0 _ rfl rfl (by omega)
  obtain ⟨z1, e1, i1⟩ := int_field Tryd.underlying63 (by kernel_rfl) ht' 1 _ rfl rfl (by omega)
  obtain ⟨z2, e2, i2⟩ := int_field Tryd.underlying63 (by kernel_rfl) ht' 2 _ rfl rfl (by omega)
  simp only [List.getElem?_cons_zero, List.getElem?_cons_succ, Option.some.injEq] at e0 e1 e2
  subst e0 e1 e2
  exact ⟨z0, z1, z2, rfl, i0, i1, i2⟩
end
end Go.Proofs.YtdfpeilflinmhaaDoor
