/-
  What comes in beside a configuration, opened: a turn.
-/
import Derived.Test.YtbeggdahbhfhpaaDoorBuF
import Derived.Test.YtbeggdahbhfhpaaDoorSize
namespace Go.Proofs.YtbeggdahbhfhpaaDoor
open Go.RowKit Go.Deep Go.ChangeShapes Go.WideShapes
set_option linter.unusedVariables false
set_option linter.unusedSimpArgs false

section
variable {H : Type} {enc : TypeId × Value → H} {w : World}
set_option maxRecDepth 100000 in
theorem sends_of {fuel : Nat} {v : Value} {x : DataW H × List MemPlace} (h : DataW.trod enc Tryd.prog w 0 (fun _ => true) true fuel 55 [v] = some x) :
    ∃ (A : Option Addr) (L : List SnD) (c : Nat), v = .slice A L.length c ∧ L.length ≤ c ∧ c ≤ maxLen ∧ SnAt w A L := by
  have k : Tryd.prog.cellsOf 65 = 2 := by kernel_rfl
  obtain ⟨A, L, c, h1, h2, h3, h4, _⟩ := lies_of (α := SnD) (k := 2) (p := fun z b o => w.cell? ⟨b, o, none⟩ = some (.int .i64 z.node) ∧ ∃ Ai ci, w.cell? ⟨b, o + 1, none⟩ = some (.slice Ai z.l.length ci) ∧ Bytes w Ai z.l) Tryd.underlying55 k (by omega)
    (fun n b o cs y hl hc ht => by
      obtain ⟨z0, e0, i0⟩ := int_field Tryd.underlying65 (by kernel_rfl) ht 0 _ rfl rfl (by omega)
      obtain ⟨v1, m1, y1, e1, t1⟩ := field_of Tryd.underlying65 (by kernel_rfl) ht 1 _ rfl (by omega)
      obtain ⟨a, len, cap, rfl⟩ : ∃ a len cap, v1 = .slice a len cap := by
        rcases open_ints Tryd.underlying45 Tryd.underlying5 (by kernel_rfl) t1 with ⟨hcs, _⟩ | ⟨b, len', cap', zs, hcs, _⟩
        · simp at hcs; exact ⟨_, _, _, hcs⟩
        · simp at hcs; exact ⟨_, _, _, hcs⟩
      obtain ⟨l, rfl, l1, l2, l3⟩ := bytes_of t1
      exact ⟨⟨z0, l⟩, (hc 0 (by omega)).trans e0, a, cap, (hc 1 (by omega)).trans e1, l3⟩) h
  exact ⟨A, L, c, h1, h2, h3, h4⟩
set_option maxRecDepth 100000 in
theorem copies_of {fuel : Nat} {v : Value} {x : DataW H × List MemPlace} (h : DataW.trod enc Tryd.prog w 0 (fun _ => true) true fuel 56 [v] = some x) :
    ∃ (A : Option Addr) (C : List CpD) (c : Nat), v = .slice A C.length c ∧ C.length ≤ c ∧ c ≤ maxLen ∧ CpAt w A C := by
  have k : Tryd.prog.cellsOf 206 = 3 := by kernel_rfl
  obtain ⟨A, C, c, h1, h2, h3, h4, h5⟩ := lies_of (α := CpD) (k := 3) (p := fun z b o => (w.cell? ⟨b, o, none⟩ = some (.int .i64 z.kind) ∧ w.cell? ⟨b, o + 1, none⟩ = some (.int .i64 z.pos) ∧ w.cell? ⟨b, o + 2, none⟩ = some (.int .u32 (z.mask : Int))) ∧ (Lit.int .i64 z.pos).wf = true ∧ z.mask < 4294967296) Tryd.underlying56 k (by omega)
    (fun n b o cs y hl hc ht => by
      obtain ⟨z0, e0, i0⟩ := int_field Tryd.underlying206 (by kernel_rfl) ht 0 _ rfl rfl (by omega)
      obtain ⟨v1, m1, y1, e1, t1⟩ := field_of Tryd.underlying206 (by kernel_rfl) ht 1 _ rfl (by omega)
      obtain ⟨v2, m2, y2, e2, t2⟩ := field_of Tryd.underlying206 (by kernel_rfl) ht 2 _ rfl (by omega)
      obtain ⟨z1, h3, _, w1⟩ := DataW.trod_int Tryd.underlying3 t1
      obtain ⟨z2, h4, _, w2⟩ := DataW.trod_int Tryd.underlying194 t2
      simp at h3 h4
      have hb := bounds_u32 w2
      refine ⟨⟨z0, z1, z2.toNat⟩, ⟨(hc 0 (by omega)).trans e0, (hc 1 (by omega)).trans (h3 ▸ e1), ?_⟩, w1, by show z2.toNat < _; omega⟩
      show _ = some (Value.int .u32 ((z2.toNat : Nat) : Int))
      rw [Int.toNat_of_nonneg hb.1]
      exact (hc 2 (by omega)).trans (h4 ▸ e2)) h
  refine ⟨A, C, c, h1, h2, h3, fun z hz => ?_, ?_⟩
  · rcases h5 with rfl | h5
    · cases hz
    · obtain ⟨b, o, hp⟩ := h5 z hz
      exact hp.2
  · rcases h4 with h4 | ⟨b, off, e, hlt, hp⟩
    · exact .inl h4
    · exact .inr ⟨b, off, e, hlt, fun i hi => (hp i hi).1⟩
theorem barray4 {cs : Array Value} (h : cs.size = 4) : ∃ a b c d, cs = #[a, b, c, d] := by
  obtain ⟨l⟩ := cs
  match l, h with
  | [a, b, c, d], _ => exact ⟨a, b, c, d, rfl⟩
set_option maxRecDepth 100000 in
theorem turn_of {r : Reach} {base : Nat} {v : Value} {d : DataW H} {p : List MemPlace} (hv : Value.okWide Tryd.prog w r base 58 v) (h : DataW.Trod enc Tryd.prog w 0 (fun _ => true) true 58 v d p)
    (hz : ∀ n ∈ d.weights Tryd.prog 58, n ≤ reachBytes) :
    ∃ (slot : Int) (A : Option Addr) (L : List SnD) (c : Nat) (AC : Option Addr) (C : List CpD) (cc : Nat) (pb : Bool), v = .agg #[.int .i64 slot, .slice A L.length c, .slice AC C.length cc, .bool pb] ∧ I64 slot ∧ L.length ≤ 4398046510976 ∧ SnAt w A L ∧ C.length ≤ 9223372036854775807 ∧ CpAt w AC C := by
  have k : Tryd.prog.cellsOf 58 = 4 := by kernel_rfl
  have kb : Tryd.prog.bytesOf 65 = 32 := by kernel_rfl
  obtain ⟨cs, rfl, hsz⟩ := okWide_struct Tryd.underlying58 hv
  obtain ⟨c0, c1, c2, c3, rfl⟩ := barray4 (hsz.trans k)
  obtain ⟨fuel, ht⟩ := h
  have ht' : DataW.trod enc Tryd.prog w 0 (fun _ => true) true fuel 58 [c0, c1, c2, c3] = some (d, p) := by simpa [Value.cells] using ht
  clear ht hv hsz
  obtain ⟨z0, e0, i0⟩ := int_field Tryd.underlying58 (by kernel_rfl) ht' 0 _ rfl rfl (by omega)
  obtain ⟨v1, m1, y1, e1, t1, q1⟩ := field_weight Tryd.underlying58 (by kernel_rfl) ht' hz 1 _ rfl (by omega)
  obtain ⟨v2, m2, y2, e2, t2⟩ := field_of Tryd.underlying58 (by kernel_rfl) ht' 2 _ rfl (by omega)
  obtain ⟨v3, m3, y3, e3, t3⟩ := field_of Tryd.underlying58 (by kernel_rfl) ht' 3 _ rfl (by omega)
  simp only [List.getElem?_cons_zero, List.getElem?_cons_succ, Option.some.injEq] at e0 e1 e2 e3
  subst e0 e1 e2 e3
  obtain ⟨A, L, c, rfl, l1, l2, hL⟩ := sends_of t1
  obtain ⟨AC, C, cc, rfl, m1, m2, hC⟩ := copies_of t2
  obtain ⟨bb, hb, _⟩ := DataW.trod_bool Tryd.underlying4 t3
  simp at hb
  subst hb
  have hw := (open_weight Tryd.underlying55 t1 q1).1
  have hM : reachBytes = 140737488351232 := rfl
  rw [kb, hM] at hw
  unfold maxLen at m2
  exact ⟨z0, A, L, c, AC, C, cc, bb, rfl, i0, by omega, hL, by omega, hC⟩
end
end Go.Proofs.YtbeggdahbhfhpaaDoor
