/-
  Tokens that came in, opened: where they lie, and what their texts count.
-/
import Derived.Test.YtohmenghlboalaaDoorPlOf
import Derived.Test.YtohmenghlboalaaDoorLxI0
namespace Go.Proofs.YtohmenghlboalaaDoor
open Go.RowKit Go.Deep Go.ChangeShapes Go.WideShapes
set_option linter.unusedVariables false

section
variable {H : Type} {enc : TypeId × Value → H} {w : World}

theorem tok_open {base : Nat} {spare : Nat → Bool} {held : Bool} {fuel : Nat} {cs : List Value} {x : DataW H × List MemPlace} (h : DataW.trod enc Tryd.prog w base spare held fuel 24 cs = some x) :
    ∃ z : Tv, (∀ j, j < 5 → cs[j]? = (tvC z)[j]?) ∧ ∃ parts, x.1 = .agg parts ∧ DataW.lit (.string z.t) ∈ parts := by
  obtain ⟨z0, e0, i0⟩ := int_field Tryd.underlying24 (by kernel_rfl) h 0 _ rfl rfl (by rw [show Tryd.prog.cellsOf 24 = 5 by kernel_rfl]; omega)
  obtain ⟨z2, e2, i2⟩ := int_field Tryd.underlying24 (by kernel_rfl) h 2 _ rfl rfl (by rw [show Tryd.prog.cellsOf 24 = 5 by kernel_rfl]; omega)
  obtain ⟨z3, e3, i3⟩ := int_field Tryd.underlying24 (by kernel_rfl) h 3 _ rfl rfl (by rw [show Tryd.prog.cellsOf 24 = 5 by kernel_rfl]; omega)
  obtain ⟨z4, e4, i4⟩ := int_field Tryd.underlying24 (by kernel_rfl) h 4 _ rfl rfl (by rw [show Tryd.prog.cellsOf 24 = 5 by kernel_rfl]; omega)
  obtain ⟨xs, n, _, rfl, hl, hlen, hfs⟩ := DataW.trod_struct Tryd.underlying24 h
  have h1 : DataW.trod enc Tryd.prog w base spare held n 9 ((cs.drop 1).take (Tryd.prog.cellsOf 9)) = xs[1]? := hfs 1 _ rfl
  rw [show Tryd.prog.cellsOf 9 = 1 by kernel_rfl] at h1
  rw [show Tryd.prog.cellsOf 24 = 5 by kernel_rfl] at hl
  match cs, hl with
  | [a, b, c, d, e], _ =>
    have hlen : xs.length = 5 := hlen
    rw [List.getElem?_eq_getElem (show 1 < xs.length by omega)] at h1
    simp only [List.drop_succ_cons, List.drop_zero, List.take_succ_cons, List.take_zero] at h1
    obtain ⟨s, h2, h3, _⟩ := DataW.trod_string Tryd.underlying9 h1
    obtain rfl : b = .string s := by simpa using h2
    simp only [List.getElem?_cons_zero, List.getElem?_cons_succ, Option.some.injEq] at e0 e2 e3 e4
    subst e0 e2 e3 e4
    refine ⟨⟨z0, byt s, z2, z3, z4⟩, ?_, _, rfl, ?_⟩
    · intro j hj
      show _ = [Value.int .i64 z0, .string (str (byt s)), .int .i64 z2, .int .i64 z3, .int .i64 z4][j]?
      rw [str_byt]
    · refine List.mem_map.2 ⟨xs[1], List.getElem_mem _, ?_⟩
      rw [h3]

theorem toks_of {fuel : Nat} {v : Value} {x : DataW H × List MemPlace} (h : DataW.trod enc Tryd.prog w 0 (fun _ => true) true fuel 22 [v] = some x) :
    ∃ (A : Option Addr) (L : List Tv) (c : Nat), v = .slice A L.length c ∧ Tvs w A L ∧
      (L = [] ∨ ∃ (D : Nat → DataW H) (rest : List (DataW H)), x.1 = .slice ((List.range L.length).map D) rest ∧ ∀ i, i < L.length → ∃ parts, D i = .agg parts ∧ DataW.lit (.string (L.getD i default).t) ∈ parts) := by
  rcases open_slice Tryd.underlying22 h with ⟨hcs, _⟩ | ⟨a, len, cap, m, n, D, Pl, hcs, _, hl, hm, hmm, rfl, hr⟩
  · simp at hcs
    subst hcs
    exact ⟨none, [], 0, rfl, .inl rfl, .inl rfl⟩
  · simp at hcs
    subst hcs
    simp only [if_true] at hmm
    rw [show Tryd.prog.cellsOf 24 = 5 by kernel_rfl] at hr
    rcases Nat.eq_zero_or_pos len with h0 | h0
    · subst h0
      exact ⟨some a, [], cap, rfl, .inl rfl, .inl rfl⟩
    · obtain ⟨cs0, c0, _⟩ := hr 0 (by omega)
      obtain ⟨_, l0, g0⟩ := World.cells?_some c0
      have g1 := g0 0 (by omega)
      rw [List.getElem?_eq_getElem (by omega)] at g1
      obtain ⟨b, off, spot⟩ := a
      have hspot : spot = none := by simpa [Addr.add] using World.cell?_spot g1
      subst hspot
      have all : ∀ i, i < len → ∃ z : Tv, TvS w b (off + i * 5) z ∧ ∃ parts, D i = .agg parts ∧ DataW.lit (.string z.t) ∈ parts := fun i hi => by
        obtain ⟨cs', c1, h1⟩ := hr i (by omega)
        obtain ⟨_, l1, g2⟩ := World.cells?_some c1
        obtain ⟨z, hz, parts, hp1, hp2⟩ := tok_open h1
        have hc : ∀ j, j < 5 → w.cell? ⟨b, off + i * 5 + j, none⟩ = (tvC z)[j]? := fun j hj => by
          have := g2 j hj
          rw [plain_add, plain_add] at this
          rw [this]; exact hz j hj
        exact ⟨z, ⟨hc 0 (by omega), hc 1 (by omega), hc 2 (by omega), hc 3 (by omega), hc 4 (by omega)⟩, parts, hp1, hp2⟩
      obtain ⟨F, hF⟩ := choose_lt (α := Tv) (p := fun i z => TvS w b (off + i * 5) z ∧ ∃ parts, D i = .agg parts ∧ DataW.lit (.string z.t) ∈ parts) all
      have hg : ∀ i, i < len → ((List.range len).map F).getD i default = F i := fun i hi => by simp [List.getD_eq_getElem?_getD, hi]
      have hlt : b < w.heap.size := by
        have := World.block_lt_of_cell? w _ g1
        simpa [plain_add] using this
      refine ⟨some ⟨b, off, none⟩, (List.range len).map F, cap, by simp, .inr ⟨b, off, rfl, hlt, fun i hi => ?_⟩, .inr ⟨D, (List.range (m - len)).map fun j => D (len + j), by simp, fun i hi => ?_⟩⟩
      · simp at hi
        rw [hg i hi]
        exact (hF i hi).1
      · simp at hi
        rw [hg i hi]
        exact (hF i hi).2
end
end Go.Proofs.YtohmenghlboalaaDoor
