/-
  Slices of slices of bytes, and slices of bools, that came in.
-/
import Derived.Test.YthhlokhhhponbaaRow
import Derived.Deep.Matrix
import Derived.Deep.Grids
namespace Go.Proofs.Ythhlokhhhponbaa
open Go.RowKit Go.Deep Go.ChangeShapes Go.WideShapes
set_option linter.unusedVariables false

/-- a slice of slices of bytes that can be read -/
def Texts (w : World) (A : Option Addr) (L : List (List Nat)) : Prop :=
  L = [] ∨ ∃ b off, A = some ⟨b, off, none⟩ ∧ b < w.heap.size ∧ ∀ i, i < L.length → ∃ Ai ci, w.cell? ⟨b, off + i, none⟩ = some (.slice Ai (L.getD i []).length ci) ∧ Bytes w Ai (L.getD i [])
/-- a slice of bools that can be read -/
def Bools (w : World) (A : Option Addr) (L : List Bool) : Prop :=
  L = [] ∨ ∃ b off, A = some ⟨b, off, none⟩ ∧ b < w.heap.size ∧ ∀ i, i < L.length → w.cell? ⟨b, off + i, none⟩ = some (.bool (L.getD i false))

theorem add_plain (b off i : Nat) : (⟨b, off, none⟩ : Addr).add i = ⟨b, off + i, none⟩ := by unfold Addr.add; split <;> simp_all

theorem Texts.of_below {w w' : World} {A : Option Addr} {L : List (List Nat)} {B : Nat} (h : Texts w A L) (hb : Below B w w') (hB : w.heap.size ≤ B) : Texts w' A L := by
  rcases h with rfl | ⟨b, off, rfl, hlt, hc⟩
  · exact .inl rfl
  · refine .inr ⟨b, off, rfl, by have := hb.size; omega, fun i hi => ?_⟩
    obtain ⟨Ai, ci, h1, h2⟩ := hc i hi
    exact ⟨Ai, ci, (hb.cell (p := ⟨b, off + i, none⟩) (by show b < B; omega)).trans h1, h2.of_below hb hB⟩
theorem Bools.of_below {w w' : World} {A : Option Addr} {L : List Bool} {B : Nat} (h : Bools w A L) (hb : Below B w w') (hB : w.heap.size ≤ B) : Bools w' A L := by
  rcases h with rfl | ⟨b, off, rfl, hlt, hc⟩
  · exact .inl rfl
  · exact .inr ⟨b, off, rfl, by have := hb.size; omega, fun i hi => (hb.cell (p := ⟨b, off + i, none⟩) (by show b < B; omega)).trans (hc i hi)⟩

section
variable {H : Type} {enc : TypeId × Value → H} {w : World}
theorem texts_of {fuel : Nat} {a : Option Addr} {len cap : Nat} {x : DataW H × List MemPlace} (h : DataW.trod enc Try.prog w 0 (fun _ => true) true fuel 29 [.slice a len cap] = some x) :
    ∃ L : List (List Nat), L.length = len ∧ len ≤ cap ∧ cap ≤ maxLen ∧ Texts w a L := by
  rcases open_int_rows Try.underlying29 Try.underlying22 Try.underlying5 (by kernel_rfl) (by kernel_rfl) h with ⟨hcs, _⟩ | ⟨x, l, c, A, Ln, C, Z, hcs, _, hl, hm, _, hr⟩
  · simp at hcs
    obtain ⟨rfl, rfl, rfl⟩ := hcs
    exact ⟨[], rfl, Nat.le_refl _, Nat.zero_le _, .inl rfl⟩
  · simp at hcs
    obtain ⟨rfl, rfl, rfl⟩ := hcs
    have each : ∀ r, r < cap → ∃ l : List Nat, l.length = Ln r ∧ Bytes w (A r) l := fun r hr' => by
      obtain ⟨_, h1, h2, h3, h4, h5, h6⟩ := hr r hr'
      have hrow : (A r = none ∧ Ln r = 0 ∧ C r = 0 ∧ Z r = []) ∨ ∃ y, A r = some y ∧ Ln r ≤ C r ∧ C r ≤ maxLen ∧ (Z r).length = C r ∧ (∀ i, i < (Z r).length → w.cell? (y.add i) = some (.int .u8 ((Z r).getD i 0))) ∧ ∀ n ∈ Z r, (Lit.int .u8 n).wf = true := by
        cases hA : A r with
        | none =>
          have hC := h5 hA
          exact .inl ⟨rfl, by omega, hC, List.eq_nil_of_length_eq_zero (by omega)⟩
        | some y => exact .inr ⟨y, rfl, h1, h2, h3, fun i hi => (h6 y hA).2 i (by omega), h4⟩
      obtain ⟨l, hl', _, _, hB⟩ := row_bytes hrow
      exact ⟨l, hl', hB⟩
    obtain ⟨F, hF⟩ := choose_lt (α := List Nat) (p := fun r l => l.length = Ln r ∧ Bytes w (A r) l) each
    refine ⟨(List.range len).map F, by simp, hl, hm, ?_⟩
    rcases Nat.eq_zero_or_pos len with h0 | h0
    · subst h0; exact .inl rfl
    · obtain ⟨c0, _⟩ := hr 0 (by omega)
      obtain ⟨b, off, spot⟩ := x
      have hspot : spot = none := by simpa [Addr.add] using World.cell?_spot c0
      subst hspot
      refine .inr ⟨b, off, rfl, World.block_lt_of_cell? w _ c0, fun i hi => ?_⟩
      simp at hi
      have hi2 : i < cap := by omega
      have hg : ((List.range len).map F).getD i [] = F i := by simp [List.getD_eq_getElem?_getD, hi]
      rw [hg]
      refine ⟨A i, C i, ?_, (hF i hi2).2⟩
      rw [(hF i hi2).1, ← add_plain]
      exact (hr i hi2).1
theorem bools_of {fuel : Nat} {a : Option Addr} {len cap : Nat} {x : DataW H × List MemPlace} (h : DataW.trod enc Try.prog w 0 (fun _ => true) true fuel 30 [.slice a len cap] = some x) :
    ∃ L : List Bool, L.length = len ∧ len ≤ cap ∧ cap ≤ maxLen ∧ Bools w a L := by
  rcases open_bools Try.underlying30 Try.underlying4 (by kernel_rfl) h with ⟨hcs, _⟩ | ⟨x, l, c, F, hcs, _, hl, hm, _, hr⟩
  · simp at hcs
    obtain ⟨rfl, rfl, rfl⟩ := hcs
    exact ⟨[], rfl, Nat.le_refl _, Nat.zero_le _, .inl rfl⟩
  · simp at hcs
    obtain ⟨rfl, rfl, rfl⟩ := hcs
    refine ⟨(List.range len).map F, by simp, hl, hm, ?_⟩
    rcases Nat.eq_zero_or_pos len with h0 | h0
    · subst h0; exact .inl rfl
    · have c0 := hr 0 (by omega)
      obtain ⟨b, off, spot⟩ := x
      have hspot : spot = none := by simpa [Addr.add] using World.cell?_spot c0
      subst hspot
      refine .inr ⟨b, off, rfl, World.block_lt_of_cell? w _ c0, fun i hi => ?_⟩
      simp at hi
      have hi2 : i < cap := by omega
      have hg : ((List.range len).map F).getD i false = F i := by simp [List.getD_eq_getElem?_getD, hi]
      rw [hg, ← add_plain]
      exact hr i hi2
end
end Go.Proofs.Ythhlokhhhponbaa
