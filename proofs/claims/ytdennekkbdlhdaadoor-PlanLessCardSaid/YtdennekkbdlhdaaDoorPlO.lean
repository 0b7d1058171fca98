/-
  Data that came in: structs, and slices, opened field by field, element by element.
-/
import Derived.Test.YtdennekkbdlhdaaDoorPl
namespace Go.Proofs.YtdennekkbdlhdaaDoor
open Go.RowKit Go.Deep Go.ChangeShapes Go.WideShapes
set_option linter.unusedVariables false

section
variable {H : Type} {enc : TypeId × Value → H} {w : World}

theorem i64_wf {z : Int} (h : (Lit.int .i64 z).wf = true) : I64 z := bounds_i64 h

theorem field_of {P : Program} {base : Nat} {spare : Nat → Bool} {held : Bool} {t : TypeId} {fs : Array Field} {fuel : Nat} {cs : List Value} {x : DataW H × List MemPlace} (hs : P.underlying t = some (.struct fs)) (hone : oneCellFields P fs = true)
    (h : DataW.trod enc P w base spare held fuel t cs = some x) (i : Nat) (f : Field) (hf : fs[i]? = some f) (hi : i < P.cellsOf t) : ∃ v m y, cs[i]? = some v ∧ DataW.trod enc P w base spare held m f.type [v] = some y := by
  obtain ⟨xs, n, _, rfl, hl, hlen, hfs⟩ := DataW.trod_struct hs h
  have h1 := hfs i f hf
  obtain ⟨o, k⟩ := hone_of hone i f hf
  have hx : i < xs.length := by
    rw [hlen]
    rcases Nat.lt_or_ge i fs.size with h2 | h2
    · exact h2
    · rw [Array.getElem?_eq_none h2] at hf; cases hf
  rw [o, k, List.getElem?_eq_getElem hx] at h1
  have hi' : i < cs.length := by omega
  rw [List.drop_eq_getElem_cons hi', List.take_succ_cons, List.take_zero] at h1
  exact ⟨cs[i], n, xs[i], List.getElem?_eq_getElem hi', h1⟩

theorem int_field {base : Nat} {spare : Nat → Bool} {held : Bool} {t : TypeId} {fs : Array Field} {fuel : Nat} {cs : List Value} {x : DataW H × List MemPlace} (hs : Tryd.prog.underlying t = some (.struct fs)) (hone : oneCellFields Tryd.prog fs = true)
    (h : DataW.trod enc Tryd.prog w base spare held fuel t cs = some x) (i : Nat) (f : Field) (hf : fs[i]? = some f) (hft : f.type = 3) (hi : i < Tryd.prog.cellsOf t) : ∃ z, cs[i]? = some (.int .i64 z) ∧ I64 z := by
  obtain ⟨v, m, y, h1, h2⟩ := field_of hs hone h i f hf hi
  rw [hft] at h2
  obtain ⟨z, h3, _, h4⟩ := DataW.trod_int Tryd.underlying3 h2
  simp at h3
  exact ⟨z, h3 ▸ h1, i64_wf h4⟩

/-- any slice of elements of which each opens by 'each': where they lie -/
theorem lies_of {α : Type} [Inhabited α] {t e : TypeId} {k fuel : Nat} {v : Value} {x : DataW H × List MemPlace} {p : α → Nat → Nat → Prop}
    (ht : Tryd.prog.underlying t = some (.slice e)) (hk : Tryd.prog.cellsOf e = k) (hk0 : 0 < k)
    (each : ∀ n b o cs (y : DataW H × List MemPlace), cs.length = k → (∀ j, j < k → w.cell? ⟨b, o + j, none⟩ = cs[j]?) → DataW.trod enc Tryd.prog w 0 (fun _ => true) true n e cs = some y → ∃ z : α, p z b o)
    (h : DataW.trod enc Tryd.prog w 0 (fun _ => true) true fuel t [v] = some x) :
    ∃ (A : Option Addr) (L : List α) (c : Nat), v = .slice A L.length c ∧ L.length ≤ c ∧ c ≤ maxLen ∧ Lies w A L.length k (fun i b o => p (L.getD i default) b o) ∧ (L = [] ∨ ∀ z ∈ L, ∃ b o, p z b o) := by
  rcases open_slice ht h with ⟨hcs, _⟩ | ⟨a, len, cap, m, n, D, Pl, hcs, _, hl, hm, hmm, _, hr⟩
  · simp at hcs
    subst hcs
    exact ⟨none, [], 0, rfl, Nat.le_refl _, Nat.zero_le _, .inl rfl, .inl rfl⟩
  · simp at hcs
    subst hcs
    simp only [if_true] at hmm
    rw [hk] at hr
    rcases Nat.eq_zero_or_pos len with h0 | h0
    · subst h0
      exact ⟨some a, [], cap, rfl, Nat.zero_le _, hm, .inl rfl, .inl rfl⟩
    · obtain ⟨cs0, c0, _⟩ := hr 0 (by omega)
      obtain ⟨_, l0, g0⟩ := World.cells?_some c0
      have g1 := g0 0 (by omega)
      rw [List.getElem?_eq_getElem (by omega)] at g1
      obtain ⟨b, off, spot⟩ := a
      have hspot : spot = none := by simpa [Addr.add] using World.cell?_spot g1
      subst hspot
      have all : ∀ i, i < len → ∃ z : α, p z b (off + i * k) := fun i hi => by
        obtain ⟨cs', c1, h1⟩ := hr i (by omega)
        obtain ⟨_, l1, g2⟩ := World.cells?_some c1
        refine each n b (off + i * k) cs' _ l1 (fun j hj => ?_) h1
        have := g2 j hj
        rwa [plain_add, plain_add] at this
      obtain ⟨F, hF⟩ := choose_lt (α := α) (p := fun i z => p z b (off + i * k)) all
      refine ⟨some ⟨b, off, none⟩, (List.range len).map F, cap, by simp, by simpa using hl, hm, ?_, ?_⟩
      · have hlt : b < w.heap.size := by
          have := World.block_lt_of_cell? w _ g1
          simpa [plain_add] using this
        refine .inr ⟨b, off, rfl, hlt, fun i hi => ?_⟩
        simp at hi
        have hg : ((List.range len).map F).getD i default = F i := by simp [List.getD_eq_getElem?_getD, hi]
        rw [hg]
        exact hF i hi
      · refine .inr fun z hz => ?_
        simp at hz
        obtain ⟨i, hi, rfl⟩ := hz
        exact ⟨b, _, hF i hi⟩

theorem ints_of {fuel : Nat} {v : Value} {x : DataW H × List MemPlace} (h : DataW.trod enc Tryd.prog w 0 (fun _ => true) true fuel 28 [v] = some x) :
    ∃ (A : Option Addr) (L : List Int) (c : Nat), v = .slice A L.length c ∧ L.length ≤ c ∧ c ≤ maxLen ∧ Ints w A L := by
  obtain ⟨A, L, c, h1, h2, h3, h4, h5⟩ := lies_of (α := Int) (k := 1) (p := fun z b o => w.cell? ⟨b, o, none⟩ = some (.int .i64 z) ∧ I64 z) Tryd.underlying28 (by kernel_rfl) (by omega)
    (fun n b o cs y hl hc ht => by
      obtain ⟨z, rfl, _, hz⟩ := DataW.trod_int Tryd.underlying3 ht
      exact ⟨z, by simpa using hc 0 (by omega), i64_wf hz⟩) h
  refine ⟨A, L, c, h1, h2, h3, fun z hz => ?_, ?_⟩
  · rcases h5 with rfl | h5
    · cases hz
    · obtain ⟨b, o, hp⟩ := h5 z hz
      exact hp.2
  · rcases h4 with h4 | ⟨b, off, e, hlt, hp⟩
    · exact .inl h4
    · exact .inr ⟨b, off, e, hlt, fun i hi => (hp i hi).1⟩

end
end Go.Proofs.YtdennekkbdlhdaaDoor
