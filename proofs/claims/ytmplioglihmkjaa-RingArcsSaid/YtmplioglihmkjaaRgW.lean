/-
  Arcs sorted by where they begin.
-/
import Derived.Test.YtmplioglihmkjaaRgU
import Derived.Test.YtmplioglihmkjaaShelfS
import Derived.Shelf.SlSortCmp.NoneTotal
namespace Go.Proofs.Ytmplioglihmkjaa
open Go.RowKit Go.Shelf
set_option linter.unusedVariables false
set_option linter.unusedSimpArgs false
set_option maxRecDepth 100000

theorem ltS (x y : SA) : ltOf cfS x y = decide (x.1.1 < y.1.1) := by
  unfold ltOf cfS
  rw [Bool.eq_iff_iff, decide_eq_true_iff, decide_eq_true_iff]
  omega
theorem swoS : Go.Sort.SWO (ltOf cfS) where
  irrefl x := by rw [ltS]; simp
  trans x y z h1 h2 := by rw [ltS] at *; simp at *; omega
  ntrans x y z h1 h2 := by rw [ltS] at *; simp at *; omega
/-- may a sort hold it? -/
def okS (a : Ai) : Prop := 0 ≤ a.1 ∧ a.1 < 1048576
theorem saL_of : ∀ l : List Ai, (∀ a ∈ l, okS a) → ∃ d : List SA, d.map (·.1) = l
  | [], _ => ⟨[], rfl⟩
  | a :: l, h => by
    obtain ⟨d, hd⟩ := saL_of l fun x hx => h x (List.mem_cons_of_mem _ hx)
    exact ⟨⟨a, h a (List.mem_cons_self ..)⟩ :: d, by rw [List.map_cons, hd]⟩
theorem flat_of (d : List SA) (j : Nat) (hj : j < d.length * 2) : (Go.Sort.flatK encS 2 d.toArray)[j]! = if j % 2 = 0 then .int .i64 ((d.map (·.1)).getD (j / 2) (0, 0)).1 else .int .i64 ((d.map (·.1)).getD (j / 2) (0, 0)).2 := by
  rw [Go.Sort.get_flatK _ _ _ _ (by simpa using hj)]
  have hlt : j / 2 < d.length := by omega
  have e : d.toArray[j / 2]! = d[j / 2] := by simp [hlt]
  have e2 : (d.map (·.1)).getD (j / 2) (0, 0) = (d[j / 2]).1 := by
    rw [List.getD_eq_getElem?_getD, List.getElem?_map, List.getElem?_eq_getElem hlt]; rfl
  rw [e, e2]
  rcases Nat.mod_two_eq_zero_or_one j with h | h <;> rw [h] <;> rfl
/-- arcs that lie in a row, in the sort's words -/
theorem holds_arcs {W : World} {g : Nat} {d : List SA} (h : Arcs W (some ⟨g, 0, none⟩) (d.map (·.1))) (hf : ∀ j, W.frozen? ⟨g, j, none⟩ = false) : Go.Sort.HoldsK encS 2 W g 0 d.toArray := by
  intro j hj
  rw [Go.Sort.size_flatK] at hj
  have hj' : j < d.length * 2 := by simpa using hj
  refine ⟨?_, hf _⟩
  rw [flat_of d j hj']
  obtain ⟨b, off, e, _, c0, c1⟩ := h.at (k := j / 2) (by simp; omega)
  obtain ⟨rfl, rfl⟩ : g = b ∧ 0 = off := by cases e; exact ⟨rfl, rfl⟩
  rcases Nat.mod_two_eq_zero_or_one j with hm | hm
  · rw [if_pos hm, show 0 + j = 0 + j / 2 * 2 by omega, c0]; rfl
  · rw [if_neg (by omega), show 0 + j = 0 + j / 2 * 2 + 1 by omega, c1]; rfl
theorem arcs_holds {W : World} {g : Nat} {d : List SA} (h : Go.Sort.HoldsK encS 2 W g 0 d.toArray) (hg : g < W.heap.size) (hi : ∀ z ∈ d.map (·.1), I64 z.1 ∧ I64 z.2) : Arcs W (some ⟨g, 0, none⟩) (d.map (·.1)) := by
  refine ⟨hi, .inr ⟨g, 0, rfl, hg, fun i hi => ?_⟩⟩
  rw [List.length_map] at hi
  have h0 := (h (i * 2) (by rw [Go.Sort.size_flatK]; simp; omega)).1
  have h1 := (h (i * 2 + 1) (by rw [Go.Sort.size_flatK]; simp; omega)).1
  rw [flat_of d _ (by omega), if_pos (by omega), show i * 2 / 2 = i by omega] at h0
  rw [flat_of d _ (by omega), if_neg (by omega), show (i * 2 + 1) / 2 = i by omega] at h1
  exact ⟨h0, h1⟩
theorem sort_below {B g m : Nat} {W : World} {d : Array SA} {os : Array Obj} (hB : B ≤ g) (hBW : B ≤ W.heap.size) : Below B W (sortWorldK encS 2 W g 0 m d os) := by
  refine ⟨rfl, rfl, rfl, size_sortWorldK_c _ _ _ _ _ _ _ _, fun k hk => ?_⟩
  show ((W.heap.modify g _) ++ os)[k]? = _
  rw [Array.getElem?_append_left (by simp; omega), Array.getElem?_modify, if_neg (by omega)]

/-- **the sort, by where they begin** -/
theorem sort_at (l : List Ai) (hl : ∀ a ∈ l, okS a) (hi : ∀ z ∈ l, I64 z.1 ∧ I64 z.2) (v : Value) (B : Nat) (W : World) (hO : OwnA W B v l) (hB : B ≤ W.heap.size) (hlen : l.length ≤ 1000) :
    Calls Try.prog 53 #[v, .func (.func 54) #[] #[]] W fun e w' => e = .returned (.tuple #[]) ∧
      ∃ (l' : List Ai) (A : Option Addr) (c : Nat), v = .slice A l'.length c ∧ (∀ a, a ∈ l' ↔ a ∈ l) ∧ l'.Pairwise (fun a b => a.1 ≤ b.1) ∧ l'.length = l.length ∧ Arcs w' A l' ∧ Below B W w' := by
  obtain ⟨A, c, rfl, hA⟩ := own_arcs hO hi
  by_cases h0 : l = []
  · subst h0
    have hn := AnyF.slices_SortFunc_none Try.sortArc A c (.func (.func 54) #[] #[]) W
    change Calls Try.prog 53 _ _ _ at hn
    refine hn.mono ?_
    rintro e w' ⟨rfl, rfl⟩
    exact ⟨rfl, [], A, c, rfl, fun a => Iff.rfl, List.Pairwise.nil, rfl, Arcs.nil _ _, Below.refl _ _⟩
  · have hpos : 0 < l.length := List.length_pos_iff.2 h0
    rcases hO.2 with ⟨h1, h2⟩ | ⟨g, cap, cur, e, hg, hh, _⟩
    · omega
    cases e
    obtain ⟨d, rfl⟩ := saL_of l hl
    rw [List.length_map] at hpos hlen ⊢
    have hgl : g < W.heap.size := (Array.getElem?_eq_some_iff.1 hh).1
    have hH := holds_arcs (d := d) hA fun j => by simp [World.frozen?, hh]
    have eg : ∀ args w, (callFunc 54 args).run Try.prog w = .ok (.enter 54 args) w := enters_of Try.func54 (by kernel_rfl) rfl
    have hcon := AnyQ.slices_SortFunc Try.sortArc 2 Try.isAgg41 Try.sizeOf41 encS (fun _ => rfl) (fun x v hv => by simp [encS] at hv; rcases hv with rfl | rfl <;> rfl) cfS swoS 54 #[] g 0 c d.toArray W eg (fun _ _ _ _ x y => cmp_at x y _) hH hgl (by simp; omega)
    change Calls Try.prog 53 _ _ _ at hcon
    rw [show d.toArray.size = d.length from List.size_toArray] at hcon
    refine hcon.mono ?_
    rintro e w' ⟨rfl, d', m, os, ⟨hs1, _, hp⟩, hsort, rfl⟩
    have hlen' : d'.size = d.length := by rw [hs1]; simp
    have hperm : d'.toList.Perm d := by
      have := hp
      rwa [show d'.extract 0 d.length = d' by rw [← hlen']; simp, show d.toArray.extract 0 d.length = d.toArray by simp] at this
    have hmem : ∀ a, a ∈ d'.toList.map (·.1) ↔ a ∈ d.map (·.1) := fun a => (hperm.map _).mem_iff
    have hll : (d'.toList.map (·.1)).length = d.length := by simp [hlen']
    refine ⟨rfl, d'.toList.map (·.1), some ⟨g, 0, none⟩, c, by rw [hll], hmem, ?_, hll, ?_, sort_below hg hB⟩
    · rw [List.pairwise_iff_getElem]
      intro i j hi hj hij
      simp only [List.getElem_map, Array.getElem_toList]
      rw [List.length_map, Array.length_toList] at hi hj
      have := hsort i j (Nat.zero_le _) hij (by omega)
      rw [ltS, getElem!_pos d' i (by omega), getElem!_pos d' j (by omega)] at this
      have := of_decide_eq_false this
      omega
    · have hHd := holdsK_sortWorldK encS 2 W g 0 m d.toArray d' os hgl hH hs1
      refine arcs_holds (d := d'.toList) (by simpa using hHd) (lt_sortWorldK _ _ _ _ _ _ _ _ hgl) fun z hz => hi z ((hmem z).1 hz)
end Go.Proofs.Ytmplioglihmkjaa
