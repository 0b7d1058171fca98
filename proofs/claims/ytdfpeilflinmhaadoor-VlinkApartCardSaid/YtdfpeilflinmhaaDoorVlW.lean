/-
  No port stands in two links; what another message turns.
-/
import Derived.Test.YtdfpeilflinmhaaDoorVlU
namespace Go.Proofs.YtdfpeilflinmhaaDoor
open Go.RowKit Go.Deep
set_option linter.unusedVariables false
set_option linter.unusedSimpArgs false

theorem vstand_iff : ∀ (l : List Int) (L : List Bool), (∀ z ∈ l, ofB z L.length = true) → ((standF L l).isSome = true ↔ l.Nodup ∧ ∀ z ∈ l, L.getD z.toNat false = false)
  | [], L, _ => by simp [standF]
  | d :: l, L, h => by
    have hd := h d (.head _)
    simp only [ofB, Bool.and_eq_true, decide_eq_true_eq] at hd
    unfold standF
    by_cases q : L.getD d.toNat false = true
    · rw [if_pos q]
      refine ⟨fun a => (by cases a), fun a => ?_⟩
      have := a.2 d (.head _)
      rw [q] at this
      cases this
    · rw [if_neg q, vstand_iff l (L.set d.toNat true) (by intro z hz; rw [List.length_set]; exact h z (.tail _ hz))]
      have key : ∀ z ∈ l, ((L.set d.toNat true).getD z.toNat false = false ↔ z ≠ d ∧ L.getD z.toNat false = false) := by
        intro z hz
        have hz2 := h z (.tail _ hz)
        simp only [ofB, Bool.and_eq_true, decide_eq_true_eq] at hz2
        by_cases e : z = d
        · subst e
          have hlt : z.toNat < L.length := by omega
          simp [List.getD_eq_getElem?_getD, List.getElem?_set, hlt]
        · have hne : d.toNat ≠ z.toNat := by omega
          simp [List.getD_eq_getElem?_getD, List.getElem?_set, hne, e]
      constructor
      · rintro ⟨a, b⟩
        refine ⟨List.nodup_cons.2 ⟨fun m => ((key d m).1 (b d m)).1 rfl, a⟩, fun z hz => ?_⟩
        rcases List.mem_cons.1 hz with rfl | hz
        · simpa using q
        · exact ((key z hz).1 (b z hz)).2
      · rintro ⟨a, b⟩
        obtain ⟨a1, a2⟩ := List.nodup_cons.1 a
        exact ⟨a2, fun z hz => (key z hz).2 ⟨fun e => a1 (e ▸ hz), b z (.tail _ hz)⟩⟩
theorem MayK.names_of {c : Conf} (h : MayK c) : ∀ z ∈ namesOf c.links, ofB z c.ports.length = true := fun z hz => by
  unfold namesOf at hz
  obtain ⟨x, hx, hz⟩ := List.mem_flatMap.1 hz
  obtain ⟨i, hi, rfl⟩ := List.getElem_of_mem hx
  have hl := h.link i hi
  have hgi : c.links.getD i default = c.links[i] := by rw [List.getD_eq_getElem?_getD, List.getElem?_eq_getElem hi]; rfl
  rw [hgi] at hl
  rcases List.mem_cons.1 hz with rfl | hz
  · exact hl.1
  · obtain ⟨j, hj, rfl⟩ := List.getElem_of_mem hz
    have := (hl.2.2.2.1 j hj).1
    rwa [List.getD_eq_getElem?_getD, List.getElem?_eq_getElem hj, Option.getD_some] at this
theorem MayK.once {c : Conf} (h : MayK c) : (namesOf c.links).Nodup :=
  ((vstand_iff _ _ (by intro z hz; rw [List.length_replicate]; exact h.names_of z hz)).1 h.names).1
theorem MayK.two {c : Conf} (h : MayK c) {i k : Nat} (hi : i < c.links.length) (hk : k < c.links.length) (hne : i ≠ k) :
    ∀ x ∈ (c.links.getD i default).source :: (c.links.getD i default).dests, ∀ y ∈ (c.links.getD k default).source :: (c.links.getD k default).dests, x ≠ y := by
  have h1 := h.once
  unfold namesOf at h1
  unfold List.Nodup at h1
  rw [List.pairwise_flatMap] at h1
  have h2 := List.pairwise_iff_getElem.1 h1.2
  have ei : c.links.getD i default = c.links[i] := by rw [List.getD_eq_getElem?_getD, List.getElem?_eq_getElem hi]; rfl
  have ek : c.links.getD k default = c.links[k] := by rw [List.getD_eq_getElem?_getD, List.getElem?_eq_getElem hk]; rfl
  rw [ei, ek]
  intro x hx y hy
  rcases Nat.lt_or_gt_of_ne hne with hl | hl
  · exact h2 i k hi hk hl x hx y hy
  · exact fun e => h2 k i hk hi hl y hy x hx e.symm
theorem MayK.src_ne {c : Conf} (h : MayK c) {i k : Nat} (hi : i < c.links.length) (hk : k < c.links.length) (hne : i ≠ k) : (c.links.getD i default).source ≠ (c.links.getD k default).source :=
  h.two hi hk hne _ (.head _) _ (.head _)

/-! ### Another message of one port -/
/-- as many messages as ports, one of them another one -/
def otherL (n : Nat) (L : List Ms) (s : Nat) (y : Ms) : List Ms := (List.range n).map fun i => if i = s then y else L.getD i default
theorem otherL_len (n : Nat) (L : List Ms) (s : Nat) (y : Ms) : (otherL n L s y).length = n := by simp [otherL]
theorem otherL_at {n : Nat} {L : List Ms} {s : Nat} {y : Ms} {i : Nat} (hi : i < n) : (otherL n L s y).getD i default = if i = s then y else L.getD i default := by
  unfold otherL
  rw [List.getD_eq_getElem?_getD, List.getElem?_map, List.getElem?_range hi]
  rfl
theorem isL_at (L : List Ms) (i : Nat) : isL L (i : Int) = (L.getD i default).is ∧ dtL L (i : Int) = (L.getD i default).data := by
  by_cases h : i < L.length
  · exact isL_yes h
  · obtain ⟨h1, h2⟩ := isL_no (L := L) (z := (i : Int)) (by simp; omega)
    rw [h1, h2, List.getD_eq_getElem?_getD, List.getElem?_eq_none (by omega)]
    exact ⟨rfl, rfl⟩
theorem otherL_same {n : Nat} {L : List Ms} {s : Nat} {y : Ms} {z : Int} (h0 : 0 ≤ z) (hz : z < n) (hs : z ≠ s) : isL (otherL n L s y) z = isL L z ∧ dtL (otherL n L s y) z = dtL L z := by
  obtain ⟨i, rfl⟩ := Int.eq_ofNat_of_zero_le h0
  rw [(isL_at _ i).1, (isL_at _ i).2, (isL_at _ i).1, (isL_at _ i).2, otherL_at (by omega), if_neg (by omega)]
  exact ⟨rfl, rfl⟩
theorem cnd_congr {isF isF' : Int → Bool} {dtF dtF' : Int → List Nat} {x : Lr} (h1 : isF x.src = isF' x.src) (h2 : dtF x.src = dtF' x.src) : cndB isF dtF x = cndB isF' dtF' x := by
  unfold cndB; rw [h1, h2]
theorem apart_pack {c : Conf} (hm : MayK c) {k : Nat} (hk : k < c.links.length) (L : List Ms) (y : Ms) (j : Nat) (hj : ¬ ((lrF c k).off.toNat ≤ j ∧ j < (lrF c k).off.toNat + 1 + (lrF c k).siz.toNat)) :
    (packF (isL L) (dtL L) zero64 (ownL c (nodeF c (c.links.getD k default).source) c.links.length)).getD j 0 =
      (packF (isL (otherL c.ports.length L (c.links.getD k default).source.toNat y)) (dtL (otherL c.ports.length L (c.links.getD k default).source.toNat y)) zero64 (ownL c (nodeF c (c.links.getD k default).source) c.links.length)).getD j 0 := by
  have hf := own_fit hm (node := nodeF c (c.links.getD k default).source) (Nat.le_refl _)
  have ha := own_away hm (nodeF c (c.links.getD k default).source) _ (Nat.le_refl _)
  by_cases he : ∃ x ∈ ownL c (nodeF c (c.links.getD k default).source) c.links.length, x.off.toNat ≤ j ∧ j < x.off.toNat + 1 + x.siz.toNat
  · obtain ⟨x, hx, h1, h2⟩ := he
    rw [packF_in (by simp [zero64]) hf ha hx h1 h2, packF_in (by simp [zero64]) hf ha hx h1 h2]
    obtain ⟨i, hi, _, rfl⟩ := ownL_mem hx
    have hik : i ≠ k := fun e => hj (by subst e; exact ⟨h1, h2⟩)
    have hne := hm.src_ne hi hk hik
    have hof := hm.src hi
    have hof2 := hm.src hk
    simp only [ofB, Bool.and_eq_true, decide_eq_true_eq] at hof hof2
    obtain ⟨s1, s2⟩ := otherL_same (n := c.ports.length) (L := L) (s := (c.links.getD k default).source.toNat) (y := y) (z := (c.links.getD i default).source) hof.1 (by omega) (by omega)
    have s2' : dtL (otherL c.ports.length L (c.links.getD k default).source.toNat y) (lrF c i).src = dtL L (lrF c i).src := s2
    rw [cnd_congr (x := lrF c i) s1 s2', s2']
  · have hout : ∀ x ∈ ownL c (nodeF c (c.links.getD k default).source) c.links.length, j < x.off.toNat ∨ x.off.toNat + 1 + x.siz.toNat ≤ j := fun x hx => by
      rcases Nat.lt_or_ge j x.off.toNat with h | h
      · exact .inl h
      · rcases Nat.lt_or_ge j (x.off.toNat + 1 + x.siz.toNat) with h2 | h2
        · exact absurd ⟨x, hx, h, h2⟩ he
        · exact .inr h2
    rw [packF_out j _ _ (by simp [zero64]) hf hout, packF_out j _ _ (by simp [zero64]) hf hout]
end Go.Proofs.YtdfpeilflinmhaaDoor
