/-
  The document's own row on links: what stands, and how both tell of names.
-/
import Derived.Test.YtbeggdahbhfhpaaDoorRckB
import Derived.Test.YtbeggdahbhfhpaaDoorDup
namespace Go.Proofs.YtbeggdahbhfhpaaDoor
open Go.RowKit Go.Deep
set_option linter.unusedVariables false
set_option linter.unusedSimpArgs false

theorem stand_iff : ∀ (l : List Int) (L : List Bool), (∀ z ∈ l, ofB z L.length = true) → ((standF L l).isSome = true ↔ l.Nodup ∧ ∀ z ∈ l, L.getD z.toNat false = false)
  | [], L, _ => by simp [standF]
  | d :: l, L, h => by
    have hd := h d (.head _)
    simp only [ofB, Bool.and_eq_true, decide_eq_true_eq] at hd
    unfold standF
    by_cases q : L.getD d.toNat false = true
    · rw [if_pos q]
      refine ⟨fun a => (by cases a), fun a => ?_⟩
      have := a.2 d (.head _)
      rw [q] at this
      cases this
    · rw [if_neg q, stand_iff l (L.set d.toNat true) (by intro z hz; rw [List.length_set]; exact h z (.tail _ hz))]
      have key : ∀ z ∈ l, ((L.set d.toNat true).getD z.toNat false = false ↔ z ≠ d ∧ L.getD z.toNat false = false) := by
        intro z hz
        have hz2 := h z (.tail _ hz)
        simp only [ofB, Bool.and_eq_true, decide_eq_true_eq] at hz2
        by_cases e : z = d
        · subst e
          have hlt : z.toNat < L.length := by omega
          simp [List.getD_eq_getElem?_getD, List.getElem?_set, hlt]
        · have hne : d.toNat ≠ z.toNat := by omega
          simp [List.getD_eq_getElem?_getD, List.getElem?_set, hne, e]
      constructor
      · rintro ⟨a, b⟩
        refine ⟨List.nodup_cons.2 ⟨fun m => ((key d m).1 (b d m)).1 rfl, a⟩, fun z hz => ?_⟩
        rcases List.mem_cons.1 hz with rfl | hz
        · simpa using q
        · exact ((key z hz).1 (b z hz)).2
      · rintro ⟨a, b⟩
        obtain ⟨a1, a2⟩ := List.nodup_cons.1 a
        exact ⟨a2, fun z hz => (key z hz).2 ⟨fun e => a1 (e ▸ hz), b z (.tail _ hz)⟩⟩
theorem nodup_of_count : ∀ (l : List Int), (∀ z ∈ l, l.count z ≤ 1) → l.Nodup
  | [], _ => List.nodup_nil
  | x :: l, h => List.nodup_cons.2 ⟨fun m => by
      have h1 := h x (.head _)
      rw [List.count_cons_self] at h1
      have := List.count_pos_iff.2 m
      omega, nodup_of_count l fun z hz => by
      have h1 := h z (.tail _ hz)
      rw [List.count_cons] at h1
      omega⟩
theorem stand_count : ∀ (l : List Int) (L L' : List Bool), (∀ z ∈ l, ofB z L.length = true) → standF L l = some L' → L'.count true = L.count true + l.length
  | [], L, L', _, h => by cases h; rfl
  | d :: l, L, L', h, hs => by
    have hd := h d (.head _)
    simp only [ofB, Bool.and_eq_true, decide_eq_true_eq] at hd
    unfold standF at hs
    by_cases q : L.getD d.toNat false = true
    · rw [if_pos q] at hs; cases hs
    · rw [if_neg q] at hs
      have ih := stand_count l (L.set d.toNat true) L' (by intro z hz; rw [List.length_set]; exact h z (.tail _ hz)) hs
      have hlt : d.toNat < L.length := by omega
      have hf : L[d.toNat] = false := by
        rw [List.getD_eq_getElem?_getD, List.getElem?_eq_getElem hlt] at q
        simpa using q
      rw [ih, List.count_set hlt, hf]
      simp
      omega
theorem stand_le (l : List Int) (n : Nat) (h : ∀ z ∈ l, ofB z n = true) (hs : (standF (List.replicate n false) l).isSome = true) : l.length ≤ n := by
  obtain ⟨L', hL⟩ := Option.isSome_iff_exists.1 hs
  have h1 := stand_count l _ L' (by simpa using h) hL
  have h2 := standF_len hL
  have h3 := List.count_le_length (a := true) (l := L')
  rw [List.length_replicate] at h2
  omega
theorem names_in (c : Conf) (l : List Lk) (h : ∀ x ∈ l, LinkOk c x) : ∀ z ∈ namesOf l, ofB z c.ports.length = true := by
  intro z hz
  unfold namesOf at hz
  obtain ⟨x, hx, hz⟩ := List.mem_flatMap.1 hz
  rcases List.mem_cons.1 hz with rfl | hz
  · exact (h x hx).1
  · obtain ⟨j, hj, rfl⟩ := List.getElem_of_mem hz
    have := ((h x hx).2.2.2.1 j hj).1
    rwa [List.getD_eq_getElem?_getD, List.getElem?_eq_getElem hj] at this
theorem mem_ok {c : Conf} {l : List Lk} (h : ∀ k, k < l.length → LinkOk c (l.getD k default)) : ∀ x ∈ l, LinkOk c x := by
  intro x hx
  obtain ⟨j, hj, rfl⟩ := List.getElem_of_mem hx
  have := h j hj
  rwa [List.getD_eq_getElem?_getD, List.getElem?_eq_getElem hj] at this
theorem names_once (c : Conf) (h : ∀ k, k < c.links.length → LinkOk c (c.links.getD k default)) :
    (standF (List.replicate c.ports.length false) (namesOf c.links)).isSome = true ↔ ∀ n : Nat, n < c.ports.length → (namesOf c.links).count (n : Int) ≤ 1 := by
  have hin := names_in c c.links (mem_ok h)
  rw [stand_iff _ _ (by simpa using hin)]
  constructor
  · rintro ⟨hd, _⟩ n hn
    by_cases hm : (n : Int) ∈ namesOf c.links
    · rw [nodup_count hd hm]; omega
    · rw [List.count_eq_zero.2 hm]; omega
  · intro hc
    refine ⟨nodup_of_count _ fun z hz => ?_, fun z hz => ?_⟩
    · have := hin z hz
      simp only [ofB, Bool.and_eq_true, decide_eq_true_eq] at this
      have h2 := hc z.toNat (by omega)
      rwa [Int.toNat_of_nonneg this.1] at h2
    · rw [List.getD_eq_getElem?_getD, List.getElem?_replicate]
      split <;> rfl
/-- too many names: some port's named twice -/
theorem names_over (c : Conf) (k : Nat) (h : ∀ j, j < c.links.length → LinkOk c (c.links.getD j default)) (hs : (standF (List.replicate c.ports.length false) (namesOf c.links)).isSome = true) : (namesOf (c.links.take k)).length ≤ c.ports.length := by
  refine stand_le _ _ (names_in c _ fun x hx => mem_ok h x (List.mem_of_mem_take hx)) ?_
  rw [names_take c.links k] at hs
  exact stand_part _ _ _ hs
def LkNode (c : Conf) (l : Lk) : Int := (c.parts.getD (c.ports.getD l.source.toNat default).part.toNat default).node
def LkEnd (c : Conf) (l : Lk) : Int := l.offset + 1 + (c.ports.getD l.source.toNat default).size
theorem links_apart (c : Conf) : ApartP (c.links.map (ptOf c)) ↔ ∀ i k, k < i → i < c.links.length → LkNode c (c.links.getD i default) = LkNode c (c.links.getD k default) →
    meetB (c.links.getD i default).offset (LkEnd c (c.links.getD i default)) (c.links.getD k default).offset (LkEnd c (c.links.getD k default)) = false := by
  have hg : ∀ i, i < c.links.length → (c.links.map (ptOf c)).getD i default = ptOf c (c.links.getD i default) := fun i hi => by
    rw [List.getD_eq_getElem?_getD, List.getElem?_map, List.getElem?_eq_getElem hi, List.getD_eq_getElem?_getD, List.getElem?_eq_getElem hi]
    rfl
  have he : ∀ l : Lk, (ptOf c l).hi = LkEnd c l := fun l => by unfold ptOf LkEnd; dsimp only; omega
  rw [apart_iff, List.length_map]
  refine ⟨fun h i k h1 h2 h3 => ?_, fun h i k h1 h2 h3 => ?_⟩
  · have := h i k h1 h2 (by rw [hg i h2, hg k (by omega)]; exact h3)
    rw [hg i h2, hg k (by omega), he, he] at this
    exact this
  · rw [hg i h2, hg k (by omega)] at h3 ⊢
    rw [he, he]
    exact h i k h1 h2 h3
theorem CfS.grown {w W W1 : World} {c : Conf} {d : Ad} (h0 : Glo w) (h1 : ConfAt w c d) (h : CfS w W c d) {row : Option Nat} (hg : W.grownBy W1 row) (hr : ∀ k, row = some k → w.heap.size < k) (hW : w.heap.size < W.heap.size) :
    CfS w W1 c d := by
  have hbel : Below w.heap.size w W1 := h.bel.grown hg h.bel.size (fun k e => by have := hr k e; omega)
  have hb2 : Below (w.heap.size + 1) W W1 := (Below.refl (w.heap.size + 1) W).grown hg hW (fun k e => by have := hr k e; omega)
  have hk : ∀ (o : Nat) (u : Value), W.cell? ⟨w.heap.size, o, none⟩ = some u → W1.cell? ⟨w.heap.size, o, none⟩ = some u := fun o u e => (hb2.cell (show w.heap.size < w.heap.size + 1 by omega)).trans e
  exact ⟨hbel, ⟨Nat.lt_of_lt_of_le h.x.lt hb2.size, hk _ _ h.x.c0, hk _ _ h.x.c1, hk _ _ h.x.c2, hk _ _ h.x.c3, hk _ _ h.x.c4, hk _ _ h.x.c5, hk _ _ h.x.c6, hk _ _ h.x.c7, hk _ _ h.x.c8, hk _ _ h.x.c9, hk _ _ h.x.c10, hk _ _ h.x.c11⟩,
    h0.below hbel (Nat.le_refl _), h1.of_below hbel (Nat.le_refl _)⟩
end Go.Proofs.YtbeggdahbhfhpaaDoor
