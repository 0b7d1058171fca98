/-
  What covers, what is left, and what fits: reckoned for arcs as the memory holds them; an empty list of arcs that came in as nil or not.
-/
import Derived.Test.YtmplioglihmkjaaRgZ
namespace Go.Proofs.Ytmplioglihmkjaa
open Go.RowKit Go.Shelf
set_option linter.unusedVariables false
set_option linter.unusedSimpArgs false
set_option maxRecDepth 100000

theorem arcs_plain {w : World} {A : Option Addr} {l : List Ai} (h : Arcs w A l) (h0 : l ≠ []) : ∀ a, A = some a → a.spot = none := by
  rcases h.2 with h1 | ⟨b, off, rfl, _, _⟩
  · exact absurd (List.length_eq_zero_iff.1 h1) h0
  · rintro a e; cases e; rfl

/-- none of them meets just if all its places are free -/
theorem free_meets {n p s : Nat} {l : List Ar} (hl : ∀ a ∈ l, okA n a) (hp : p < n) (hs : s ≤ n) :
    (∀ a ∈ l, meetB n (p, s) a = false) ↔ freeAt (tk n l) n p s = true := by
  rw [free_iff]
  constructor
  · intro h k hk
    cases ht : tk n l ((p + k) % n) with
    | false => rfl
    | true =>
      unfold tk at ht
      obtain ⟨a, ha, hi⟩ := List.any_eq_true.1 ht
      have hlt := Nat.mod_lt (p + k) (show 0 < n by omega)
      have := (meet_iff (n := n) (a := (p, s)) (b := a) ⟨hp, hs⟩ (hl a ha)).2 ⟨(p + k) % n, hlt, (inA_iff ⟨hp, hs⟩ hlt).2 ⟨k, hk, rfl⟩, hi⟩
      rw [h a ha] at this; cases this
  · intro h a ha
    cases hm : meetB n (p, s) a with
    | false => rfl
    | true =>
      obtain ⟨q, hq, h1, h2⟩ := (meet_iff (n := n) (a := (p, s)) (b := a) ⟨hp, hs⟩ (hl a ha)).1 hm
      obtain ⟨k, hk, e⟩ := (inA_iff (a := (p, s)) ⟨hp, hs⟩ hq).1 h1
      have := h k hk
      dsimp only at e
      rw [← e] at this
      have ht : tk n l q = true := List.any_eq_true.2 ⟨a, ha, h2⟩
      rw [ht] at this; cases this
/-- a gap meets none of them -/
theorem gap_meets {n : Nat} {l : List Ar} (hn : 0 < n) (hl : ∀ a ∈ l, okA n a) {g : Ar} (hg : g ∈ gapF (tk n l) n) : ∀ a ∈ l, meetB n g a = false := by
  obtain ⟨hok, hfree⟩ := gapF_mem hn hg
  exact (free_meets (p := g.1) (s := g.2) hl hok.1 hok.2).2 (free_iff.2 hfree)
def widest (G : List Ar) : Nat := G.foldl (fun m g => max m g.2) 0
theorem widest_snoc (G : List Ar) (g : Ar) : widest (G ++ [g]) = max (widest G) g.2 := by simp [widest]
theorem widest_iff : ∀ (G : List Ar) (m s : Nat), s ≤ G.foldl (fun m g => max m g.2) m ↔ (s ≤ m ∨ ∃ g ∈ G, s ≤ g.2)
  | [], m, s => by simp
  | g :: G, m, s => by
    rw [List.foldl_cons, widest_iff G (max m g.2) s]
    constructor
    · rintro (h | ⟨x, hx, h⟩)
      · rcases Nat.le_total m g.2 with h1 | h1
        · exact .inr ⟨g, List.mem_cons_self .., by omega⟩
        · exact .inl (by omega)
      · exact .inr ⟨x, List.mem_cons_of_mem _ hx, h⟩
    · rintro (h | ⟨x, hx, h⟩)
      · exact .inl (by omega)
      · rcases List.mem_cons.1 hx with rfl | hx
        · exact .inl (by omega)
        · exact .inr ⟨x, hx, h⟩
theorem widest_fit {n s : Nat} {t : Nat → Bool} (hn : 0 < n) (hs : 1 ≤ s) : fitP t n s < n ↔ s ≤ widest (gapF t n) := by
  rw [fit_wide hn hs]
  unfold widest
  rw [widest_iff]
  constructor
  · exact fun h => .inr h
  · rintro (h | h)
    · omega
    · exact h
theorem widest_le {n : Nat} {t : Nat → Bool} (hn : 0 < n) : widest (gapF t n) ≤ n := by
  apply Nat.le_of_not_lt
  intro h
  have := (widest_iff (gapF t n) 0 (n + 1)).1 h
  rcases this with h | ⟨g, hg, h⟩
  · omega
  · have := (gapF_mem hn hg).1.2; omega
/-- what Fit answers, and when -/
theorem fit_pair (l : List Ai) (s : Int) (n : Nat) (hn : 0 < n) (hm : mayB n l = true) :
    (1 ≤ s ∧ s ≤ (widest (gapF (tkI n l) n) : Nat) ∧ ∃ q, q < n ∧ s ≤ (n : Int) ∧ fitV l s n = .tuple #[.int .i64 (q : Nat), .int .i64 0] ∧ (∀ p, p ≤ q → ((∀ a ∈ l.map tA, meetB n (p, s.toNat) a = false) ↔ p = q))) ∨
    (¬ (1 ≤ s ∧ s ≤ (widest (gapF (tkI n l) n) : Nat)) ∧ fitV l s n = .tuple #[.int .i64 0, .int .i64 2]) := by
  obtain ⟨_, hok⟩ := mayB_t hm
  have hl : ∀ a ∈ l.map tA, okA n a := fun b hb => by
    obtain ⟨a, ha, rfl⟩ := List.mem_map.1 hb
    exact (okB_t (hok a ha)).1
  have ht : tkI n l = tk n (l.map tA) := rfl
  have hw := widest_le (t := tkI n l) hn
  by_cases h : 1 ≤ s ∧ s ≤ (widest (gapF (tkI n l) n) : Nat)
  · obtain ⟨m, rfl⟩ := Int.eq_ofNat_of_zero_le (show 0 ≤ s by omega)
    have hm1 : 1 ≤ m := by omega
    have hmn : m ≤ n := by omega
    have hlt := (widest_fit (t := tkI n l) hn hm1).2 (by omega)
    obtain ⟨f1, f2⟩ := fit_spec (t := tkI n l) hn hm1 hmn
    refine .inl ⟨h.1, h.2, fitP (tkI n l) n m, hlt, by omega, ?_, fun p hp => ?_⟩
    · unfold fitV
      rw [if_pos hm, if_pos (by omega), Int.toNat_natCast, Int.toNat_natCast, if_neg (by omega)]
    · rw [Int.toNat_natCast, free_meets hl (by omega) hmn, ← ht]
      constructor
      · intro hf
        have := f2 p (by omega) hf
        omega
      · rintro rfl
        rcases f1 with h1 | ⟨_, h1⟩
        · omega
        · exact h1
  · refine .inr ⟨h, ?_⟩
    unfold fitV
    rw [if_pos hm]
    by_cases h2 : 1 ≤ s ∧ s ≤ (n : Int)
    · obtain ⟨m, rfl⟩ := Int.eq_ofNat_of_zero_le (show 0 ≤ s by omega)
      have hn1 : ¬ fitP (tkI n l) n m < n := fun hc => h ⟨h2.1, by have := (widest_fit (t := tkI n l) hn (show 1 ≤ m by omega)).1 hc; omega⟩
      have hle := (foldl_min ((gapF (tkI n l) n).flatMap (cands n m)) n).1
      have e : fitP (tkI n l) n m = n := by unfold fitP at *; omega
      rw [if_pos h2, Int.toNat_natCast, Int.toNat_natCast, if_pos e]
    · rw [if_neg h2]

theorem meetV_ok {m : Nat} {a b : Ai} (h0 : 0 < m) (h1 : m ≤ 1000) (ha : okB m a = true) (hb : okB m b = true) : meetV a b m = .tuple #[.bool (meetB m (tA a) (tA b)), .int .i64 0] := by
  unfold meetV
  rw [show ringB m = true from decide_eq_true (by omega), ha, hb]; rfl
theorem okB_of {m : Nat} {g : Ar} (h : okA m g) : okB m ((g.1 : Int), (g.2 : Int)) = true := by
  obtain ⟨h1, h2⟩ := h
  exact decide_eq_true (by dsimp only; omega)
theorem tA_cast (g : Ar) : tA ((g.1 : Int), (g.2 : Int)) = g := by unfold tA; simp
theorem sumL_from : ∀ (k : List Ar) (z : Nat), k.foldl (fun s a => s + a.2) z = z + sumL k
  | [], z => by simp [sumL]
  | a :: k, z => by
    have h1 := sumL_from k (z + a.2)
    have h2 := sumL_from k (0 + a.2)
    unfold sumL at *
    rw [List.foldl_cons, List.foldl_cons, h1, h2]; omega
theorem sumL_append (l k : List Ar) : sumL (l ++ k) = sumL l + sumL k := by
  have := sumL_from k (sumL l)
  rw [← this]; unfold sumL; rw [List.foldl_append]
theorem widest_take (G : List Ar) (k : Nat) : widest (G.take k) ≤ widest G := by
  rcases (widest_iff (G.take k) 0 (widest (G.take k))).1 (Nat.le_refl _) with h | ⟨g, hg, h⟩
  · omega
  · exact (widest_iff G 0 _).2 (.inr ⟨g, List.mem_of_mem_take hg, h⟩)
theorem sumL_take (l : List Ar) (k : Nat) : sumL (l.take k) ≤ sumL l := by
  have := sumL_append (l.take k) (l.drop k)
  rw [List.take_append_drop] at this
  omega
/-- a place in memory keeps what it holds -/
theorem keep_cell {V V' : World} (hb : Below V.heap.size V V') {a o : Nat} {v : Value} (h : V.cell? ⟨a, o, none⟩ = some v) : V'.cell? ⟨a, o, none⟩ = some v := by
  have hlt : a < V.heap.size := World.block_lt_of_cell? V _ h
  exact (hb.cell (p := ⟨a, o, none⟩) hlt).trans h
/-- two arcs that lie in memory -/
def Tc (W0 V : World) (xb xo lb lo : Nat) (x y : Ai) : Prop :=
  V.cell? ⟨xb, xo, none⟩ = some (.int .i64 x.1) ∧ V.cell? ⟨xb, xo + 1, none⟩ = some (.int .i64 x.2) ∧ V.cell? ⟨lb, lo, none⟩ = some (.int .i64 y.1) ∧ V.cell? ⟨lb, lo + 1, none⟩ = some (.int .i64 y.2) ∧ Below W0.heap.size W0 V
theorem Tc.on {W0 V V' : World} {xb xo lb lo : Nat} {x y : Ai} (h : Tc W0 V xb xo lb lo x y) (hb : Below V.heap.size V V') : Tc W0 V' xb xo lb lo x y :=
  ⟨keep_cell hb h.1, keep_cell hb h.2.1, keep_cell hb h.2.2.1, keep_cell hb h.2.2.2.1, h.2.2.2.2.trans (hb.mono h.2.2.2.2.size)⟩
theorem toI_get (G : List Ar) (k : Nat) (h : k < G.length) : (toI G).getD k (0, 0) = (((G.getD k (0, 0)).1 : Int), ((G.getD k (0, 0)).2 : Int)) := by
  rw [List.getD_eq_getElem?_getD, List.getD_eq_getElem?_getD]
  unfold toI
  rw [List.getElem?_map, List.getElem?_eq_getElem h]; rfl
theorem memA_at {l : List Ar} {k : Nat} (h : k < l.length) : l.getD k (0, 0) ∈ l := by
  rw [List.getD_eq_getElem?_getD, List.getElem?_eq_getElem h]; exact List.getElem_mem _
end Go.Proofs.Ytmplioglihmkjaa
