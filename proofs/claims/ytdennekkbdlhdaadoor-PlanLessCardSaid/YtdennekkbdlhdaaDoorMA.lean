/-
  What fits where among what is taken: plain facts on stretches that are free.
  Several sizes, one behind the other: rooms, and what is left of them.
  Spans that lie in a slice; the document's own answers on them: whether a place is in one, and the least place that fits.
  Spans and numbers of one's own; the document's own list of places.
  The document's own list of places.
  The document's own free spans; lists that are alike.
  The document's own free spans; the program's small functions.
-/
import Derived.Test.YtdennekkbdlhdaaDoorPl
namespace Go.Proofs.YtdennekkbdlhdaaDoor

/-- a span, as the memory holds it -/
abbrev Ai := Int × Int
/-- is a place in one of them? -/
def inBP (l : List Ai) (p : Int) : Bool := l.any fun s => decide (s.1 ≤ p) && decide (p < s.2)
def tkn (l : List Ai) (p : Nat) : Bool := inBP l (p : Int)
theorem inB_iff {l : List Ai} {p : Int} : inBP l p = true ↔ ∃ s ∈ l, s.1 ≤ p ∧ p < s.2 := by
  unfold inBP
  rw [List.any_eq_true]
  constructor
  · rintro ⟨s, hs, h⟩
    rw [Bool.and_eq_true] at h
    exact ⟨s, hs, of_decide_eq_true h.1, of_decide_eq_true h.2⟩
  · rintro ⟨s, hs, h1, h2⟩
    exact ⟨s, hs, by rw [decide_eq_true h1, decide_eq_true h2]; rfl⟩
theorem inB_snoc (l : List Ai) (s : Ai) (p : Int) : inBP (l ++ [s]) p = (inBP l p || (decide (s.1 ≤ p) && decide (p < s.2))) := by
  unfold inBP; rw [List.any_append]; simp
theorem inB_mem {l l' : List Ai} (h : ∀ s, s ∈ l ↔ s ∈ l') (p : Int) : inBP l p = inBP l' p := by
  rw [Bool.eq_iff_iff, inB_iff, inB_iff]
  exact ⟨fun ⟨s, a, b⟩ => ⟨s, (h s).1 a, b⟩, fun ⟨s, a, b⟩ => ⟨s, (h s).2 a, b⟩⟩

/-- the stretches below n that are free, as long as can be -/
def addF (L : List (Nat × Nat)) (n : Nat) : List (Nat × Nat) := match L.getLast? with
  | some s => if s.2 = n then L.dropLast ++ [(s.1, n + 1)] else L ++ [(n, n + 1)]
  | none => [(n, n + 1)]
def freeTo (t : Nat → Bool) : Nat → List (Nat × Nat)
  | 0 => []
  | n + 1 => if t n then freeTo t n else addF (freeTo t n) n

theorem free_taken {t : Nat → Bool} {n : Nat} (h : t n = true) : freeTo t (n + 1) = freeTo t n := by
  show (if t n then _ else _) = _; rw [if_pos h]
theorem free_add {t : Nat → Bool} {n : Nat} (h : t n = false) : freeTo t (n + 1) = addF (freeTo t n) n := by
  show (if t n then _ else _) = _; rw [h]; rfl
theorem addF_snoc (L : List (Nat × Nat)) (s : Nat × Nat) (n : Nat) : addF (L ++ [s]) n = if s.2 = n then L ++ [(s.1, n + 1)] else L ++ [s] ++ [(n, n + 1)] := by
  unfold addF; rw [List.getLast?_concat]; simp
theorem addF_nil (n : Nat) : addF [] n = [(n, n + 1)] := rfl
theorem last_cases (L : List (Nat × Nat)) : L = [] ∨ ∃ M s, L = M ++ [s] := by
  rcases List.eq_nil_or_concat L with h | ⟨M, s, h⟩
  · exact .inl h
  · exact .inr ⟨M, s, by rw [h, List.concat_eq_append]⟩

/-- what holds of each of them -/
structure Gp (t : Nat → Bool) (n : Nat) (s : Nat × Nat) : Prop where
  lt : s.1 < s.2
  le : s.2 ≤ n
  fr : ∀ q, s.1 ≤ q → q < s.2 → t q = false
  hd : s.1 = 0 ∨ t (s.1 - 1) = true
  tl : s.2 < n → t s.2 = true

theorem free_all (t : Nat → Bool) : ∀ n, (∀ s ∈ freeTo t n, Gp t n s) ∧ (freeTo t n).Pairwise (fun a b => a.2 < b.1)
  | 0 => ⟨by simp [freeTo], by simp [freeTo]⟩
  | n + 1 => by
    obtain ⟨h1, h2⟩ := free_all t n
    cases ht : t n with
    | true =>
      rw [free_taken ht]
      refine ⟨fun s hs => ?_, h2⟩
      have g := h1 s hs
      refine ⟨g.lt, by have := g.le; omega, g.fr, g.hd, fun hl => ?_⟩
      rcases Nat.lt_or_ge s.2 n with h | h
      · exact g.tl h
      · have : s.2 = n := by have := g.le; omega
        rw [this]; exact ht
    | false =>
      rw [free_add ht]
      rcases last_cases (freeTo t n) with h0 | ⟨M, s, h0⟩
      · rw [h0, addF_nil]
        refine ⟨fun s hs => ?_, by simp⟩
        obtain rfl := List.mem_singleton.1 hs
        refine ⟨by simp, by simp, fun q a b => ?_, ?_, fun h => by simp at h⟩
        · obtain rfl : q = n := by simp at a b; omega
          exact ht
        · show n = 0 ∨ t (n - 1) = true
          rcases Nat.eq_zero_or_pos n with h | h
          · exact .inl h
          · obtain ⟨m, rfl⟩ : ∃ m, n = m + 1 := ⟨n - 1, by omega⟩
            refine .inr ?_
            cases hm : t m with
            | true => simpa using hm
            | false =>
              rw [free_add hm] at h0
              rcases last_cases (freeTo t m) with h3 | ⟨M, s, h3⟩
              · rw [h3, addF_nil] at h0; cases h0
              · rw [h3, addF_snoc] at h0
                split at h0 <;> simp at h0
      · rw [h0] at h1 h2 ⊢
        have g := h1 s (by simp)
        have hM : ∀ a ∈ M, a.2 < s.1 := fun a ha => (List.pairwise_append.1 h2).2.2 a ha s (by simp)
        have h2M := (List.pairwise_append.1 h2).1
        rw [addF_snoc]
        by_cases he : s.2 = n
        · rw [if_pos he]
          refine ⟨fun a ha => ?_, ?_⟩
          · rcases List.mem_append.1 ha with ha | ha
            · have g2 := h1 a (List.mem_append_left _ ha)
              refine ⟨g2.lt, by have := g2.le; omega, g2.fr, g2.hd, fun _ => g2.tl ?_⟩
              have := hM a ha; have := g.lt; omega
            · obtain rfl := List.mem_singleton.1 ha
              refine ⟨by have := g.lt; dsimp only; omega, by simp, fun q a b => ?_, g.hd, fun h => by simp at h⟩
              rcases Nat.lt_or_ge q n with h | h
              · exact g.fr q a (by omega)
              · obtain rfl : q = n := by simp at b; omega
                exact ht
          · rw [List.pairwise_append]
            exact ⟨h2M, by simp, fun a ha b hb => by obtain rfl := List.mem_singleton.1 hb; exact hM a ha⟩
        · rw [if_neg he]
          refine ⟨fun a ha => ?_, ?_⟩
          · rcases List.mem_append.1 ha with ha | ha
            · have g2 := h1 a ha
              have hlt : a.2 < n := by
                rcases List.mem_append.1 ha with h | h
                · have := hM a h; have := g.lt; have := g.le; omega
                · obtain rfl := List.mem_singleton.1 h; have := g.le; omega
              exact ⟨g2.lt, by omega, g2.fr, g2.hd, fun _ => g2.tl hlt⟩
            · obtain rfl := List.mem_singleton.1 ha
              have hts : t s.2 = true := g.tl (by have := g.le; omega)
              refine ⟨by simp, by simp, fun q a b => ?_, ?_, fun h => by simp at h⟩
              · obtain rfl : q = n := by simp at a b; omega
                exact ht
              · refine .inr ?_
                show t (n - 1) = true
                cases hm : t (n - 1) with
                | true => rfl
                | false =>
                  obtain ⟨m, rfl⟩ : ∃ m, n = m + 1 := ⟨n - 1, by have := g.le; have := g.lt; omega⟩
                  simp at hm
                  rw [free_add hm] at h0
                  rcases last_cases (freeTo t m) with h3 | ⟨M', s', h3⟩
                  · rw [h3, addF_nil] at h0
                    have := List.append_inj' (show [] ++ [(m, m + 1)] = M ++ [s] from h0) rfl
                    have := (List.cons.inj this.2).1
                    rw [← this] at he; exact absurd rfl he
                  · rw [h3, addF_snoc] at h0
                    split at h0
                    · have := List.append_inj' h0 rfl
                      have := (List.cons.inj this.2).1
                      rw [← this] at he; exact absurd rfl he
                    · have := List.append_inj' h0 rfl
                      have := (List.cons.inj this.2).1
                      rw [← this] at he; exact absurd rfl he
          · rw [List.pairwise_append]
            refine ⟨h2, by simp, fun a ha b hb => ?_⟩
            obtain rfl := List.mem_singleton.1 hb
            show a.2 < n
            rcases List.mem_append.1 ha with h | h
            · have := hM a h; have := g.lt; have := g.le; omega
            · obtain rfl := List.mem_singleton.1 h; have := g.le; omega
theorem free_gp {t : Nat → Bool} {n : Nat} {s : Nat × Nat} (h : s ∈ freeTo t n) : Gp t n s := (free_all t n).1 s h
theorem free_pw (t : Nat → Bool) (n : Nat) : (freeTo t n).Pairwise (fun a b => a.2 < b.1) := (free_all t n).2
/-- over what is taken -/
theorem free_skip {t : Nat → Bool} {a : Nat} : ∀ k, (∀ q, a ≤ q → q < a + k → t q = true) → freeTo t (a + k) = freeTo t a
  | 0, _ => rfl
  | k + 1, h => by
    rw [← Nat.add_assoc, free_taken (h (a + k) (by omega) (by omega))]
    exact free_skip k fun q h1 h2 => h q h1 (by omega)
theorem free_to {t : Nat → Bool} {a b : Nat} (hab : a ≤ b) (h : ∀ q, a ≤ q → q < b → t q = true) : freeTo t b = freeTo t a := by
  obtain ⟨k, rfl⟩ : ∃ k, b = a + k := ⟨b - a, by omega⟩
  exact free_skip k h
/-- a stretch that is free, behind what is taken -/
theorem free_run {t : Nat → Bool} {a : Nat} (hd : a = 0 ∨ t (a - 1) = true) : ∀ k, (∀ q, a ≤ q → q < a + (k + 1) → t q = false) → freeTo t (a + (k + 1)) = freeTo t a ++ [(a, a + (k + 1))]
  | 0, h => by
    rw [Nat.zero_add, free_add (h a (by omega) (by omega))]
    rcases last_cases (freeTo t a) with h0 | ⟨M, s, h0⟩
    · rw [h0]; rfl
    · have g := free_gp (t := t) (n := a) (s := s) (by rw [h0]; simp)
      rw [h0, addF_snoc, if_neg]
      intro e
      have g1 := g.lt
      rcases hd with rfl | hd
      · omega
      · have := g.fr (a - 1) (by omega) (by omega)
        rw [hd] at this; cases this
  | k + 1, h => by
    rw [← Nat.add_assoc, free_add (h (a + (k + 1)) (by omega) (by omega)), free_run hd k fun q h1 h2 => h q h1 (by omega), addF_snoc, if_pos rfl]
theorem free_more {t : Nat → Bool} {a b : Nat} (hd : a = 0 ∨ t (a - 1) = true) (hab : a < b) (h : ∀ q, a ≤ q → q < b → t q = false) : freeTo t b = freeTo t a ++ [(a, b)] := by
  obtain ⟨k, rfl⟩ : ∃ k, b = a + (k + 1) := ⟨b - a - 1, by omega⟩
  exact free_run hd k h
/-- what is free lies in one of them -/
theorem free_in {t : Nat → Bool} {p k : Nat} (hk : 0 < k) (hf : ∀ q, p ≤ q → q < p + k → t q = false) : ∀ n, p + k ≤ n → ∃ s ∈ freeTo t n, s.1 ≤ p ∧ p + k ≤ s.2
  | 0, h => by omega
  | n + 1, h => by
    rcases Nat.lt_or_ge n (p + k) with hl | hl
    · have ht := hf n (by omega) hl
      have hin : ∃ s ∈ freeTo t (n + 1), s.2 = n + 1 := by
        rw [free_add ht]
        rcases last_cases (freeTo t n) with h0 | ⟨M, s, h0⟩
        · rw [h0]; exact ⟨_, by simp [addF_nil]; rfl, rfl⟩
        · rw [h0, addF_snoc]
          split
          · exact ⟨_, by simp; exact .inr rfl, rfl⟩
          · exact ⟨_, by simp; exact .inr (.inr rfl), rfl⟩
      obtain ⟨s, hs, he⟩ := hin
      have g := free_gp hs
      refine ⟨s, hs, ?_, by omega⟩
      apply Nat.le_of_not_lt
      intro hlt
      rcases g.hd with h0 | h0
      · omega
      · have := hf (s.1 - 1) (by omega) (by have := g.lt; omega)
        rw [h0] at this; cases this
    · obtain ⟨s, hs, h1, h2⟩ := free_in hk hf n hl
      cases ht : t n with
      | true => rw [free_taken ht]; exact ⟨s, hs, h1, h2⟩
      | false =>
        rw [free_add ht]
        rcases last_cases (freeTo t n) with h0 | ⟨M, s', h0⟩
        · rw [h0] at hs; cases hs
        · rw [h0] at hs ⊢
          rw [addF_snoc]
          split
          · rename_i he
            rcases List.mem_append.1 hs with hs | hs
            · exact ⟨s, List.mem_append_left _ hs, h1, h2⟩
            · obtain rfl := List.mem_singleton.1 hs
              exact ⟨_, List.mem_append_right _ (List.mem_singleton.2 rfl), h1, by dsimp only; omega⟩
          · exact ⟨s, List.mem_append_left _ hs, h1, h2⟩

/-! ### the iterator's course -/
/-- behind the first of them, sorted by where they begin: how far it has come -/
def atF : List Ai → Int
  | [] => 0
  | s :: l => max s.2 (atF l)
def endG (l : List Ai) : Int := atF l
theorem atF_nonneg : ∀ l : List Ai, 0 ≤ atF l
  | [] => Int.le_refl _
  | s :: l => by have := atF_nonneg l; unfold atF; omega
theorem atF_ge {l : List Ai} {s : Ai} (h : s ∈ l) : s.2 ≤ atF l := by
  induction l with
  | nil => cases h
  | cons a l ih =>
    unfold atF
    rcases List.mem_cons.1 h with rfl | h
    · omega
    · have := ih h; omega
theorem atF_snoc : ∀ (l : List Ai) (s : Ai), atF (l ++ [s]) = max (atF l) s.2
  | [], s => by simp only [List.nil_append, atF]; omega
  | a :: l, s => by rw [List.cons_append]; unfold atF; rw [atF_snoc l s]; omega
/-- behind the greatest end: either it is 0, or the place ahead of it is taken -/
theorem atF_hd : ∀ l : List Ai, (∀ s ∈ l, s.1 < s.2) → atF l = 0 ∨ inBP l (atF l - 1) = true
  | [], _ => .inl rfl
  | s :: l, h => by
    by_cases h1 : atF l ≤ s.2
    · by_cases h2 : 0 < s.2
      · refine .inr ?_
        have e : atF (s :: l) = s.2 := by show max s.2 (atF l) = _; omega
        rw [e, inB_iff]
        exact ⟨s, by simp, by have := h s (by simp); omega, by omega⟩
      · refine .inl ?_
        have := atF_nonneg l
        show max s.2 (atF l) = 0; omega
    · have e : atF (s :: l) = atF l := by show max s.2 (atF l) = _; omega
      rw [e]
      rcases atF_hd l fun x hx => h x (by simp [hx]) with h2 | h2
      · exact .inl h2
      · refine .inr ?_
        obtain ⟨x, hx, h3⟩ := inB_iff.1 h2
        exact inB_iff.2 ⟨x, by simp [hx], h3⟩
/-- those that take a place that counts -/
def keepB (limit : Nat) (s : Ai) : Bool := decide (s.1 < s.2) && decide (s.1 < (limit : Int)) && decide (0 < s.2)
theorem keepB_iff {limit : Nat} {s : Ai} : keepB limit s = true ↔ s.1 < s.2 ∧ s.1 < (limit : Int) ∧ 0 < s.2 := by
  unfold keepB; simp [and_assoc]
theorem tkn_keep {l : List Ai} {limit p : Nat} (hp : p < limit) : tkn (l.filter (keepB limit)) p = tkn l p := by
  unfold tkn
  rw [Bool.eq_iff_iff, inB_iff, inB_iff]
  constructor
  · rintro ⟨s, hs, h⟩
    exact ⟨s, (List.mem_filter.1 hs).1, h⟩
  · rintro ⟨s, hs, h⟩
    exact ⟨s, List.mem_filter.2 ⟨hs, keepB_iff.2 ⟨by omega, by omega, by omega⟩⟩, h⟩
theorem free_congr {t u : Nat → Bool} : ∀ n, (∀ p, p < n → t p = u p) → freeTo t n = freeTo u n
  | 0, _ => rfl
  | n + 1, h => by
    have ih := free_congr n fun p hp => h p (by omega)
    cases ht : t n with
    | true => rw [free_taken ht, free_taken (by rw [← h n (by omega)]; exact ht), ih]
    | false => rw [free_add ht, free_add (by rw [← h n (by omega)]; exact ht), ih]
/-- **one step of it**: S is sorted, k of them are behind; a is how far it has come -/
theorem free_step {S : List Ai} {limit k : Nat} (hs : S.Pairwise fun a b => a.1 ≤ b.1) (hk : ∀ s ∈ S, keepB limit s = true) (hlt : k < S.length) :
    let a := atF (S.take k); let f := (S.getD k (0, 0)).1
    (a < f → freeTo (tkn S) (min f.toNat limit) = freeTo (tkn S) (min a.toNat limit) ++ [(a.toNat, f.toNat)]) ∧
    freeTo (tkn S) (min (atF (S.take (k + 1))).toNat limit) = if a < f then freeTo (tkn S) (min a.toNat limit) ++ [(a.toNat, f.toNat)] else freeTo (tkn S) (min a.toNat limit) := by
  intro a f
  have hmem : S.getD k (0, 0) ∈ S := by
    rw [List.getD_eq_getElem?_getD, List.getElem?_eq_getElem hlt]; exact List.getElem_mem hlt
  obtain ⟨x1, x2, x3⟩ := keepB_iff.1 (hk _ hmem)
  have htk : S.take (k + 1) = S.take k ++ [S.getD k (0, 0)] := by
    rw [List.take_succ_eq_append_getElem hlt, List.getD_eq_getElem?_getD, List.getElem?_eq_getElem hlt]; rfl
  have ha0 : 0 ≤ a := atF_nonneg _
  have hnext : atF (S.take (k + 1)) = max a (S.getD k (0, 0)).2 := by rw [htk, atF_snoc]
  have hlater : ∀ s ∈ S, s ∈ S.take k ∨ f ≤ s.1 := by
    intro s hsm
    obtain ⟨i, hi, rfl⟩ := List.mem_iff_getElem.1 hsm
    rcases Nat.lt_or_ge i k with h | h
    · exact .inl (List.mem_take_iff_getElem.2 ⟨i, by omega, rfl⟩)
    · refine .inr ?_
      show (S.getD k (0, 0)).1 ≤ _
      rw [List.getD_eq_getElem?_getD, List.getElem?_eq_getElem hlt]
      rcases Nat.lt_or_ge k i with h2 | h2
      · exact List.pairwise_iff_getElem.1 hs k i hlt hi h2
      · obtain rfl : i = k := by omega
        exact Int.le_refl _
  have hfl : a < f → f.toNat ≤ limit := fun h => by show (S.getD k (0, 0)).1.toNat ≤ limit; omega
  have hfree : ∀ q : Nat, a.toNat ≤ q → q < f.toNat → tkn S q = false := by
    intro q h1 h2
    cases hq : tkn S q with
    | false => rfl
    | true =>
      obtain ⟨s, hsm, h3, h4⟩ := inB_iff.1 hq
      rcases hlater s hsm with h5 | h5
      · have := atF_ge h5
        have : s.2 ≤ a := this
        omega
      · omega
  have hrun : a < f → freeTo (tkn S) (min f.toNat limit) = freeTo (tkn S) (min a.toNat limit) ++ [(a.toNat, f.toNat)] := by
    intro hlt2
    have := hfl hlt2
    rw [Nat.min_eq_left this, Nat.min_eq_left (by omega)]
    refine free_more ?_ (by omega) hfree
    rcases atF_hd (S.take k) (fun s h => (keepB_iff.1 (hk s (List.mem_of_mem_take h))).1) with h | h
    · exact .inl (by show (atF (S.take k)).toNat = 0; omega)
    · by_cases h0 : a = 0
      · exact .inl (by omega)
      · refine .inr ?_
        unfold tkn
        rw [show ((a.toNat - 1 : Nat) : Int) = a - 1 by omega]
        obtain ⟨s, h1, h2⟩ := inB_iff.1 h
        exact inB_iff.2 ⟨s, List.mem_of_mem_take h1, h2⟩
  refine ⟨hrun, ?_⟩
  have hin : ∀ q : Nat, f ≤ (q : Int) → (q : Int) < (S.getD k (0, 0)).2 → tkn S q = true := fun q h1 h2 => inB_iff.2 ⟨_, hmem, h1, h2⟩
  rw [hnext]
  split
  · rename_i h
    rw [← hrun h]
    have h1 := hfl h
    exact free_to (by show min (S.getD k (0, 0)).1.toNat limit ≤ _; omega) fun q h2 h3 => hin q (by show (S.getD k (0, 0)).1 ≤ _; omega) (by show _ < (S.getD k (0, 0)).2; omega)
  · rename_i h
    exact free_to (by omega) fun q h2 h3 => hin q (by omega) (by show _ < (S.getD k (0, 0)).2; omega)
/-- its end -/
theorem free_end {S : List Ai} {limit : Nat} (hk : ∀ s ∈ S, keepB limit s = true) :
    freeTo (tkn S) limit = if atF S < (limit : Int) then freeTo (tkn S) (min (atF S).toNat limit) ++ [((atF S).toNat, limit)] else freeTo (tkn S) (min (atF S).toNat limit) := by
  have ha0 := atF_nonneg S
  split
  · rename_i h
    rw [Nat.min_eq_left (by omega)]
    refine free_more ?_ (by omega) fun q h1 h2 => ?_
    · rcases atF_hd S (fun s h => (keepB_iff.1 (hk s h)).1) with h | h
      · exact .inl (by omega)
      · by_cases h0 : atF S = 0
        · exact .inl (by omega)
        · refine .inr ?_
          unfold tkn
          rw [show (((atF S).toNat - 1 : Nat) : Int) = atF S - 1 by omega]
          exact h
    · cases hq : tkn S q with
      | false => rfl
      | true =>
        obtain ⟨s, hsm, h3, h4⟩ := inB_iff.1 hq
        have := atF_ge hsm
        omega
  · rename_i h
    rw [Nat.min_eq_right (by omega)]

/-! ### the first place -/
def upF (n a : Nat) : Nat := (n + a - 1) / a * a
theorem upF_ge {n a : Nat} (ha : 0 < a) : n ≤ upF n a := by
  unfold upF
  have h1 := Nat.div_add_mod (n + a - 1) a
  have h2 := Nat.mod_lt (n + a - 1) ha
  rw [Nat.mul_comm] at h1
  omega
theorem upF_mod (n a : Nat) : upF n a % a = 0 := Nat.mul_mod_left _ _
theorem upF_le {n a p : Nat} (ha : 0 < a) (hp : p % a = 0) (h : n ≤ p) : upF n a ≤ p := by
  unfold upF
  obtain ⟨m, rfl⟩ : ∃ m, p = m * a := ⟨p / a, by have := Nat.div_add_mod p a; rw [Nat.mul_comm] at this; omega⟩
  refine Nat.mul_le_mul_right a ?_
  refine Nat.le_of_lt_succ ((Nat.div_lt_iff_lt_mul ha).2 ?_)
  rw [Nat.succ_mul]; omega
theorem upF_lt {n a : Nat} (ha : 0 < a) : upF n a < n + a := by
  unfold upF
  have h1 := Nat.div_add_mod (n + a - 1) a
  have h2 := Nat.mod_lt (n + a - 1) ha
  rw [Nat.mul_comm] at h1
  omega
/-- does a size fit there? -/
def fitsB (t : Nat → Bool) (size align limit p : Nat) : Bool := decide (p % align = 0) && decide (p + size ≤ limit) && (List.range size).all fun k => !t (p + k)
theorem fitsB_iff {t : Nat → Bool} {size align limit p : Nat} : fitsB t size align limit p = true ↔ p % align = 0 ∧ p + size ≤ limit ∧ ∀ q, p ≤ q → q < p + size → t q = false := by
  unfold fitsB
  rw [Bool.and_eq_true, Bool.and_eq_true, decide_eq_true_iff, decide_eq_true_iff, List.all_eq_true, and_assoc]
  refine and_congr_right fun _ => and_congr_right fun _ => ⟨fun h q h1 h2 => ?_, fun h k hk => ?_⟩
  · have := h (q - p) (by simp; omega)
    rw [show p + (q - p) = q by omega] at this
    simpa using this
  · rw [List.mem_range] at hk
    rw [h (p + k) (by omega) (by omega)]; rfl
/-- the least place at which it does -/
def firstF (t : Nat → Bool) (size align limit : Nat) : Option Nat := (List.range (limit + 1)).find? (fitsB t size align limit)
theorem firstF_some {t : Nat → Bool} {size align limit p : Nat} : firstF t size align limit = some p ↔ fitsB t size align limit p = true ∧ ∀ q, q < p → fitsB t size align limit q = false := by
  unfold firstF
  rw [List.find?_range_eq_some]
  constructor
  · rintro ⟨h1, _, h3⟩
    exact ⟨h1, fun q hq => by have := h3 q hq; simpa using this⟩
  · rintro ⟨h1, h2⟩
    have := (fitsB_iff.1 h1).2.1
    exact ⟨h1, by simp; omega, fun q hq => by rw [h2 q hq]; rfl⟩
theorem firstF_none {t : Nat → Bool} {size align limit : Nat} : firstF t size align limit = none ↔ ∀ q, fitsB t size align limit q = false := by
  unfold firstF
  rw [List.find?_eq_none]
  constructor
  · intro h q
    cases hq : fitsB t size align limit q with
    | false => rfl
    | true =>
      have := (fitsB_iff.1 hq).2.1
      exact absurd hq (h q (by simp; omega))
  · intro h q _
    rw [h q]; simp
theorem firstF_zero {t : Nat → Bool} {align limit : Nat} : firstF t 0 align limit = some 0 :=
  firstF_some.2 ⟨fitsB_iff.2 ⟨Nat.zero_mod _, by omega, fun q h1 h2 => by omega⟩, fun q h => by omega⟩
/-- does a stretch hold the size? -/
def holdB (size align : Nat) (s : Nat × Nat) : Bool := decide (upF s.1 align + size ≤ s.2)
/-- the first stretch that holds it says where -/
theorem first_hit {t : Nat → Bool} {size align limit : Nat} (ha : 0 < align) (hz : 0 < size) {pre post : List (Nat × Nat)} {s : Nat × Nat} (hL : freeTo t limit = pre ++ s :: post) (hp : ∀ x ∈ pre, holdB size align x = false) (hs : holdB size align s = true) :
    firstF t size align limit = some (upF s.1 align) := by
  have hm : s ∈ freeTo t limit := by rw [hL]; simp
  have g := free_gp hm
  have h1 : upF s.1 align + size ≤ s.2 := of_decide_eq_true hs
  refine firstF_some.2 ⟨fitsB_iff.2 ⟨upF_mod _ _, by have := g.le; omega, fun q h2 h3 => g.fr q (by have := upF_ge (n := s.1) ha; omega) (by omega)⟩, fun q hq => ?_⟩
  cases hf : fitsB t size align limit q with
  | false => rfl
  | true =>
    obtain ⟨f1, f2, f3⟩ := fitsB_iff.1 hf
    obtain ⟨s', hm', k1, k2⟩ := free_in hz f3 limit f2
    have hh : holdB size align s' = true := decide_eq_true (by have := upF_le ha f1 k1; omega)
    rw [hL] at hm'
    rcases List.mem_append.1 hm' with h | h
    · rw [hp s' h] at hh; cases hh
    · rcases List.mem_cons.1 h with rfl | h
      · have := upF_le ha f1 k1; omega
      · have hpw := free_pw t limit
        rw [hL] at hpw
        have := (List.pairwise_cons.1 (List.pairwise_append.1 hpw).2.1).1 s' h
        omega
theorem first_miss {t : Nat → Bool} {size align limit : Nat} (ha : 0 < align) (hz : 0 < size) (hp : ∀ x ∈ freeTo t limit, holdB size align x = false) : firstF t size align limit = none := by
  refine firstF_none.2 fun q => ?_
  cases hf : fitsB t size align limit q with
  | false => rfl
  | true =>
    obtain ⟨f1, f2, f3⟩ := fitsB_iff.1 hf
    obtain ⟨s', hm', k1, k2⟩ := free_in hz f3 limit f2
    have hh : holdB size align s' = true := decide_eq_true (by have := upF_le ha f1 k1; omega)
    rw [hp s' hm'] at hh; cases hh
theorem upF_mono {a b n : Nat} (h : a ≤ b) : upF a n ≤ upF b n := Nat.mul_le_mul_right _ (Nat.div_le_div_right (by omega))
/-- too far behind: so are all that come later -/
theorem first_stop {t : Nat → Bool} {size align limit : Nat} (ha : 0 < align) (hz : 0 < size) {pre post : List (Nat × Nat)} {s : Nat × Nat} (hL : freeTo t limit = pre ++ s :: post) (hp : ∀ x ∈ pre, holdB size align x = false) (hs : limit < upF s.1 align + size) :
    firstF t size align limit = none := by
  refine first_miss ha hz fun x hx => ?_
  have g := free_gp hx
  rw [hL] at hx
  rcases List.mem_append.1 hx with h | h
  · exact hp x h
  · refine decide_eq_false ?_
    have : s.1 ≤ x.1 := by
      rcases List.mem_cons.1 h with rfl | h
      · omega
      · have hpw := free_pw t limit
        have gs := free_gp (t := t) (n := limit) (s := s) (by rw [hL]; simp)
        rw [hL] at hpw
        have := (List.pairwise_cons.1 (List.pairwise_append.1 hpw).2.1).1 x h
        have := gs.lt
        omega
    have := upF_mono (n := align) this
    have := g.le
    omega
theorem firstF_congr {t u : Nat → Bool} {size align limit : Nat} (h : ∀ p, p < limit → t p = u p) : firstF t size align limit = firstF u size align limit := by
  have : ∀ p, fitsB t size align limit p = fitsB u size align limit p := fun p => by
    rw [Bool.eq_iff_iff, fitsB_iff, fitsB_iff]
    constructor
    · rintro ⟨a, b, c⟩; exact ⟨a, b, fun q h1 h2 => by rw [← h q (by omega)]; exact c q h1 h2⟩
    · rintro ⟨a, b, c⟩; exact ⟨a, b, fun q h1 h2 => by rw [h q (by omega)]; exact c q h1 h2⟩
  unfold firstF
  congr 1
  funext p; exact this p
end Go.Proofs.YtdennekkbdlhdaaDoor
namespace Go.Proofs.YtdennekkbdlhdaaDoor

/-- what rooms are, while t is taken -/
structure Rv (t : Nat → Bool) (align limit : Nat) (R : List (Nat × Nat)) : Prop where
  al : ∀ r ∈ R, r.1 % align = 0 ∧ r.2 ≤ limit
  fr : ∀ r ∈ R, ∀ q, r.1 ≤ q → q < r.2 → t q = false
  cv : ∀ p k, 0 < k → p % align = 0 → p + k ≤ limit → (∀ q, p ≤ q → q < p + k → t q = false) → ∃ r ∈ R, r.1 ≤ p ∧ p + k ≤ r.2
  od : R.Pairwise fun a b => a.2 ≤ b.1
def roomsOf (align : Nat) (L : List (Nat × Nat)) : List (Nat × Nat) := L.map fun s => (upF s.1 align, s.2)
theorem rooms_start {t : Nat → Bool} {align limit : Nat} (ha : 0 < align) : Rv t align limit (roomsOf align (freeTo t limit)) := by
  refine ⟨fun r hr => ?_, fun r hr q h1 h2 => ?_, fun p k hk hp hl hf => ?_, ?_⟩
  · obtain ⟨s, hs, rfl⟩ := List.mem_map.1 hr
    exact ⟨upF_mod _ _, (free_gp hs).le⟩
  · obtain ⟨s, hs, rfl⟩ := List.mem_map.1 hr
    have h1' : upF s.1 align ≤ q := h1
    exact (free_gp hs).fr q (by have := upF_ge (n := s.1) ha; omega) h2
  · obtain ⟨s, hs, h1, h2⟩ := free_in hk hf limit hl
    exact ⟨_, List.mem_map.2 ⟨s, hs, rfl⟩, upF_le ha hp h1, h2⟩
  · rw [roomsOf, List.pairwise_map]
    refine (free_pw t limit).imp fun {a b} h => ?_
    have := upF_ge (n := b.1) ha
    dsimp only; omega
/-- no room from 'lo' on holds the size, up to i -/
def roomB (size : Nat) (r : Nat × Nat) : Bool := decide (r.1 + size ≤ r.2)
theorem put_hit {t : Nat → Bool} {align limit size i : Nat} {R : List (Nat × Nat)} (h : Rv t align limit R) (hz : 0 < size) (hi : i < R.length) (hp : ∀ j, j < i → roomB size (R.getD j (0, 0)) = false) (hr : roomB size (R.getD i (0, 0)) = true) :
    firstF t size align limit = some (R.getD i (0, 0)).1 := by
  have hm : R.getD i (0, 0) ∈ R := by rw [List.getD_eq_getElem?_getD, List.getElem?_eq_getElem hi]; exact List.getElem_mem hi
  have h1 : (R.getD i (0, 0)).1 + size ≤ (R.getD i (0, 0)).2 := of_decide_eq_true hr
  obtain ⟨a1, a2⟩ := h.al _ hm
  refine firstF_some.2 ⟨fitsB_iff.2 ⟨a1, by omega, fun q h2 h3 => h.fr _ hm q h2 (by omega)⟩, fun q hq => ?_⟩
  cases hf : fitsB t size align limit q with
  | false => rfl
  | true =>
    obtain ⟨f1, f2, f3⟩ := fitsB_iff.1 hf
    obtain ⟨r, hr', k1, k2⟩ := h.cv q size hz f1 f2 f3
    obtain ⟨j, hj, rfl⟩ := List.mem_iff_getElem.1 hr'
    have ej : R.getD j (0, 0) = R[j] := by rw [List.getD_eq_getElem?_getD, List.getElem?_eq_getElem hj]; rfl
    have ei : R.getD i (0, 0) = R[i] := by rw [List.getD_eq_getElem?_getD, List.getElem?_eq_getElem hi]; rfl
    rcases Nat.lt_trichotomy j i with hlt | rfl | hlt
    · have := hp j hlt
      rw [ej] at this
      have := of_decide_eq_false this
      omega
    · rw [ei] at hq; omega
    · have := List.pairwise_iff_getElem.1 h.od i j hi hj hlt
      rw [ei] at h1 hq
      omega
theorem put_miss {t : Nat → Bool} {align limit size : Nat} {R : List (Nat × Nat)} (h : Rv t align limit R) (hz : 0 < size) (hp : ∀ j, j < R.length → roomB size (R.getD j (0, 0)) = false) : firstF t size align limit = none := by
  refine firstF_none.2 fun q => ?_
  cases hf : fitsB t size align limit q with
  | false => rfl
  | true =>
    obtain ⟨f1, f2, f3⟩ := fitsB_iff.1 hf
    obtain ⟨r, hr', k1, k2⟩ := h.cv q size hz f1 f2 f3
    obtain ⟨j, hj, rfl⟩ := List.mem_iff_getElem.1 hr'
    have ej : R.getD j (0, 0) = R[j] := by rw [List.getD_eq_getElem?_getD, List.getElem?_eq_getElem hj]; rfl
    have := hp j hj
    rw [ej] at this
    have := of_decide_eq_false this
    omega
def orSpan (t : Nat → Bool) (p k : Nat) (q : Nat) : Bool := t q || (decide (p ≤ q) && decide (q < p + k))
theorem orSpan_false {t : Nat → Bool} {p k q : Nat} : orSpan t p k q = false ↔ t q = false ∧ (q < p ∨ p + k ≤ q) := by
  unfold orSpan
  rw [Bool.or_eq_false_iff, Bool.and_eq_false_iff, decide_eq_false_iff_not, decide_eq_false_iff_not]
  exact and_congr_right fun _ => by omega
theorem span_set (R : List (Nat × Nat)) (i j : Nat) (x : Nat × Nat) (hi : i < R.length) : (R.set i x).getD j (0, 0) = if j = i then x else R.getD j (0, 0) := by
  rw [List.getD_eq_getElem?_getD, List.getD_eq_getElem?_getD, List.getElem?_set]
  by_cases h : i = j
  · subst h; rw [if_pos rfl, if_pos hi, if_pos rfl]; rfl
  · rw [if_neg h, if_neg (fun e => h e.symm)]
/-- **a size is put into room i** -/
theorem put_next {t : Nat → Bool} {align limit size i : Nat} {R : List (Nat × Nat)} (h : Rv t align limit R) (ha : 0 < align) (hz : 0 < size) (hi : i < R.length) (hr : roomB size (R.getD i (0, 0)) = true) :
    Rv (orSpan t (R.getD i (0, 0)).1 size) align limit (R.set i (upF ((R.getD i (0, 0)).1 + size) align, (R.getD i (0, 0)).2)) := by
  have ei : R.getD i (0, 0) = R[i] := by rw [List.getD_eq_getElem?_getD, List.getElem?_eq_getElem hi]; rfl
  rw [ei] at hr ⊢
  have h1 : R[i].1 + size ≤ R[i].2 := of_decide_eq_true hr
  have hup := upF_ge (n := R[i].1 + size) ha
  obtain ⟨a1, a2⟩ := h.al _ (List.getElem_mem hi)
  have hmem : ∀ r, r ∈ R.set i (upF (R[i].1 + size) align, R[i].2) → r = (upF (R[i].1 + size) align, R[i].2) ∨ ∃ j, ∃ hj : j < R.length, j ≠ i ∧ r = R[j] := by
    intro r hr
    obtain ⟨j, hj, rfl⟩ := List.mem_iff_getElem.1 hr
    rw [List.getElem_set]
    rw [List.length_set] at hj
    split
    · exact .inl rfl
    · rename_i hne
      exact .inr ⟨j, hj, fun e => hne e.symm, rfl⟩
  refine ⟨fun r hr => ?_, fun r hr q h2 h3 => ?_, fun p k hk hp hl hf => ?_, ?_⟩
  · rcases hmem r hr with rfl | ⟨j, hj, _, rfl⟩
    · exact ⟨upF_mod _ _, a2⟩
    · exact h.al _ (List.getElem_mem hj)
  · refine orSpan_false.2 ?_
    rcases hmem r hr with rfl | ⟨j, hj, hne, rfl⟩
    · dsimp only at h2 h3
      exact ⟨h.fr _ (List.getElem_mem hi) q (by omega) h3, by omega⟩
    · refine ⟨h.fr _ (List.getElem_mem hj) q h2 h3, ?_⟩
      rcases Nat.lt_or_ge j i with hlt | hge
      · have := List.pairwise_iff_getElem.1 h.od j i hj hi hlt; omega
      · have := List.pairwise_iff_getElem.1 h.od i j hi hj (by omega); omega
  · obtain ⟨r, hr', k1, k2⟩ := h.cv p k hk hp hl fun q b1 b2 => (orSpan_false.1 (hf q b1 b2)).1
    obtain ⟨j, hj, rfl⟩ := List.mem_iff_getElem.1 hr'
    by_cases hji : j = i
    · subst hji
      refine ⟨(upF (R[j].1 + size) align, R[j].2), List.mem_iff_getElem.2 ⟨j, by simpa using hj, by simp⟩, ?_, k2⟩
      refine upF_le ha hp ?_
      rcases (orSpan_false.1 (hf p (Nat.le_refl _) (by omega))).2 with h5 | h5
      · omega
      · exact h5
    · exact ⟨R[j], List.mem_iff_getElem.2 ⟨j, by simpa using hj, by rw [List.getElem_set, if_neg (fun e => hji e.symm)]⟩, k1, k2⟩
  · rw [List.pairwise_iff_getElem]
    intro a b ha' hb' hab
    rw [List.length_set] at ha' hb'
    rw [List.getElem_set, List.getElem_set]
    have hod := fun (x y : Nat) (hx : x < R.length) (hy : y < R.length) (hxy : x < y) => List.pairwise_iff_getElem.1 h.od x y hx hy hxy
    split
    · rename_i e; subst e
      rw [if_neg (by omega)]
      exact hod _ _ hi hb' hab
    · split
      · rename_i e; subst e
        have := hod a i ha' hi hab
        dsimp only; omega
      · exact hod _ _ ha' hb' hab
theorem Rv.congr {t u : Nat → Bool} {align limit : Nat} {R : List (Nat × Nat)} (h : Rv t align limit R) (e : ∀ p, t p = u p) : Rv u align limit R := by
  obtain rfl : t = u := funext e
  exact h
/-- rooms ahead of 'next' do not hold the size; they only get smaller -/
def NxOk (R : List (Nat × Nat)) (nx : Nat → Nat) : Prop := ∀ z i, i < nx z → roomB z (R.getD i (0, 0)) = false
theorem nx_put {R : List (Nat × Nat)} {nx : Nat → Nat} {size i v T : Nat} (h : NxOk R nx) (hi : i < R.length) (hv : (R.getD i (0, 0)).1 ≤ v) (hT : T = (R.getD i (0, 0)).2) (hp : ∀ j, nx size ≤ j → j < i → roomB size (R.getD j (0, 0)) = false) :
    NxOk (R.set i (v, T)) (fun z => if z = size then i else nx z) := by
  have hsm : ∀ z j, roomB z (R.getD j (0, 0)) = false → roomB z ((R.set i (v, T)).getD j (0, 0)) = false := by
    intro z j hb
    rw [span_set _ _ _ _ hi]
    split
    · rename_i e; subst e
      have := of_decide_eq_false hb
      exact decide_eq_false (by dsimp only; omega)
    · exact hb
  intro z j hj
  dsimp only at hj
  split at hj
  · rename_i e; subst e
    refine hsm _ _ ?_
    rcases Nat.lt_or_ge j (nx z) with h1 | h1
    · exact h z j h1
    · exact hp j h1 hj
  · exact hsm _ _ (h z j hj)

/-! ### the document's course -/
/-- what is taken, with what was placed -/
def spF (sizes : List Int) (ps : List Nat) : List Ai := ps.zipIdx.map fun x => ((x.1 : Int), (x.1 : Int) + sizes.getD x.2 0)
theorem spF_snoc (sizes : List Int) (ps : List Nat) (p : Nat) : spF sizes (ps ++ [p]) = spF sizes ps ++ [((p : Int), (p : Int) + sizes.getD ps.length 0)] := by
  unfold spF; rw [List.zipIdx_append, List.map_append]; simp
theorem spF_len (sizes : List Int) (ps : List Nat) : (spF sizes ps).length = ps.length := by simp [spF]
/-- of the first k sizes: their places; none: one has none -/
def fitSP (l : List Ai) (sizes : List Int) (align limit : Nat) : Nat → Option (List Nat)
  | 0 => some []
  | k + 1 => match fitSP l sizes align limit k with
    | none => none
    | some ps => match firstF (tkn (l ++ spF sizes ps)) (sizes.getD k 0).toNat align limit with
      | none => none
      | some p => some (ps ++ [p])
theorem fitS_len {l : List Ai} {sizes : List Int} {align limit : Nat} : ∀ k ps, fitSP l sizes align limit k = some ps → ps.length = k
  | 0, ps, h => by cases h; rfl
  | k + 1, ps, h => by
    unfold fitSP at h
    cases h1 : fitSP l sizes align limit k with
    | none => rw [h1] at h; cases h
    | some qs =>
      rw [h1] at h
      dsimp only at h
      cases h2 : firstF (tkn (l ++ spF sizes qs)) (sizes.getD k 0).toNat align limit with
      | none => rw [h2] at h; cases h
      | some p => rw [h2] at h; cases h; rw [List.length_append, fitS_len k qs h1]; rfl
theorem fitS_next {l : List Ai} {sizes : List Int} {align limit k : Nat} {ps : List Nat} (h : fitSP l sizes align limit k = some ps) :
    fitSP l sizes align limit (k + 1) = match firstF (tkn (l ++ spF sizes ps)) (sizes.getD k 0).toNat align limit with | none => none | some p => some (ps ++ [p]) := by
  show (match fitSP l sizes align limit k with | none => none | some ps => _) = _
  rw [h]
theorem fitS_none {l : List Ai} {sizes : List Int} {align limit k : Nat} (h : fitSP l sizes align limit k = none) : ∀ m, k ≤ m → fitSP l sizes align limit m = none := by
  intro m hm
  obtain ⟨d, rfl⟩ : ∃ d, m = k + d := ⟨m - k, by omega⟩
  clear hm
  induction d with
  | zero => exact h
  | succ d ih => show (match fitSP l sizes align limit (k + d) with | none => none | some ps => _) = _; rw [ih]
theorem tkn_snoc (l : List Ai) (p k : Nat) (q : Nat) : tkn (l ++ [((p : Int), (p : Int) + (k : Int))]) q = orSpan (tkn l) p k q := by
  unfold tkn orSpan
  rw [inB_snoc]
  congr 1
  congr 1
  · rw [Bool.eq_iff_iff, decide_eq_true_iff, decide_eq_true_iff]; omega
  · rw [Bool.eq_iff_iff, decide_eq_true_iff, decide_eq_true_iff]; dsimp only; omega
end Go.Proofs.YtdennekkbdlhdaaDoor
namespace Go.Proofs.YtdennekkbdlhdaaDoor
open Go.RowKit Go.Shelf
set_option linter.unusedVariables false
set_option linter.unusedSimpArgs false
set_option maxRecDepth 100000

def Sps (w : World) (A : Option Addr) (l : List Ai) : Prop :=
  (∀ z ∈ l, I64 z.1 ∧ I64 z.2) ∧ Lies w A l.length 2 fun i b o => w.cell? ⟨b, o, none⟩ = some (.int .i64 (l.getD i (0, 0)).1) ∧ w.cell? ⟨b, o + 1, none⟩ = some (.int .i64 (l.getD i (0, 0)).2)
theorem Sps.of_below {w w' : World} {A : Option Addr} {l : List Ai} {B : Nat} (h : Sps w A l) (hb : Below B w w') (hB : w.heap.size ≤ B) : Sps w' A l :=
  ⟨h.1, h.2.of_below hb hB fun _ _ _ _ hlt hp => ⟨cell_below hb hB hlt hp.1, cell_below hb hB hlt hp.2⟩⟩
theorem Sps.at {w : World} {A : Option Addr} {l : List Ai} (h : Sps w A l) {k : Nat} (hk : k < l.length) :
    ∃ b off, A = some ⟨b, off, none⟩ ∧ b < w.heap.size ∧ w.cell? ⟨b, off + k * 2, none⟩ = some (.int .i64 (l.getD k (0, 0)).1) ∧ w.cell? ⟨b, off + k * 2 + 1, none⟩ = some (.int .i64 (l.getD k (0, 0)).2) := by
  rcases h.2 with h0 | ⟨b, off, rfl, hlt, hc⟩
  · omega
  · exact ⟨b, off, rfl, hlt, hc k hk⟩
theorem Sps.nil (w : World) (A : Option Addr) : Sps w A [] := ⟨fun z h => (by cases h), .inl rfl⟩
theorem mem_at {l : List Ai} {k : Nat} (h : k < l.length) : l.getD k (0, 0) ∈ l := by
  rw [List.getD_eq_getElem?_getD, List.getElem?_eq_getElem h]; exact List.getElem_mem _
theorem inB_take {l : List Ai} {k : Nat} {p : Int} (h : k < l.length) : inBP (l.take (k + 1)) p = (inBP (l.take k) p || (decide ((l.getD k (0, 0)).1 ≤ p) && decide (p < (l.getD k (0, 0)).2))) := by
  rw [take_snoc l (0, 0) k h, inB_snoc]
theorem inB_hit {l : List Ai} {k : Nat} {p : Int} (h : k < l.length) (h1 : (l.getD k (0, 0)).1 ≤ p) (h2 : p < (l.getD k (0, 0)).2) : inBP l p = true := inB_iff.2 ⟨_, mem_at h, h1, h2⟩

/-- may numbers be? -/
def mayB (size align limit : Int) : Bool := decide (0 ≤ size ∧ size ≤ 1048576 ∧ 1 ≤ align ∧ align ≤ 1048576 ∧ 0 ≤ limit ∧ limit ≤ 1048576)
theorem mayB_t {size align limit : Int} (h : mayB size align limit = true) : 0 ≤ size ∧ size ≤ 1048576 ∧ 1 ≤ align ∧ align ≤ 1048576 ∧ 0 ≤ limit ∧ limit ≤ 1048576 := of_decide_eq_true h

/-- n places from a on, are they free? -/
def runB (t : Nat → Bool) (a n : Nat) : Bool := (List.range n).all fun j => !t (a + j)
theorem runB_succ (t : Nat → Bool) (a n : Nat) : runB t a (n + 1) = (runB t a n && !t (a + n)) := by
  unfold runB; rw [List.range_succ, List.all_append]; simp
theorem runB_iff {t : Nat → Bool} {a n : Nat} : runB t a n = true ↔ ∀ q, a ≤ q → q < a + n → t q = false := by
  unfold runB
  rw [List.all_eq_true]
  constructor
  · intro h q h1 h2
    have := h (q - a) (by simp; omega)
    rw [show a + (q - a) = q by omega] at this
    simpa using this
  · intro h k hk
    rw [List.mem_range] at hk
    rw [h (a + k) (by omega) (by omega)]; rfl
theorem runB_false {t : Nat → Bool} {a n m : Nat} (hnm : n ≤ m) (h : runB t a n = false) : runB t a m = false := by
  cases hm : runB t a m with
  | false => rfl
  | true =>
    have : runB t a n = true := runB_iff.2 fun q h1 h2 => runB_iff.1 hm q h1 (by omega)
    rw [h] at this; cases this
/-- what First answers -/
def firstV (l : List Ai) (size align limit : Int) : Value := if mayB size align limit then match firstF (tkn l) size.toNat align.toNat limit.toNat with
  | some p => .tuple #[.int .i64 (p : Nat), .bool true]
  | none => .tuple #[.int .i64 (-1), .bool false] else .tuple #[.int .i64 (-1), .bool false]
/-- all places that were tried do not fit -/
def Tried (t : Nat → Bool) (size align limit a : Nat) : Prop := a % align = 0 ∧ ∀ q, q < a → fitsB t size align limit q = false
theorem tried_next {t : Nat → Bool} {size align limit a : Nat} (ha : 0 < align) (h : Tried t size align limit a) (hf : runB t a size = false) : Tried t size align limit (a + align) := by
  refine ⟨by rw [Nat.add_mod_right]; exact h.1, fun q hq => ?_⟩
  rcases Nat.lt_trichotomy q a with h1 | rfl | h1
  · exact h.2 q h1
  · cases hc : fitsB t size align limit q with
    | false => rfl
    | true =>
      have := runB_iff.2 (fitsB_iff.1 hc).2.2
      rw [hf] at this; cases this
  · cases hc : fitsB t size align limit q with
    | false => rfl
    | true =>
      have h2 := (fitsB_iff.1 hc).1
      have := upF_le (n := a + 1) ha h2 (by omega)
      have h3 : a + align ≤ upF (a + 1) align := by
        obtain ⟨m, rfl⟩ : ∃ m, a = m * align := ⟨a / align, (Nat.div_mul_cancel (Nat.dvd_of_mod_eq_zero h.1)).symm⟩
        unfold upF
        have : (m * align + 1 + align - 1) / align = m + 1 := by
          rw [show m * align + 1 + align - 1 = align + m * align by omega, Nat.add_mul_div_right _ _ ha, Nat.div_self ha]; omega
        rw [this, Nat.succ_mul]; exact Nat.le_refl _
      omega
theorem tried_hit {t : Nat → Bool} {size align limit a : Nat} (h : Tried t size align limit a) (hf : runB t a size = true) (hl : a + size ≤ limit) : firstF t size align limit = some a :=
  firstF_some.2 ⟨fitsB_iff.2 ⟨h.1, hl, runB_iff.1 hf⟩, h.2⟩
theorem tried_end {t : Nat → Bool} {size align limit a : Nat} (h : Tried t size align limit a) (hl : limit < a + size) : firstF t size align limit = none := by
  refine firstF_none.2 fun q => ?_
  cases hc : fitsB t size align limit q with
  | false => rfl
  | true =>
    have := (fitsB_iff.1 hc).2.1
    rw [h.2 q (by omega)] at hc; cases hc

end Go.Proofs.YtdennekkbdlhdaaDoor
namespace Go.Proofs.YtdennekkbdlhdaaDoor
open Go.RowKit Go.Shelf
set_option linter.unusedVariables false
set_option linter.unusedSimpArgs false
set_option maxRecDepth 100000

theorem info_spanP : (Tryd.prog.info? 78).map (fun i => (i.zero, i.size, i.bytes)) = some (some (.agg #[.int .i64 0, .int .i64 0]), 2, 16) := by kernel_rfl
theorem under_spans : Tryd.prog.underlying 74 = some (.slice 78) := Tryd.underlying74
theorem info_int : (Tryd.prog.info? 3).map (fun i => (i.zero, i.size, i.bytes)) = some (some (.int .i64 0), 1, 8) := by kernel_rfl
theorem under_ints : Tryd.prog.underlying 28 = some (.slice 3) := Tryd.underlying28
def flatA (l : List Ai) : List Value := l.flatMap fun a => [.int .i64 a.1, .int .i64 a.2]
theorem flatA_snoc (l : List Ai) (a : Ai) : flatA (l ++ [a]) = flatA l ++ [.int .i64 a.1, .int .i64 a.2] := by simp [flatA]
theorem flatA_len : ∀ l : List Ai, (flatA l).length = l.length * 2
  | [] => rfl
  | a :: l => by
    have := flatA_len l
    unfold flatA at *
    simp only [List.flatMap_cons, List.length_append, List.length_cons, List.length_nil]
    omega
theorem flatA_get : ∀ (l : List Ai) (k : Nat), k < l.length → (flatA l)[k * 2]? = some (.int .i64 (l.getD k (0, 0)).1) ∧ (flatA l)[k * 2 + 1]? = some (.int .i64 (l.getD k (0, 0)).2)
  | [], k, h => by simp at h
  | a :: l, 0, _ => ⟨rfl, rfl⟩
  | a :: l, k + 1, h => by
    obtain ⟨h1, h2⟩ := flatA_get l k (by simpa using h)
    have e : (k + 1) * 2 = k * 2 + 1 + 1 := by omega
    unfold flatA at *
    rw [e]
    exact ⟨h1, h2⟩
theorem flatA_one (l : List Ai) : ∀ u ∈ flatA l, u.oneCell' = true := by
  intro u hu
  unfold flatA at hu
  obtain ⟨a, _, h⟩ := List.mem_flatMap.1 hu
  simp at h
  rcases h with rfl | rfl <;> rfl
theorem flatA_at {w : World} {b off : Nat} {l : List Ai} (h : Sps w (some ⟨b, off, none⟩) l) : ∀ (j : Nat) (u : Value), (flatA l)[j]? = some u → w.cell? ⟨b, off + j, none⟩ = some u := by
  intro j u hj
  have hlt : j < l.length * 2 := by
    rw [← flatA_len]
    exact (List.getElem?_eq_some_iff.1 hj).1
  obtain ⟨b', off', e, _, c0, c1⟩ := h.at (k := j / 2) (by omega)
  obtain ⟨rfl, rfl⟩ : b = b' ∧ off = off' := by cases e; exact ⟨rfl, rfl⟩
  obtain ⟨g0, g1⟩ := flatA_get l (j / 2) (by omega)
  rcases Nat.mod_two_eq_zero_or_one j with hm | hm
  · have ej : j / 2 * 2 = j := by omega
    rw [ej] at c0 g0
    rw [c0, ← g0, hj]
  · have ej : j / 2 * 2 + 1 = j := by omega
    rw [Nat.add_assoc, ej] at c1
    rw [ej] at g1
    rw [c1, ← g1, hj]
/-- spans of one's own; numbers of one's own -/
abbrev OwnA (W : World) (B : Nat) (h : Value) (l : List Ai) : Prop := W.ownsRow B 78 2 h l.length (flatA l)
abbrev OwnI (W : World) (B : Nat) (h : Value) (l : List Int) : Prop := W.ownsRow B 3 1 h l.length (l.map (Value.int .i64))
theorem own_spans {W : World} {B : Nat} {h : Value} {l : List Ai} (x : OwnA W B h l) (hl : ∀ z ∈ l, I64 z.1 ∧ I64 z.2) : ∃ A c, h = .slice A l.length c ∧ Sps W A l := by
  rcases x.2 with ⟨rfl, h0⟩ | ⟨g, cap, cur, rfl, hg, hh, _, _, _, ht⟩
  · exact ⟨_, _, by rw [h0], hl, .inl h0⟩
  · refine ⟨_, cap, rfl, hl, .inr ⟨g, 0, rfl, (Array.getElem?_eq_some_iff.1 hh).1, fun i hi => ?_⟩⟩
    obtain ⟨g0, g1⟩ := flatA_get l i hi
    rw [← ht, List.getElem?_take] at g0 g1
    rw [Nat.zero_add]
    constructor
    · rw [cell_of_row _ _ _ _ _ _ hh]
      split at g0
      · simpa using g0
      · cases g0
    · rw [cell_of_row _ _ _ _ _ _ hh]
      split at g1
      · simpa using g1
      · cases g1
theorem ownA_base {W : World} {B C : Nat} {v : Value} {l : List Ai} (h : OwnA W B v l) (hC : C ≤ B) : OwnA W C v l := by
  refine ⟨h.1, ?_⟩
  rcases h.2 with h1 | ⟨g, cap, cur, h1, h2, h3⟩
  · exact .inl h1
  · exact .inr ⟨g, cap, cur, h1, Nat.le_trans hC h2, h3⟩
theorem ownI_base {W : World} {B C : Nat} {v : Value} {l : List Int} (h : OwnI W B v l) (hC : C ≤ B) : OwnI W C v l := by
  refine ⟨h.1, ?_⟩
  rcases h.2 with h1 | ⟨g, cap, cur, h1, h2, h3⟩
  · exact .inl h1
  · exact .inr ⟨g, cap, cur, h1, Nat.le_trans hC h2, h3⟩
/-- append to nothing of one's own of whatever spans a slice has -/
theorem wpList_spans {ops : Array Oper} {rest : List Oper} {o : Oper} {a : Act} {Q : Exit → Act → World → Prop} (w : World) (hgd : o.guard = none) (s x : Operand)
    (ho : o.op = .call { callee := .builtin .append, args := #[s, x], argTypes := #[74, 74] }) (B : Nat) (v0 : Value) (hs : a.eval s = v0) (hO : w.ownsRow B 78 2 v0 0 []) (hB : B ≤ w.heap.size)
    (A : Option Addr) (l : List Ai) (c N : Nat) (hN : N = l.length) (hx : a.eval x = .slice A N c) (hI : Sps w A l) (hl : l.length ≤ 100000)
    (h : ∀ v w', OwnA w' B v l → w.grownBy w' v0.ownBlock → wpList Tryd.prog ops Q rest (a.put o.dst v) w') :
    wpList Tryd.prog ops Q (o :: rest) a w := by
  subst hN
  have hi := info_spanP
  rcases hi' : Tryd.prog.info? 78 with _ | i
  · rw [hi'] at hi; cases hi
  rw [hi'] at hi
  simp only [Option.map_some, Option.some.injEq, Prod.mk.injEq] at hi
  obtain ⟨hz, hs1, hb⟩ := hi
  rcases A with _ | ad
  · have h0 : l = [] := by
      rcases hI.2 with h | ⟨b, off, e, _⟩
      · exact List.length_eq_zero_iff.1 h
      · cases e
    subst h0
    refine wpList_plain hgd fun K hK => ?_
    have hrun : (Builtin.append_ #[74, 74] o.type #[v0, .slice none 0 c]).run Tryd.prog w = .ok v0 w := by
      rcases hO.2 with ⟨rfl, _⟩ | ⟨g, cap, cur, rfl, _⟩
      · simp [Builtin.append_, run_underlying under_spans, sizeOf, typeInfo, hi', Builtin.lenOf, Builtin.firstCells, storeCells]
      · simp [Builtin.append_, run_underlying under_spans, sizeOf, typeInfo, hi', Builtin.lenOf, Builtin.firstCells, storeCells]
    unfold Oper.wp execOp
    simp only [ho, resolve, invoke, builtin, Sem.run_bind, Sem.run_pure, Result.andThen_ok, List.map_toArray, List.map_cons, List.map_nil, hs, hx, List.length_nil, hrun]
    exact hK _ _ (h _ w hO ⟨rfl, rfl, rfl, Nat.le_refl _, fun _ _ _ => rfl⟩)
  · refine wpList_append_own_at w hgd s x _ ho B 78 i _ 2 16 under_spans hi' hz hs1 hb rfl (by decide) _ 0 [] hs hO ad l.length c (flatA l) hx (flatA_len l) ?_ (flatA_one l) (by simp only [maxLen]; omega) (by omega) hB ?_
    · intro j u hu
      have hj : j < l.length * 2 := by rw [← flatA_len]; exact (List.getElem?_eq_some_iff.1 hu).1
      obtain ⟨b, off, e, _, _⟩ := hI.at (k := j / 2) (by omega)
      obtain rfl := Option.some.inj e
      rw [plain_add]
      exact flatA_at hI j u hu
    · intro v' w' hown hg _ _
      refine h v' w' ?_ hg
      rw [Nat.zero_add, List.nil_append] at hown
      exact hown

/-! ### the document's Fit -/
def mayAll (sizes : List Int) (align limit : Int) : Bool := mayB 0 align limit && sizes.all fun z => mayB z align limit
theorem mayAll_t {sizes : List Int} {align limit : Int} (h : mayAll sizes align limit = true) : mayB 0 align limit = true ∧ ∀ z ∈ sizes, mayB z align limit = true := by
  unfold mayAll at h
  rw [Bool.and_eq_true] at h
  exact ⟨h.1, List.all_eq_true.1 h.2⟩
/-- what a list of places is -/
def fitR (B : Nat) (w' : World) (l : List Ai) (sizes : List Int) (align limit : Int) (e : Ending) : Prop :=
  if mayAll sizes align limit then match fitSP l sizes align.toNat limit.toNat sizes.length with
    | some ps => ∃ v, e = .returned (.tuple #[v, .int .i64 0]) ∧ OwnI w' B v (ps.map fun (p : Nat) => (p : Int))
    | none => e = .returned (.tuple #[.slice none 0 0, .int .i64 160])
  else e = .returned (.tuple #[.slice none 0 0, .int .i64 2])
theorem fitS_le {l : List Ai} {sizes : List Int} {align limit : Nat} : ∀ k ps, fitSP l sizes align limit k = some ps → ∀ p ∈ ps, p ≤ limit
  | 0, ps, h => by cases h; intro p hp; cases hp
  | k + 1, ps, h => by
    unfold fitSP at h
    cases h1 : fitSP l sizes align limit k with
    | none => rw [h1] at h; cases h
    | some qs =>
      rw [h1] at h
      dsimp only at h
      cases h2 : firstF (tkn (l ++ spF sizes qs)) (sizes.getD k 0).toNat align limit with
      | none => rw [h2] at h; cases h
      | some p =>
        rw [h2] at h; cases h
        intro q hq
        rcases List.mem_append.1 hq with hq | hq
        · exact fitS_le k qs h1 q hq
        · obtain rfl := List.mem_singleton.1 hq
          have := (fitsB_iff.1 (firstF_some.1 h2).1).2.1
          omega
theorem getD_memP {l : List Int} {k : Nat} (h : k < l.length) : l.getD k 0 ∈ l := by
  rw [List.getD_eq_getElem?_getD, List.getElem?_eq_getElem h]; exact List.getElem_mem _
/-- what was placed, as spans: small numbers -/
theorem spF_ok {sizes : List Int} {ps : List Nat} {limit : Nat} (hs : ∀ z ∈ sizes, 0 ≤ z ∧ z ≤ 1048576) (hlm : limit ≤ 1048576) (hp : ∀ p ∈ ps, p ≤ limit) : ∀ s ∈ spF sizes ps, I64 s.1 ∧ I64 s.2 := by
  intro s h
  unfold spF at h
  obtain ⟨⟨p, i⟩, hx, rfl⟩ := List.mem_map.1 h
  have h1 := hp p (by
    have := List.mem_zipIdx hx
    rw [this.2.2]
    exact List.getElem_mem _)
  have h2 : 0 ≤ sizes.getD i 0 ∧ sizes.getD i 0 ≤ 1048576 := by
    rcases Nat.lt_or_ge i sizes.length with h3 | h3
    · exact hs _ (getD_memP h3)
    · rw [List.getD_eq_getElem?_getD, List.getElem?_eq_none h3]; simp
  unfold I64
  dsimp only
  omega
end Go.Proofs.YtdennekkbdlhdaaDoor
namespace Go.Proofs.YtdennekkbdlhdaaDoor
open Go.RowKit Go.Shelf
attribute [local go_sem] Oper.semAt_some
set_option linter.unusedVariables false
set_option linter.unusedSimpArgs false
set_option maxRecDepth 100000

def allUp (sizes : List Int) (align limit : Int) (k : Nat) : Bool := mayB 0 align limit && (sizes.take k).all fun z => mayB z align limit
theorem allUp_next {sizes : List Int} {align limit : Int} {k : Nat} (h : k < sizes.length) : allUp sizes align limit (k + 1) = (allUp sizes align limit k && mayB (sizes.getD k 0) align limit) := by
  unfold allUp
  rw [take_snoc sizes 0 k h, List.all_append, Bool.and_assoc]; simp
theorem allUp_end {sizes : List Int} {align limit : Int} : allUp sizes align limit sizes.length = mayAll sizes align limit := by
  unfold allUp mayAll; rw [List.take_length]
/-- rows of one's own of different kinds do not meet -/
theorem own_ne {W : World} {B C : Nat} {t u : TypeId} {m n : Nat} {h v : Value} {k l : Nat} {xs ys : List Value} (x : W.ownsRow B t m h k xs) (y : W.ownsRow C u n v l ys) (hne : t ≠ u) : ∀ j, h.ownBlock = some j → v.ownBlock ≠ some j := by
  intro j h1 h2
  obtain ⟨_, _, c1, e1⟩ := own_block x h1
  obtain ⟨_, _, c2, e2⟩ := own_block y h2
  rw [e1] at e2
  injection e2 with e2
  injection e2 with _ e3
  exact hne e3
/-- one row grows, the other one stands -/
theorem own_apart {W W' : World} {B C : Nat} {t u : TypeId} {m n : Nat} {h v : Value} {k l : Nat} {xs ys : List Value} (x : W.ownsRow B t m h k xs) (y : W.ownsRow C u n v l ys) (hne : t ≠ u) (hg : W.grownBy W' v.ownBlock) : W'.ownsRow B t m h k xs :=
  own_stands x fun j hj => hg.block j (own_block x hj).1 fun e => own_ne x y hne j hj e.symm

theorem ownI_snoc {W : World} {B n : Nat} {v : Value} {l : List Int} {x : Int} (hn : l.length = n) (h : W.ownsRow B 3 1 v (n + 1) (l.map (Value.int .i64) ++ [.int .i64 x])) : OwnI W B v (l ++ [x]) := by
  unfold OwnI
  rw [List.length_append, List.map_append, hn]
  exact h
theorem ownA_snoc {W : World} {B n : Nat} {v : Value} {l : List Ai} {x : Ai} (hn : l.length = n) (h : W.ownsRow B 78 2 v (n + 1) (flatA l ++ [.int .i64 x.1, .int .i64 x.2])) : OwnA W B v (l ++ [x]) := by
  unfold OwnA
  rw [List.length_append, flatA_snoc, hn]
  exact h
def natI (ps : List Nat) : List Int := ps.map fun (p : Nat) => (p : Int)
theorem natI_snoc (ps : List Nat) (p : Nat) : natI (ps ++ [p]) = natI ps ++ [(p : Int)] := by simp [natI]
theorem natI_len (ps : List Nat) : (natI ps).length = ps.length := by simp [natI]
end Go.Proofs.YtdennekkbdlhdaaDoor
namespace Go.Proofs.YtdennekkbdlhdaaDoor
open Go.RowKit Go.Shelf
attribute [local go_sem] Oper.semAt_some
set_option linter.unusedVariables false
set_option linter.unusedSimpArgs false
set_option maxRecDepth 100000

theorem below_drew {B : Nat} {a w : World} (h : Below B a w) : Below B a w.drew := h.drew
set_option maxHeartbeats 2000000 in
theorem rints_same (l : List Int) (A B : Option Addr) (c d : Nat) (w : World) (hI : Ints w A l) (hJ : Ints w B l) (hl : l.length ≤ 1000) :
    Calls Tryd.prog 12 #[.slice A l.length c, .slice B l.length d] w fun e w' => e = .returned (.bool true) ∧ Below w.heap.size w w' := by
  have HI := hide (fun W (h : Below w.heap.size w W) => hI.of_below h (Nat.le_refl _))
  have HJ := hide (fun W (h : Below w.heap.size w W) => hJ.of_below h (Nat.le_refl _))
  obtain ⟨N, hN⟩ : ∃ N, N = l.length := ⟨_, rfl⟩
  have HN := hide hN
  rw [← hN] at hl ⊢
  clear hI hJ hN
  go_enter Tryd.func12, Tryd.ntmps12
  go_wp2_with fail
  go_loopw [5] (fun kv wr => ∃ k : Nat, k ≤ N ∧ kv = .int .i64 k ∧ Below w.heap.size w wr) (fun kv _ => N - (intOf kv).toNat)
  case atStart => exact ⟨0, Nat.zero_le _, rfl, Below.refl _ _⟩
  case round =>
    obtain ⟨k, hk, rfl, hb⟩ := hrel
    have HBr := hide (below_drew hb)
    by_cases hlt : k < N
    · have hil : k < l.length := by rw [← HN.out]; exact hlt
      obtain ⟨b, off, rfl, hbl, c0⟩ := (HI.out _ hb).at hil
      obtain ⟨b2, off2, rfl, hbl2, d0⟩ := (HJ.out _ hb).at hil
      generalize l.getD k 0 = z at *
      clear hil hb
      go_wp2_with fail
      go_region
      go_wp2_with fail
      go_roundw
      case rel => exact ⟨k + 1, by omega, by go_num, HBr.out⟩
      case measure => simp [intOf]; omega
    · obtain rfl : k = N := by omega
      have HB := hide hb
      clear hb
      go_wp2_with fail
      go_ret
      exact ⟨rfl, HB.out⟩
theorem fields_of_span : Tryd.prog.underlying 78 = some (.struct (Tryd.prog.fieldsOf 78)) := by kernel_rfl
theorem eq_span (a c a' c' : Int) (w : World) : (Op.equalIn 10000 78 (.agg #[.int .i64 a, .int .i64 c]) (.agg #[.int .i64 a', .int .i64 c'])).run Tryd.prog w = .ok (decide (a = a' ∧ c = c')) w := by
  rw [run_equalIn_struct w 9999 78 _ _ fields_of_span (by kernel_rfl)]
  simp [Program.fieldsOf, Tryd.underlying78, Op.eqFields, part, isAgg, go_sem]
  by_cases h1 : a = a' <;> by_cases h3 : c = c' <;> simp [h1, h3]
end Go.Proofs.YtdennekkbdlhdaaDoor
namespace Go.Proofs.YtdennekkbdlhdaaDoor
open Go.RowKit Go.Shelf
attribute [local go_sem] Oper.semAt_some
set_option linter.unusedVariables false
set_option linter.unusedSimpArgs false
set_option maxRecDepth 100000

/-- a cell of a row of one's own is set anew -/
theorem own_put {W : World} {B : Nat} {t : TypeId} {sz : Nat} {g n c : Nat} {xs : List Value} (x : W.ownsRow B t sz (.slice (some ⟨g, 0, none⟩) n c) n xs) (j : Nat) (u : Value) : (W.setCell ⟨g, j, none⟩ u).ownsRow B t sz (.slice (some ⟨g, 0, none⟩) n c) n (xs.set j u) := by
  refine ⟨by rw [List.length_set]; exact x.1, ?_⟩
  rcases x.2 with ⟨h, _⟩ | ⟨g', cap, cur, h, hg, hh, hc, hc2, hs, ht⟩
  · cases h
  · cases h
    refine .inr ⟨g, c, cur.setIfInBounds j u, rfl, hg, set_cells hh, hc, hc2, by simpa using hs, ?_⟩
    rw [Array.toList_setIfInBounds, List.take_set, ht]
def toI (l : List (Nat × Nat)) : List Ai := l.map fun a => ((a.1 : Int), (a.2 : Int))
theorem toI_snoc (l : List (Nat × Nat)) (a : Nat × Nat) : toI (l ++ [a]) = toI l ++ [((a.1 : Int), (a.2 : Int))] := by simp [toI]
theorem toI_len (l : List (Nat × Nat)) : (toI l).length = l.length := by simp [toI]
def freeL (l : List Ai) (limit : Int) : List Ai := if mayB 0 1 limit then toI (freeTo (tkn l) limit.toNat) else []
theorem addF_len (L : List (Nat × Nat)) (n : Nat) : (addF L n).length ≤ L.length + 1 := by
  rcases last_cases L with h | ⟨M, s, h⟩
  · rw [h]; simp [addF_nil]
  · rw [h, addF_snoc]; split <;> simp
theorem free_len (t : Nat → Bool) : ∀ n, (freeTo t n).length ≤ n
  | 0 => Nat.le_refl _
  | n + 1 => by
    have := free_len t n
    cases ht : t n with
    | true => rw [free_taken ht]; omega
    | false => rw [free_add ht]; have := addF_len (freeTo t n) n; omega
theorem flatA_set (M : List Ai) (f g h : Int) : (flatA (M ++ [(f, g)])).set (M.length * 2 + 1) (.int .i64 h) = flatA (M ++ [(f, h)]) := by
  rw [flatA_snoc, flatA_snoc, List.set_append_right _ _ (by rw [flatA_len]; omega), flatA_len]
  rw [show M.length * 2 + 1 - M.length * 2 = 1 by omega]; rfl

end Go.Proofs.YtdennekkbdlhdaaDoor
