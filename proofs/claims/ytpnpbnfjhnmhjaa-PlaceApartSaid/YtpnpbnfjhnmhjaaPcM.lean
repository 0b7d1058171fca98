/-
  What fits where among what is taken: plain facts on stretches that are free.
-/
namespace Go.Proofs.Ytpnpbnfjhnmhjaa

/-- a span, as the memory holds it -/
abbrev Ai := Int × Int
/-- is a place in one of them? -/
def inB (l : List Ai) (p : Int) : Bool := l.any fun s => decide (s.1 ≤ p) && decide (p < s.2)
def tkn (l : List Ai) (p : Nat) : Bool := inB l (p : Int)
theorem inB_iff {l : List Ai} {p : Int} : inB l p = true ↔ ∃ s ∈ l, s.1 ≤ p ∧ p < s.2 := by
  unfold inB
  rw [List.any_eq_true]
  constructor
  · rintro ⟨s, hs, h⟩
    rw [Bool.and_eq_true] at h
    exact ⟨s, hs, of_decide_eq_true h.1, of_decide_eq_true h.2⟩
  · rintro ⟨s, hs, h1, h2⟩
    exact ⟨s, hs, by rw [decide_eq_true h1, decide_eq_true h2]; rfl⟩
theorem inB_snoc (l : List Ai) (s : Ai) (p : Int) : inB (l ++ [s]) p = (inB l p || (decide (s.1 ≤ p) && decide (p < s.2))) := by
  unfold inB; rw [List.any_append]; simp
theorem inB_mem {l l' : List Ai} (h : ∀ s, s ∈ l ↔ s ∈ l') (p : Int) : inB l p = inB l' p := by
  rw [Bool.eq_iff_iff, inB_iff, inB_iff]
  exact ⟨fun ⟨s, a, b⟩ => ⟨s, (h s).1 a, b⟩, fun ⟨s, a, b⟩ => ⟨s, (h s).2 a, b⟩⟩

/-- the stretches below n that are free, as long as can be -/
def addF (L : List (Nat × Nat)) (n : Nat) : List (Nat × Nat) := match L.getLast? with
  | some s => if s.2 = n then L.dropLast ++ [(s.1, n + 1)] else L ++ [(n, n + 1)]
  | none => [(n, n + 1)]
def freeTo (t : Nat → Bool) : Nat → List (Nat × Nat)
  | 0 => []
  | n + 1 => if t n then freeTo t n else addF (freeTo t n) n

theorem free_taken {t : Nat → Bool} {n : Nat} (h : t n = true) : freeTo t (n + 1) = freeTo t n := by
  show (if t n then _ else _) = _; rw [if_pos h]
theorem free_add {t : Nat → Bool} {n : Nat} (h : t n = false) : freeTo t (n + 1) = addF (freeTo t n) n := by
  show (if t n then _ else _) = _; rw [h]; rfl
theorem addF_snoc (L : List (Nat × Nat)) (s : Nat × Nat) (n : Nat) : addF (L ++ [s]) n = if s.2 = n then L ++ [(s.1, n + 1)] else L ++ [s] ++ [(n, n + 1)] := by
  unfold addF; rw [List.getLast?_concat]; simp
theorem addF_nil (n : Nat) : addF [] n = [(n, n + 1)] := rfl
theorem last_cases (L : List (Nat × Nat)) : L = [] ∨ ∃ M s, L = M ++ [s] := by
  rcases List.eq_nil_or_concat L with h | ⟨M, s, h⟩
  · exact .inl h
  · exact .inr ⟨M, s, by rw [h, List.concat_eq_append]⟩

/-- what holds of each of them -/
structure Gp (t : Nat → Bool) (n : Nat) (s : Nat × Nat) : Prop where
  lt : s.1 < s.2
  le : s.2 ≤ n
  fr : ∀ q, s.1 ≤ q → q < s.2 → t q = false
  hd : s.1 = 0 ∨ t (s.1 - 1) = true
  tl : s.2 < n → t s.2 = true

theorem free_all (t : Nat → Bool) : ∀ n, (∀ s ∈ freeTo t n, Gp t n s) ∧ (freeTo t n).Pairwise (fun a b => a.2 < b.1)
  | 0 => ⟨by simp [freeTo], by simp [freeTo]⟩
  | n + 1 => by
    obtain ⟨h1, h2⟩ := free_all t n
    cases ht : t n with
    | true =>
      rw [free_taken ht]
      refine ⟨fun s hs => ?_, h2⟩
      have g := h1 s hs
      refine ⟨g.lt, by have := g.le; omega, g.fr, g.hd, fun hl => ?_⟩
      rcases Nat.lt_or_ge s.2 n with h | h
      · exact g.tl h
      · have : s.2 = n := by have := g.le; omega
        rw [this]; exact ht
    | false =>
      rw [free_add ht]
      rcases last_cases (freeTo t n) with h0 | ⟨M, s, h0⟩
      · rw [h0, addF_nil]
        refine ⟨fun s hs => ?_, by simp⟩
        obtain rfl := List.mem_singleton.1 hs
        refine ⟨by simp, by simp, fun q a b => ?_, ?_, fun h => by simp at h⟩
        · obtain rfl : q = n := by simp at a b; omega
          exact ht
        · show n = 0 ∨ t (n - 1) = true
          rcases Nat.eq_zero_or_pos n with h | h
          · exact .inl h
          · obtain ⟨m, rfl⟩ : ∃ m, n = m + 1 := ⟨n - 1, by omega⟩
            refine .inr ?_
            cases hm : t m with
            | true => simpa using hm
            | false =>
              rw [free_add hm] at h0
              rcases last_cases (freeTo t m) with h3 | ⟨M, s, h3⟩
              · rw [h3, addF_nil] at h0; cases h0
              · rw [h3, addF_snoc] at h0
                split at h0 <;> simp at h0
      · rw [h0] at h1 h2 ⊢
        have g := h1 s (by simp)
        have hM : ∀ a ∈ M, a.2 < s.1 := fun a ha => (List.pairwise_append.1 h2).2.2 a ha s (by simp)
        have h2M := (List.pairwise_append.1 h2).1
        rw [addF_snoc]
        by_cases he : s.2 = n
        · rw [if_pos he]
          refine ⟨fun a ha => ?_, ?_⟩
          · rcases List.mem_append.1 ha with ha | ha
            · have g2 := h1 a (List.mem_append_left _ ha)
              refine ⟨g2.lt, by have := g2.le; omega, g2.fr, g2.hd, fun _ => g2.tl ?_⟩
              have := hM a ha; have := g.lt; omega
            · obtain rfl := List.mem_singleton.1 ha
              refine ⟨by have := g.lt; dsimp only; omega, by simp, fun q a b => ?_, g.hd, fun h => by simp at h⟩
              rcases Nat.lt_or_ge q n with h | h
              · exact g.fr q a (by omega)
              · obtain rfl : q = n := by simp at b; omega
                exact ht
          · rw [List.pairwise_append]
            exact ⟨h2M, by simp, fun a ha b hb => by obtain rfl := List.mem_singleton.1 hb; exact hM a ha⟩
        · rw [if_neg he]
          refine ⟨fun a ha => ?_, ?_⟩
          · rcases List.mem_append.1 ha with ha | ha
            · have g2 := h1 a ha
              have hlt : a.2 < n := by
                rcases List.mem_append.1 ha with h | h
                · have := hM a h; have := g.lt; have := g.le; omega
                · obtain rfl := List.mem_singleton.1 h; have := g.le; omega
              exact ⟨g2.lt, by omega, g2.fr, g2.hd, fun _ => g2.tl hlt⟩
            · obtain rfl := List.mem_singleton.1 ha
              have hts : t s.2 = true := g.tl (by have := g.le; omega)
              refine ⟨by simp, by simp, fun q a b => ?_, ?_, fun h => by simp at h⟩
              · obtain rfl : q = n := by simp at a b; omega
                exact ht
              · refine .inr ?_
                show t (n - 1) = true
                cases hm : t (n - 1) with
                | true => rfl
                | false =>
                  obtain ⟨m, rfl⟩ : ∃ m, n = m + 1 := ⟨n - 1, by have := g.le; have := g.lt; omega⟩
                  simp at hm
                  rw [free_add hm] at h0
                  rcases last_cases (freeTo t m) with h3 | ⟨M', s', h3⟩
                  · rw [h3, addF_nil] at h0
                    have := List.append_inj' (show [] ++ [(m, m + 1)] = M ++ [s] from h0) rfl
                    have := (List.cons.inj this.2).1
                    rw [← this] at he; exact absurd rfl he
                  · rw [h3, addF_snoc] at h0
                    split at h0
                    · have := List.append_inj' h0 rfl
                      have := (List.cons.inj this.2).1
                      rw [← this] at he; exact absurd rfl he
                    · have := List.append_inj' h0 rfl
                      have := (List.cons.inj this.2).1
                      rw [← this] at he; exact absurd rfl he
          · rw [List.pairwise_append]
            refine ⟨h2, by simp, fun a ha b hb => ?_⟩
            obtain rfl := List.mem_singleton.1 hb
            show a.2 < n
            rcases List.mem_append.1 ha with h | h
            · have := hM a h; have := g.lt; have := g.le; omega
            · obtain rfl := List.mem_singleton.1 h; have := g.le; omega
theorem free_gp {t : Nat → Bool} {n : Nat} {s : Nat × Nat} (h : s ∈ freeTo t n) : Gp t n s := (free_all t n).1 s h
theorem free_pw (t : Nat → Bool) (n : Nat) : (freeTo t n).Pairwise (fun a b => a.2 < b.1) := (free_all t n).2
/-- over what is taken -/
theorem free_skip {t : Nat → Bool} {a : Nat} : ∀ k, (∀ q, a ≤ q → q < a + k → t q = true) → freeTo t (a + k) = freeTo t a
  | 0, _ => rfl
  | k + 1, h => by
    rw [← Nat.add_assoc, free_taken (h (a + k) (by omega) (by omega))]
    exact free_skip k fun q h1 h2 => h q h1 (by omega)
theorem free_to {t : Nat → Bool} {a b : Nat} (hab : a ≤ b) (h : ∀ q, a ≤ q → q < b → t q = true) : freeTo t b = freeTo t a := by
  obtain ⟨k, rfl⟩ : ∃ k, b = a + k := ⟨b - a, by omega⟩
  exact free_skip k h
/-- a stretch that is free, behind what is taken -/
theorem free_run {t : Nat → Bool} {a : Nat} (hd : a = 0 ∨ t (a - 1) = true) : ∀ k, (∀ q, a ≤ q → q < a + (k + 1) → t q = false) → freeTo t (a + (k + 1)) = freeTo t a ++ [(a, a + (k + 1))]
  | 0, h => by
    rw [Nat.zero_add, free_add (h a (by omega) (by omega))]
    rcases last_cases (freeTo t a) with h0 | ⟨M, s, h0⟩
    · rw [h0]; rfl
    · have g := free_gp (t := t) (n := a) (s := s) (by rw [h0]; simp)
      rw [h0, addF_snoc, if_neg]
      intro e
      have g1 := g.lt
      rcases hd with rfl | hd
      · omega
      · have := g.fr (a - 1) (by omega) (by omega)
        rw [hd] at this; cases this
  | k + 1, h => by
    rw [← Nat.add_assoc, free_add (h (a + (k + 1)) (by omega) (by omega)), free_run hd k fun q h1 h2 => h q h1 (by omega), addF_snoc, if_pos rfl]
theorem free_more {t : Nat → Bool} {a b : Nat} (hd : a = 0 ∨ t (a - 1) = true) (hab : a < b) (h : ∀ q, a ≤ q → q < b → t q = false) : freeTo t b = freeTo t a ++ [(a, b)] := by
  obtain ⟨k, rfl⟩ : ∃ k, b = a + (k + 1) := ⟨b - a - 1, by omega⟩
  exact free_run hd k h
/-- what is free lies in one of them -/
theorem free_in {t : Nat → Bool} {p k : Nat} (hk : 0 < k) (hf : ∀ q, p ≤ q → q < p + k → t q = false) : ∀ n, p + k ≤ n → ∃ s ∈ freeTo t n, s.1 ≤ p ∧ p + k ≤ s.2
  | 0, h => by omega
  | n + 1, h => by
    rcases Nat.lt_or_ge n (p + k) with hl | hl
    · have ht := hf n (by omega) hl
      have hin : ∃ s ∈ freeTo t (n + 1), s.2 = n + 1 := by
        rw [free_add ht]
        rcases last_cases (freeTo t n) with h0 | ⟨M, s, h0⟩
        · rw [h0]; exact ⟨_, by simp [addF_nil]; rfl, rfl⟩
        · rw [h0, addF_snoc]
          split
          · exact ⟨_, by simp; exact .inr rfl, rfl⟩
          · exact ⟨_, by simp; exact .inr (.inr rfl), rfl⟩
      obtain ⟨s, hs, he⟩ := hin
      have g := free_gp hs
      refine ⟨s, hs, ?_, by omega⟩
      apply Nat.le_of_not_lt
      intro hlt
      rcases g.hd with h0 | h0
      · omega
      · have := hf (s.1 - 1) (by omega) (by have := g.lt; omega)
        rw [h0] at this; cases this
    · obtain ⟨s, hs, h1, h2⟩ := free_in hk hf n hl
      cases ht : t n with
      | true => rw [free_taken ht]; exact ⟨s, hs, h1, h2⟩
      | false =>
        rw [free_add ht]
        rcases last_cases (freeTo t n) with h0 | ⟨M, s', h0⟩
        · rw [h0] at hs; cases hs
        · rw [h0] at hs ⊢
          rw [addF_snoc]
          split
          · rename_i he
            rcases List.mem_append.1 hs with hs | hs
            · exact ⟨s, List.mem_append_left _ hs, h1, h2⟩
            · obtain rfl := List.mem_singleton.1 hs
              exact ⟨_, List.mem_append_right _ (List.mem_singleton.2 rfl), h1, by dsimp only; omega⟩
          · exact ⟨s, List.mem_append_left _ hs, h1, h2⟩

/-! ### the iterator's course -/
/-- behind the first of them, sorted by where they begin: how far it has come -/
def atF : List Ai → Int
  | [] => 0
  | s :: l => max s.2 (atF l)
def endG (l : List Ai) : Int := atF l
theorem atF_nonneg : ∀ l : List Ai, 0 ≤ atF l
  | [] => Int.le_refl _
  | s :: l => by have := atF_nonneg l; unfold atF; omega
theorem atF_ge {l : List Ai} {s : Ai} (h : s ∈ l) : s.2 ≤ atF l := by
  induction l with
  | nil => cases h
  | cons a l ih =>
    unfold atF
    rcases List.mem_cons.1 h with rfl | h
    · omega
    · have := ih h; omega
theorem atF_snoc : ∀ (l : List Ai) (s : Ai), atF (l ++ [s]) = max (atF l) s.2
  | [], s => by simp only [List.nil_append, atF]; omega
  | a :: l, s => by rw [List.cons_append]; unfold atF; rw [atF_snoc l s]; omega
/-- behind the greatest end: either it is 0, or the place ahead of it is taken -/
theorem atF_hd : ∀ l : List Ai, (∀ s ∈ l, s.1 < s.2) → atF l = 0 ∨ inB l (atF l - 1) = true
  | [], _ => .inl rfl
  | s :: l, h => by
    by_cases h1 : atF l ≤ s.2
    · by_cases h2 : 0 < s.2
      · refine .inr ?_
        have e : atF (s :: l) = s.2 := by show max s.2 (atF l) = _; omega
        rw [e, inB_iff]
        exact ⟨s, by simp, by have := h s (by simp); omega, by omega⟩
      · refine .inl ?_
        have := atF_nonneg l
        show max s.2 (atF l) = 0; omega
    · have e : atF (s :: l) = atF l := by show max s.2 (atF l) = _; omega
      rw [e]
      rcases atF_hd l fun x hx => h x (by simp [hx]) with h2 | h2
      · exact .inl h2
      · refine .inr ?_
        obtain ⟨x, hx, h3⟩ := inB_iff.1 h2
        exact inB_iff.2 ⟨x, by simp [hx], h3⟩
/-- those that take a place that counts -/
def keepB (limit : Nat) (s : Ai) : Bool := decide (s.1 < s.2) && decide (s.1 < (limit : Int)) && decide (0 < s.2)
theorem keepB_iff {limit : Nat} {s : Ai} : keepB limit s = true ↔ s.1 < s.2 ∧ s.1 < (limit : Int) ∧ 0 < s.2 := by
  unfold keepB; simp [and_assoc]
theorem tkn_keep {l : List Ai} {limit p : Nat} (hp : p < limit) : tkn (l.filter (keepB limit)) p = tkn l p := by
  unfold tkn
  rw [Bool.eq_iff_iff, inB_iff, inB_iff]
  constructor
  · rintro ⟨s, hs, h⟩
    exact ⟨s, (List.mem_filter.1 hs).1, h⟩
  · rintro ⟨s, hs, h⟩
    exact ⟨s, List.mem_filter.2 ⟨hs, keepB_iff.2 ⟨by omega, by omega, by omega⟩⟩, h⟩
theorem free_congr {t u : Nat → Bool} : ∀ n, (∀ p, p < n → t p = u p) → freeTo t n = freeTo u n
  | 0, _ => rfl
  | n + 1, h => by
    have ih := free_congr n fun p hp => h p (by omega)
    cases ht : t n with
    | true => rw [free_taken ht, free_taken (by rw [← h n (by omega)]; exact ht), ih]
    | false => rw [free_add ht, free_add (by rw [← h n (by omega)]; exact ht), ih]
/-- **one step of it**: S is sorted, k of them are behind; a is how far it has come -/
theorem free_step {S : List Ai} {limit k : Nat} (hs : S.Pairwise fun a b => a.1 ≤ b.1) (hk : ∀ s ∈ S, keepB limit s = true) (hlt : k < S.length) :
    let a := atF (S.take k); let f := (S.getD k (0, 0)).1
    (a < f → freeTo (tkn S) (min f.toNat limit) = freeTo (tkn S) (min a.toNat limit) ++ [(a.toNat, f.toNat)]) ∧
    freeTo (tkn S) (min (atF (S.take (k + 1))).toNat limit) = if a < f then freeTo (tkn S) (min a.toNat limit) ++ [(a.toNat, f.toNat)] else freeTo (tkn S) (min a.toNat limit) := by
  intro a f
  have hmem : S.getD k (0, 0) ∈ S := by
    rw [List.getD_eq_getElem?_getD, List.getElem?_eq_getElem hlt]; exact List.getElem_mem hlt
  obtain ⟨x1, x2, x3⟩ := keepB_iff.1 (hk _ hmem)
  have htk : S.take (k + 1) = S.take k ++ [S.getD k (0, 0)] := by
    rw [List.take_succ_eq_append_getElem hlt, List.getD_eq_getElem?_getD, List.getElem?_eq_getElem hlt]; rfl
  have ha0 : 0 ≤ a := atF_nonneg _
  have hnext : atF (S.take (k + 1)) = max a (S.getD k (0, 0)).2 := by rw [htk, atF_snoc]
  have hlater : ∀ s ∈ S, s ∈ S.take k ∨ f ≤ s.1 := by
    intro s hsm
    obtain ⟨i, hi, rfl⟩ := List.mem_iff_getElem.1 hsm
    rcases Nat.lt_or_ge i k with h | h
    · exact .inl (List.mem_take_iff_getElem.2 ⟨i, by omega, rfl⟩)
    · refine .inr ?_
      show (S.getD k (0, 0)).1 ≤ _
      rw [List.getD_eq_getElem?_getD, List.getElem?_eq_getElem hlt]
      rcases Nat.lt_or_ge k i with h2 | h2
      · exact List.pairwise_iff_getElem.1 hs k i hlt hi h2
      · obtain rfl : i = k := by omega
        exact Int.le_refl _
  have hfl : a < f → f.toNat ≤ limit := fun h => by show (S.getD k (0, 0)).1.toNat ≤ limit; omega
  have hfree : ∀ q : Nat, a.toNat ≤ q → q < f.toNat → tkn S q = false := by
    intro q h1 h2
    cases hq : tkn S q with
    | false => rfl
    | true =>
      obtain ⟨s, hsm, h3, h4⟩ := inB_iff.1 hq
      rcases hlater s hsm with h5 | h5
      · have := atF_ge h5
        have : s.2 ≤ a := this
        omega
      · omega
  have hrun : a < f → freeTo (tkn S) (min f.toNat limit) = freeTo (tkn S) (min a.toNat limit) ++ [(a.toNat, f.toNat)] := by
    intro hlt2
    have := hfl hlt2
    rw [Nat.min_eq_left this, Nat.min_eq_left (by omega)]
    refine free_more ?_ (by omega) hfree
    rcases atF_hd (S.take k) (fun s h => (keepB_iff.1 (hk s (List.mem_of_mem_take h))).1) with h | h
    · exact .inl (by show (atF (S.take k)).toNat = 0; omega)
    · by_cases h0 : a = 0
      · exact .inl (by omega)
      · refine .inr ?_
        unfold tkn
        rw [show ((a.toNat - 1 : Nat) : Int) = a - 1 by omega]
        obtain ⟨s, h1, h2⟩ := inB_iff.1 h
        exact inB_iff.2 ⟨s, List.mem_of_mem_take h1, h2⟩
  refine ⟨hrun, ?_⟩
  have hin : ∀ q : Nat, f ≤ (q : Int) → (q : Int) < (S.getD k (0, 0)).2 → tkn S q = true := fun q h1 h2 => inB_iff.2 ⟨_, hmem, h1, h2⟩
  rw [hnext]
  split
  · rename_i h
    rw [← hrun h]
    have h1 := hfl h
    exact free_to (by show min (S.getD k (0, 0)).1.toNat limit ≤ _; omega) fun q h2 h3 => hin q (by show (S.getD k (0, 0)).1 ≤ _; omega) (by show _ < (S.getD k (0, 0)).2; omega)
  · rename_i h
    exact free_to (by omega) fun q h2 h3 => hin q (by omega) (by show _ < (S.getD k (0, 0)).2; omega)
/-- its end -/
theorem free_end {S : List Ai} {limit : Nat} (hk : ∀ s ∈ S, keepB limit s = true) :
    freeTo (tkn S) limit = if atF S < (limit : Int) then freeTo (tkn S) (min (atF S).toNat limit) ++ [((atF S).toNat, limit)] else freeTo (tkn S) (min (atF S).toNat limit) := by
  have ha0 := atF_nonneg S
  split
  · rename_i h
    rw [Nat.min_eq_left (by omega)]
    refine free_more ?_ (by omega) fun q h1 h2 => ?_
    · rcases atF_hd S (fun s h => (keepB_iff.1 (hk s h)).1) with h | h
      · exact .inl (by omega)
      · by_cases h0 : atF S = 0
        · exact .inl (by omega)
        · refine .inr ?_
          unfold tkn
          rw [show (((atF S).toNat - 1 : Nat) : Int) = atF S - 1 by omega]
          exact h
    · cases hq : tkn S q with
      | false => rfl
      | true =>
        obtain ⟨s, hsm, h3, h4⟩ := inB_iff.1 hq
        have := atF_ge hsm
        omega
  · rename_i h
    rw [Nat.min_eq_right (by omega)]

/-! ### the first place -/
def upF (n a : Nat) : Nat := (n + a - 1) / a * a
theorem upF_ge {n a : Nat} (ha : 0 < a) : n ≤ upF n a := by
  unfold upF
  have h1 := Nat.div_add_mod (n + a - 1) a
  have h2 := Nat.mod_lt (n + a - 1) ha
  rw [Nat.mul_comm] at h1
  omega
theorem upF_mod (n a : Nat) : upF n a % a = 0 := Nat.mul_mod_left _ _
theorem upF_le {n a p : Nat} (ha : 0 < a) (hp : p % a = 0) (h : n ≤ p) : upF n a ≤ p := by
  unfold upF
  obtain ⟨m, rfl⟩ : ∃ m, p = m * a := ⟨p / a, by have := Nat.div_add_mod p a; rw [Nat.mul_comm] at this; omega⟩
  refine Nat.mul_le_mul_right a ?_
  refine Nat.le_of_lt_succ ((Nat.div_lt_iff_lt_mul ha).2 ?_)
  rw [Nat.succ_mul]; omega
theorem upF_lt {n a : Nat} (ha : 0 < a) : upF n a < n + a := by
  unfold upF
  have h1 := Nat.div_add_mod (n + a - 1) a
  have h2 := Nat.mod_lt (n + a - 1) ha
  rw [Nat.mul_comm] at h1
  omega
/-- does a size fit there? -/
def fitsB (t : Nat → Bool) (size align limit p : Nat) : Bool := decide (p % align = 0) && decide (p + size ≤ limit) && (List.range size).all fun k => !t (p + k)
theorem fitsB_iff {t : Nat → Bool} {size align limit p : Nat} : fitsB t size align limit p = true ↔ p % align = 0 ∧ p + size ≤ limit ∧ ∀ q, p ≤ q → q < p + size → t q = false := by
  unfold fitsB
  rw [Bool.and_eq_true, Bool.and_eq_true, decide_eq_true_iff, decide_eq_true_iff, List.all_eq_true, and_assoc]
  refine and_congr_right fun _ => and_congr_right fun _ => ⟨fun h q h1 h2 => ?_, fun h k hk => ?_⟩
  · have := h (q - p) (by simp; omega)
    rw [show p + (q - p) = q by omega] at this
    simpa using this
  · rw [List.mem_range] at hk
    rw [h (p + k) (by omega) (by omega)]; rfl
/-- the least place at which it does -/
def firstF (t : Nat → Bool) (size align limit : Nat) : Option Nat := (List.range (limit + 1)).find? (fitsB t size align limit)
theorem firstF_some {t : Nat → Bool} {size align limit p : Nat} : firstF t size align limit = some p ↔ fitsB t size align limit p = true ∧ ∀ q, q < p → fitsB t size align limit q = false := by
  unfold firstF
  rw [List.find?_range_eq_some]
  constructor
  · rintro ⟨h1, _, h3⟩
    exact ⟨h1, fun q hq => by have := h3 q hq; simpa using this⟩
  · rintro ⟨h1, h2⟩
    have := (fitsB_iff.1 h1).2.1
    exact ⟨h1, by simp; omega, fun q hq => by rw [h2 q hq]; rfl⟩
theorem firstF_none {t : Nat → Bool} {size align limit : Nat} : firstF t size align limit = none ↔ ∀ q, fitsB t size align limit q = false := by
  unfold firstF
  rw [List.find?_eq_none]
  constructor
  · intro h q
    cases hq : fitsB t size align limit q with
    | false => rfl
    | true =>
      have := (fitsB_iff.1 hq).2.1
      exact absurd hq (h q (by simp; omega))
  · intro h q _
    rw [h q]; simp
theorem firstF_zero {t : Nat → Bool} {align limit : Nat} : firstF t 0 align limit = some 0 :=
  firstF_some.2 ⟨fitsB_iff.2 ⟨Nat.zero_mod _, by omega, fun q h1 h2 => by omega⟩, fun q h => by omega⟩
/-- does a stretch hold the size? -/
def holdB (size align : Nat) (s : Nat × Nat) : Bool := decide (upF s.1 align + size ≤ s.2)
/-- the first stretch that holds it says where -/
theorem first_hit {t : Nat → Bool} {size align limit : Nat} (ha : 0 < align) (hz : 0 < size) {pre post : List (Nat × Nat)} {s : Nat × Nat} (hL : freeTo t limit = pre ++ s :: post) (hp : ∀ x ∈ pre, holdB size align x = false) (hs : holdB size align s = true) :
    firstF t size align limit = some (upF s.1 align) := by
  have hm : s ∈ freeTo t limit := by rw [hL]; simp
  have g := free_gp hm
  have h1 : upF s.1 align + size ≤ s.2 := of_decide_eq_true hs
  refine firstF_some.2 ⟨fitsB_iff.2 ⟨upF_mod _ _, by have := g.le; omega, fun q h2 h3 => g.fr q (by have := upF_ge (n := s.1) ha; omega) (by omega)⟩, fun q hq => ?_⟩
  cases hf : fitsB t size align limit q with
  | false => rfl
  | true =>
    obtain ⟨f1, f2, f3⟩ := fitsB_iff.1 hf
    obtain ⟨s', hm', k1, k2⟩ := free_in hz f3 limit f2
    have hh : holdB size align s' = true := decide_eq_true (by have := upF_le ha f1 k1; omega)
    rw [hL] at hm'
    rcases List.mem_append.1 hm' with h | h
    · rw [hp s' h] at hh; cases hh
    · rcases List.mem_cons.1 h with rfl | h
      · have := upF_le ha f1 k1; omega
      · have hpw := free_pw t limit
        rw [hL] at hpw
        have := (List.pairwise_cons.1 (List.pairwise_append.1 hpw).2.1).1 s' h
        omega
theorem first_miss {t : Nat → Bool} {size align limit : Nat} (ha : 0 < align) (hz : 0 < size) (hp : ∀ x ∈ freeTo t limit, holdB size align x = false) : firstF t size align limit = none := by
  refine firstF_none.2 fun q => ?_
  cases hf : fitsB t size align limit q with
  | false => rfl
  | true =>
    obtain ⟨f1, f2, f3⟩ := fitsB_iff.1 hf
    obtain ⟨s', hm', k1, k2⟩ := free_in hz f3 limit f2
    have hh : holdB size align s' = true := decide_eq_true (by have := upF_le ha f1 k1; omega)
    rw [hp s' hm'] at hh; cases hh
theorem upF_mono {a b n : Nat} (h : a ≤ b) : upF a n ≤ upF b n := Nat.mul_le_mul_right _ (Nat.div_le_div_right (by omega))
/-- too far behind: so are all that come later -/
theorem first_stop {t : Nat → Bool} {size align limit : Nat} (ha : 0 < align) (hz : 0 < size) {pre post : List (Nat × Nat)} {s : Nat × Nat} (hL : freeTo t limit = pre ++ s :: post) (hp : ∀ x ∈ pre, holdB size align x = false) (hs : limit < upF s.1 align + size) :
    firstF t size align limit = none := by
  refine first_miss ha hz fun x hx => ?_
  have g := free_gp hx
  rw [hL] at hx
  rcases List.mem_append.1 hx with h | h
  · exact hp x h
  · refine decide_eq_false ?_
    have : s.1 ≤ x.1 := by
      rcases List.mem_cons.1 h with rfl | h
      · omega
      · have hpw := free_pw t limit
        have gs := free_gp (t := t) (n := limit) (s := s) (by rw [hL]; simp)
        rw [hL] at hpw
        have := (List.pairwise_cons.1 (List.pairwise_append.1 hpw).2.1).1 x h
        have := gs.lt
        omega
    have := upF_mono (n := align) this
    have := g.le
    omega
theorem firstF_congr {t u : Nat → Bool} {size align limit : Nat} (h : ∀ p, p < limit → t p = u p) : firstF t size align limit = firstF u size align limit := by
  have : ∀ p, fitsB t size align limit p = fitsB u size align limit p := fun p => by
    rw [Bool.eq_iff_iff, fitsB_iff, fitsB_iff]
    constructor
    · rintro ⟨a, b, c⟩; exact ⟨a, b, fun q h1 h2 => by rw [← h q (by omega)]; exact c q h1 h2⟩
    · rintro ⟨a, b, c⟩; exact ⟨a, b, fun q h1 h2 => by rw [h q (by omega)]; exact c q h1 h2⟩
  unfold firstF
  congr 1
  funext p; exact this p
end Go.Proofs.Ytpnpbnfjhnmhjaa
