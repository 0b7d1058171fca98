/-
  The tokens of a text, as a plain function; what is printed is read again; blanks and remarks; places rise.
-/
import Derived.Test.YtohmenghlboalaaDoorLxM
namespace Go.Proofs.YtohmenghlboalaaDoor
set_option linter.unusedVariables false
set_option linter.unusedSimpArgs false

def tkw (p : UInt8 → Bool) (l : List UInt8) : Nat := (l.takeWhile p).length
def nnl (c : UInt8) : Bool := decide (c ≠ 10)
theorem tkw_nil (p : UInt8 → Bool) : tkw p [] = 0 := rfl
theorem tkw_pos {p : UInt8 → Bool} {c : UInt8} (r : List UInt8) (h : p c = true) : tkw p (c :: r) = tkw p r + 1 := by
  unfold tkw; rw [List.takeWhile_cons_of_pos h]; rfl
theorem tkw_neg {p : UInt8 → Bool} {c : UInt8} (r : List UInt8) (h : p c = false) : tkw p (c :: r) = 0 := by
  unfold tkw; rw [List.takeWhile_cons_of_neg (by simp [h])]; rfl
theorem tkw_le (p : UInt8 → Bool) : ∀ l : List UInt8, tkw p l ≤ l.length
  | [] => Nat.le_refl _
  | c :: r => by
    cases h : p c with
    | true => rw [tkw_pos r h]; have := tkw_le p r; simp; omega
    | false => rw [tkw_neg r h]; simp
theorem tkw_all {p : UInt8 → Bool} : ∀ {l : List UInt8}, l.all p = true → tkw p l = l.length
  | [], _ => rfl
  | c :: r, h => by
    simp only [List.all_cons, Bool.and_eq_true] at h
    rw [tkw_pos r h.1, tkw_all h.2]; rfl
theorem all_tkw {p : UInt8 → Bool} : ∀ {l : List UInt8}, tkw p l = l.length → l.all p = true
  | [], _ => rfl
  | c :: r, h => by
    cases hc : p c with
    | true =>
      rw [tkw_pos r hc] at h
      simp only [List.all_cons, Bool.and_eq_true]
      exact ⟨hc, all_tkw (by simpa using h)⟩
    | false => rw [tkw_neg r hc] at h; simp at h
theorem tkw_stop {p : UInt8 → Bool} {b : UInt8} (hb : p b = false) (q : List UInt8) : ∀ {l : List UInt8}, l.all p = true → tkw p (l ++ b :: q) = l.length
  | [], _ => tkw_neg q hb
  | c :: r, h => by
    simp only [List.all_cons, Bool.and_eq_true] at h
    show tkw p (c :: (r ++ b :: q)) = _
    rw [tkw_pos _ h.1, tkw_stop hb q h.2]; rfl
theorem all_take (p : UInt8 → Bool) : ∀ l : List UInt8, (l.take (tkw p l)).all p = true
  | [] => rfl
  | c :: r => by
    cases hc : p c with
    | true => rw [tkw_pos r hc, List.take_succ_cons]; simp only [List.all_cons, Bool.and_eq_true]; exact ⟨hc, all_take p r⟩
    | false => rw [tkw_neg r hc]; rfl
theorem tkw_take (p : UInt8 → Bool) (l : List UInt8) : tkw p (l.take (tkw p l)) = tkw p l := by
  rw [tkw_all (all_take p l), List.length_take, Nat.min_eq_left (tkw_le p l)]

/-- the token that bytes begin with: its kind, how many bytes it has behind its first one, its number -/
def fstF : List UInt8 → Option (Nat × Nat × Int)
  | [] => none
  | c :: r =>
    if isL c = true then some (1, tkw isW r, 0)
    else if isD c = true ∨ c = 45 then (numF (c :: r.take (tkw isD r))).map fun z => (2, tkw isD r, z)
    else if isM c = true then some (3, 0, 0)
    else none
theorem fstF_cons (c : UInt8) (r : List UInt8) : fstF (c :: r) =
    if isL c = true then some (1, tkw isW r, 0)
    else if isD c = true ∨ c = 45 then (numF (c :: r.take (tkw isD r))).map fun z => (2, tkw isD r, z)
    else if isM c = true then some (3, 0, 0)
    else none := rfl
structure Tk where
  k : Nat
  t : List UInt8
  n : Int
  ln : Nat
  cl : Nat
def lexG : Nat → List UInt8 → Nat → Nat → Bool → List Tk × Option (Nat × Nat)
  | 0, _, _, _, _ => ([], none)
  | _ + 1, [], _, _, _ => ([], none)
  | f + 1, c :: r, ln, cl, bh =>
    if c = 35 then lexG f (r.drop (tkw nnl r)) ln (cl + 1 + tkw nnl r) false
    else if c = 10 then lexG f r (ln + 1) 1 false
    else if isB c = true then lexG f r ln (cl + 1) false
    else match fstF (c :: r) with
      | none => ([], some (ln, cl))
      | some x =>
        if bh = true ∧ x.1 = 1 then ([], some (ln, cl))
        else (⟨x.1, c :: r.take x.2.1, x.2.2, ln, cl⟩ :: (lexG f (r.drop x.2.1) ln (cl + 1 + x.2.1) (x.1 == 2)).1, (lexG f (r.drop x.2.1) ln (cl + 1 + x.2.1) (x.1 == 2)).2)
theorem lexG_fuel : ∀ (f g : Nat) (l : List UInt8) (ln cl : Nat) (bh : Bool), l.length < f → l.length < g → lexG f l ln cl bh = lexG g l ln cl bh
  | 0, _, _, _, _, _, h, _ => by omega
  | _ + 1, 0, _, _, _, _, _, h => by omega
  | _ + 1, _ + 1, [], _, _, _, _, _ => rfl
  | f + 1, g + 1, c :: r, ln, cl, bh, h1, h2 => by
    simp only [List.length_cons] at h1 h2
    have hd : ∀ m, (r.drop m).length < f ∧ (r.drop m).length < g := fun m => by rw [List.length_drop]; omega
    unfold lexG
    rw [lexG_fuel f g _ ln _ false (hd _).1 (hd _).2, lexG_fuel f g r (ln + 1) 1 false (by omega) (by omega), lexG_fuel f g r ln (cl + 1) false (by omega) (by omega)]
    have hs : ∀ m b, lexG f (r.drop m) ln (cl + 1 + m) b = lexG g (r.drop m) ln (cl + 1 + m) b := fun m b => lexG_fuel f g _ ln _ b (hd m).1 (hd m).2
    simp only [hs]
def lexL (l : List UInt8) (ln cl : Nat) (bh : Bool) : List Tk × Option (Nat × Nat) := lexG (l.length + 1) l ln cl bh
theorem lexL_of {f : Nat} {l : List UInt8} {ln cl : Nat} {bh : Bool} (h : l.length < f) : lexG f l ln cl bh = lexL l ln cl bh := lexG_fuel f _ l ln cl bh h (Nat.lt_succ_self _)
theorem lexL_nil (ln cl : Nat) (bh : Bool) : lexL [] ln cl bh = ([], none) := rfl
theorem lexL_cons (c : UInt8) (r : List UInt8) (ln cl : Nat) (bh : Bool) : lexL (c :: r) ln cl bh =
    if c = 35 then lexL (r.drop (tkw nnl r)) ln (cl + 1 + tkw nnl r) false
    else if c = 10 then lexL r (ln + 1) 1 false
    else if isB c = true then lexL r ln (cl + 1) false
    else match fstF (c :: r) with
      | none => ([], some (ln, cl))
      | some x =>
        if bh = true ∧ x.1 = 1 then ([], some (ln, cl))
        else (⟨x.1, c :: r.take x.2.1, x.2.2, ln, cl⟩ :: (lexL (r.drop x.2.1) ln (cl + 1 + x.2.1) (x.1 == 2)).1, (lexL (r.drop x.2.1) ln (cl + 1 + x.2.1) (x.1 == 2)).2) := by
  have hd : ∀ m, (r.drop m).length < r.length + 1 := fun m => by rw [List.length_drop]; omega
  show lexG (r.length + 1 + 1) (c :: r) ln cl bh = _
  rw [lexG]
  have hs : ∀ m b, lexG (r.length + 1) (r.drop m) ln (cl + 1 + m) b = lexL (r.drop m) ln (cl + 1 + m) b := fun m b => lexL_of (hd m)
  simp only [hs]
  rw [lexL_of (Nat.lt_succ_self _), lexL_of (Nat.lt_succ_self _)]

section
variable {c : UInt8} {r : List UInt8} {ln cl : Nat} {bh : Bool}
theorem lexL_rem (h : c = 35) : lexL (c :: r) ln cl bh = lexL (r.drop (tkw nnl r)) ln (cl + 1 + tkw nnl r) false := by rw [lexL_cons, if_pos h]
theorem lexL_nl (h : c = 10) : lexL (c :: r) ln cl bh = lexL r (ln + 1) 1 false := by rw [lexL_cons, if_neg (by subst h; decide), if_pos h]
theorem lexL_bl (h : isB c = true) : lexL (c :: r) ln cl bh = lexL r ln (cl + 1) false := by
  rw [lexL_cons, if_neg (by rintro rfl; revert h; decide), if_neg (by rintro rfl; revert h; decide), if_pos h]
theorem fst_head {x : Nat × Nat × Int} (h : fstF (c :: r) = some x) : c ≠ 35 ∧ c ≠ 10 ∧ isB c = false := by
  have : isL c = true ∨ isD c = true ∨ c = 45 ∨ isM c = true := by
    rw [fstF_cons] at h
    split at h
    · rename_i h1; exact .inl h1
    · split at h
      · rename_i h2; rcases h2 with h2 | h2
        · exact .inr (.inl h2)
        · exact .inr (.inr (.inl h2))
      · split at h
        · rename_i h3; exact .inr (.inr (.inr h3))
        · cases h
  clear h
  revert c
  have key : ∀ c : Fin 256, (let c := UInt8.ofNat c.val; isL c = true ∨ isD c = true ∨ c = 45 ∨ isM c = true) → (let c := UInt8.ofNat c.val; c ≠ 35 ∧ c ≠ 10 ∧ isB c = false) := by decide +kernel
  intro c h
  have := key ⟨c.toNat, c.toNat_lt⟩
  simp only [UInt8.ofNat_toNat] at this
  exact this h
theorem lexL_tok {x : Nat × Nat × Int} (h : fstF (c :: r) = some x) (hb : ¬ (bh = true ∧ x.1 = 1)) : lexL (c :: r) ln cl bh =
    (⟨x.1, c :: r.take x.2.1, x.2.2, ln, cl⟩ :: (lexL (r.drop x.2.1) ln (cl + 1 + x.2.1) (x.1 == 2)).1, (lexL (r.drop x.2.1) ln (cl + 1 + x.2.1) (x.1 == 2)).2) := by
  obtain ⟨h1, h2, h3⟩ := fst_head h
  rw [lexL_cons, if_neg h1, if_neg h2, if_neg (by simp [h3]), h]
  show (if _ then _ else _) = _
  rw [if_neg hb]
theorem lexL_bar {x : Nat × Nat × Int} (h : fstF (c :: r) = some x) (hb : bh = true ∧ x.1 = 1) : lexL (c :: r) ln cl bh = ([], some (ln, cl)) := by
  obtain ⟨h1, h2, h3⟩ := fst_head h
  rw [lexL_cons, if_neg h1, if_neg h2, if_neg (by simp [h3]), h]
  show (if _ then _ else _) = _
  rw [if_pos hb]
theorem lexL_err (h : fstF (c :: r) = none) (h1 : c ≠ 35) (h2 : c ≠ 10) (h3 : isB c = false) : lexL (c :: r) ln cl bh = ([], some (ln, cl)) := by
  rw [lexL_cons, if_neg h1, if_neg h2, if_neg (by simp [h3]), h]
end

/-! ### a token by itself -/
theorem fst_le {c : UInt8} {r : List UInt8} {x : Nat × Nat × Int} (h : fstF (c :: r) = some x) : x.2.1 ≤ r.length := by
  rw [fstF_cons] at h
  split at h
  · cases h; exact tkw_le _ _
  · split at h
    · rw [Option.map_eq_some_iff] at h; obtain ⟨z, _, rfl⟩ := h; exact tkw_le _ _
    · split at h
      · cases h; exact Nat.zero_le _
      · cases h
theorem fst_kind {c : UInt8} {r : List UInt8} {x : Nat × Nat × Int} (h : fstF (c :: r) = some x) : x.1 = 1 ∨ x.1 = 2 ∨ x.1 = 3 := by
  rw [fstF_cons] at h
  split at h
  · cases h; exact .inl rfl
  · split at h
    · rw [Option.map_eq_some_iff] at h; obtain ⟨z, _, rfl⟩ := h; exact .inr (.inl rfl)
    · split at h
      · cases h; exact .inr (.inr rfl)
      · cases h
theorem fst_take {c : UInt8} {r : List UInt8} {x : Nat × Nat × Int} (h : fstF (c :: r) = some x) : fstF (c :: r.take x.2.1) = some x := by
  rw [fstF_cons] at h ⊢
  split at h
  · rename_i h1; cases h; dsimp only; rw [if_pos h1, tkw_take]
  · rename_i h1
    rw [if_neg h1]
    split at h
    · rename_i h2
      rw [if_pos h2]
      rw [Option.map_eq_some_iff] at h
      obtain ⟨z, h3, rfl⟩ := h
      dsimp only
      rw [tkw_take, List.take_take, Nat.min_self, h3]; rfl
    · rename_i h2
      rw [if_neg h2]
      split at h
      · rename_i h3; cases h; rw [if_pos h3]
      · cases h
theorem w_of_d {b : UInt8} (h : isW b = false) : isD b = false := by
  simp only [isW, Bool.or_eq_false_iff] at h; exact h.2.1
/-- a token that is a whole text is told as well where a byte of no word stands behind it -/
theorem fst_more {c : UInt8} {r : List UInt8} {k : Nat} {z : Int} (h : fstF (c :: r) = some (k, r.length, z)) {b : UInt8} (hb : isW b = false) (q : List UInt8) : fstF (c :: (r ++ b :: q)) = some (k, r.length, z) := by
  rw [fstF_cons] at h ⊢
  split at h
  · rename_i h1
    rw [if_pos h1]
    simp only [Option.some.injEq, Prod.mk.injEq] at h
    obtain ⟨rfl, hr, rfl⟩ := h
    rw [tkw_stop hb q (all_tkw hr)]
  · rename_i h1
    rw [if_neg h1]
    split at h
    · rename_i h2
      rw [if_pos h2]
      rw [Option.map_eq_some_iff] at h
      obtain ⟨y, h3, h4⟩ := h
      simp only [Prod.mk.injEq] at h4
      obtain ⟨rfl, hr, rfl⟩ := h4
      rw [hr, List.take_length] at h3
      rw [tkw_stop (w_of_d hb) q (all_tkw hr), List.take_left', h3]
      · rfl
      · rfl
    · rename_i h2
      rw [if_neg h2]
      split at h
      · rename_i h3
        rw [if_pos h3]
        exact h
      · cases h

/-- what a token is that stands by itself -/
def okT (t : Tk) : Prop := ∃ c r, t.t = c :: r ∧ fstF (c :: r) = some (t.k, r.length, t.n)
def okB (t : Tk) : Bool := match t.t with
  | [] => false
  | c :: r => match fstF (c :: r) with
    | none => false
    | some x => x.1 == t.k && x.2.1 == r.length && decide (x.2.2 = t.n)
theorem okB_iff (t : Tk) : okB t = true ↔ okT t := by
  obtain ⟨k, l, n, ln, cl⟩ := t
  unfold okB okT
  cases l with
  | nil => constructor
           · intro h; cases h
           · rintro ⟨c, r, h, _⟩; cases h
  | cons c r =>
    dsimp only
    cases h : fstF (c :: r) with
    | none =>
      constructor
      · intro h; cases h
      · rintro ⟨c', r', h1, h2⟩; obtain ⟨rfl, rfl⟩ := List.cons.inj h1; rw [h] at h2; cases h2
    | some x =>
      dsimp only
      simp only [Bool.and_eq_true, beq_iff_eq, decide_eq_true_eq]
      constructor
      · rintro ⟨⟨h1, h2⟩, h3⟩
        exact ⟨c, r, rfl, by rw [h, ← h1, ← h2, ← h3]⟩
      · rintro ⟨c', r', h1, h2⟩
        obtain ⟨rfl, rfl⟩ := List.cons.inj h1
        rw [h] at h2
        obtain rfl := Option.some.inj h2
        exact ⟨⟨rfl, rfl⟩, rfl⟩
/-- the tokens of a text stand by themselves; none is longer than the text -/
theorem lex_ok : ∀ (n : Nat) (l : List UInt8) (ln cl : Nat) (bh : Bool), l.length ≤ n → ∀ t ∈ (lexL l ln cl bh).1, okT t ∧ t.t.length ≤ l.length := by
  intro n
  induction n with
  | zero => intro l ln cl bh h t ht; rw [List.length_eq_zero_iff.1 (Nat.le_zero.1 h)] at ht; cases ht
  | succ n ih =>
    intro l ln cl bh h t ht
    cases l with
    | nil => cases ht
    | cons c r =>
      simp only [List.length_cons] at h
      have hd : ∀ m, (r.drop m).length ≤ r.length := fun m => by rw [List.length_drop]; omega
      rw [lexL_cons] at ht
      split at ht
      · have := ih _ _ _ _ (Nat.le_trans (hd _) (by omega)) t ht; have h3 := hd (tkw nnl r); exact ⟨this.1, by simp only [List.length_cons]; omega⟩
      · split at ht
        · have := ih _ _ _ _ (by omega) t ht; exact ⟨this.1, by simp only [List.length_cons]; omega⟩
        · split at ht
          · have := ih _ _ _ _ (by omega) t ht; exact ⟨this.1, by simp only [List.length_cons]; omega⟩
          · split at ht
            · cases ht
            · rename_i x hx
              split at ht
              · cases ht
              · rcases List.mem_cons.1 ht with h1 | h1
                · subst h1
                  have hl : (r.take x.2.1).length = x.2.1 := by rw [List.length_take, Nat.min_eq_left (fst_le hx)]
                  refine ⟨⟨c, r.take x.2.1, rfl, ?_⟩, ?_⟩
                  · rw [hl]; exact fst_take hx
                  · simp only [List.length_cons, hl]; have := fst_le hx; omega
                · have := ih _ _ _ _ (Nat.le_trans (hd _) (by omega)) t h1; have h3 := hd x.2.1; exact ⟨this.1, by simp only [List.length_cons]; omega⟩

/-! ### what is printed is read again -/
def tkn (t : Tk) : Nat × List UInt8 × Int := (t.k, t.t, t.n)
/-- tokens, each with bytes behind it that begin with one of no word -/
def putF (sep : Tk → List UInt8) : List Tk → List UInt8
  | [] => []
  | t :: l => t.t ++ (sep t ++ putF sep l)
/-- a byte between tokens, or the beginning of a remark -/
theorem tok_put {t : Tk} (ht : okT t) {b : UInt8} (hb : isW b = false) (q : List UInt8) (ln cl : Nat) :
    lexL (t.t ++ b :: q) ln cl false = (⟨t.k, t.t, t.n, ln, cl⟩ :: (lexL (b :: q) ln (cl + t.t.length) (t.k == 2)).1, (lexL (b :: q) ln (cl + t.t.length) (t.k == 2)).2) := by
  obtain ⟨k, l, n, ln', cl'⟩ := t
  obtain ⟨c, r, h1, h2⟩ := ht
  dsimp only at h1 h2 ⊢
  subst h1
  have := lexL_tok (ln := ln) (cl := cl) (bh := false) (fst_more h2 hb q) (by simp)
  rw [List.cons_append, this]
  dsimp only
  rw [List.take_left', List.drop_left', List.length_cons, show cl + 1 + r.length = cl + (r.length + 1) by omega]
  · rfl
  · rfl
/-- P14.5, first half: tokens of what is printed -/
def sepP (t : Tk) : List UInt8 := if t.t = [59] ∨ t.t = [123] ∨ t.t = [125] then [10] else [32]
theorem put_back : ∀ (ts : List Tk) (ln cl : Nat), (∀ t ∈ ts, okT t) → (lexL (putF sepP ts) ln cl false).2 = none ∧ (lexL (putF sepP ts) ln cl false).1.map tkn = ts.map tkn
  | [], ln, cl, _ => ⟨rfl, rfl⟩
  | t :: l, ln, cl, h => by
    have h1 := h t (List.mem_cons_self ..)
    have h2 := fun u hu => h u (List.mem_cons_of_mem _ hu)
    rw [show putF sepP (t :: l) = t.t ++ (sepP t ++ putF sepP l) from rfl]
    have hs : sepP t = [10] ∨ sepP t = [32] := by unfold sepP; split; exact .inl rfl; exact .inr rfl
    rcases hs with hs | hs <;> rw [hs]
    · rw [List.singleton_append, tok_put h1 (by decide)]
      rw [lexL_nl rfl]
      have := put_back l (ln + 1) 1 h2
      exact ⟨this.1, by rw [List.map_cons, List.map_cons, this.2]; rfl⟩
    · rw [List.singleton_append, tok_put h1 (by decide)]
      rw [lexL_bl (by decide)]
      have := put_back l ln (cl + t.t.length + 1) h2
      exact ⟨this.1, by rw [List.map_cons, List.map_cons, this.2]; rfl⟩
/-- the blanks and the remark that LexBlanks puts behind each token -/
def sepB (_ : Tk) : List UInt8 := [32, 9, 35, 32, 63, 10, 13]
def lnB : Nat → Nat → List Tk → Prop
  | _, _, [] => True
  | ln, cl, t :: l => t.ln = ln ∧ t.cl = cl ∧ lnB (ln + 1) 2 l
theorem put_blanks : ∀ (ts : List Tk) (ln cl : Nat), (∀ t ∈ ts, okT t) → (lexL (putF sepB ts) ln cl false).2 = none ∧ (lexL (putF sepB ts) ln cl false).1.map tkn = ts.map tkn ∧ lnB ln cl (lexL (putF sepB ts) ln cl false).1
  | [], ln, cl, _ => ⟨rfl, rfl, trivial⟩
  | t :: l, ln, cl, h => by
    have h1 := h t (List.mem_cons_self ..)
    have h2 := fun u hu => h u (List.mem_cons_of_mem _ hu)
    have := put_blanks l (ln + 1) 2 h2
    rw [show putF sepB (t :: l) = t.t ++ (32 :: 9 :: 35 :: 32 :: 63 :: 10 :: 13 :: putF sepB l) from rfl]
    rw [tok_put h1 (by decide), lexL_bl (by decide), lexL_bl (by decide), lexL_rem rfl]
    have hk : tkw nnl (32 :: 63 :: 10 :: 13 :: putF sepB l) = 2 := by
      rw [tkw_pos _ (by decide), tkw_pos _ (by decide), tkw_neg _ (by decide)]
    rw [hk]
    show (lexL (10 :: 13 :: putF sepB l) _ _ false).2 = none ∧ _
    rw [show List.drop 2 (32 :: 63 :: 10 :: 13 :: putF sepB l) = 10 :: 13 :: putF sepB l from rfl, lexL_nl rfl, lexL_bl (by decide)]
    exact ⟨this.1, by rw [List.map_cons, List.map_cons, this.2.1]; rfl, rfl, rfl, this.2.2⟩

/-! ### places rise -/
def riseF : Nat → Nat → List Tk → Prop
  | _, _, [] => True
  | ln, cl, t :: l => (ln < t.ln ∨ ln = t.ln ∧ cl ≤ t.cl) ∧ riseF t.ln (t.cl + 1) l
theorem rise_mono : ∀ {l : List Tk} {a b c d : Nat}, (a < c ∨ a = c ∧ b ≤ d) → riseF c d l → riseF a b l
  | [], _, _, _, _, _, _ => trivial
  | t :: l, a, b, c, d, h, hr => ⟨by have := hr.1; omega, hr.2⟩
theorem lex_rise : ∀ (n : Nat) (l : List UInt8) (ln cl : Nat) (bh : Bool), l.length ≤ n → riseF ln cl (lexL l ln cl bh).1 := by
  intro n
  induction n with
  | zero => intro l ln cl bh h; rw [List.length_eq_zero_iff.1 (Nat.le_zero.1 h)]; exact trivial
  | succ n ih =>
    intro l ln cl bh h
    cases l with
    | nil => exact trivial
    | cons c r =>
      simp only [List.length_cons] at h
      have hd : ∀ m, (r.drop m).length ≤ n := fun m => by rw [List.length_drop]; omega
      rw [lexL_cons]
      split
      · exact rise_mono (.inr ⟨rfl, by omega⟩) (ih _ _ _ _ (hd _))
      · split
        · exact rise_mono (.inl (by omega)) (ih _ _ _ _ (by omega))
        · split
          · exact rise_mono (.inr ⟨rfl, by omega⟩) (ih _ _ _ _ (by omega))
          · split
            · exact trivial
            · split
              · exact trivial
              · exact ⟨.inr ⟨rfl, Nat.le_refl _⟩, rise_mono (.inr ⟨rfl, by dsimp only; omega⟩) (ih _ _ _ _ (hd _))⟩
/-- which token begins ahead of a place: the last one of which that holds -/
def atB (t : Tk) (line column : Int) : Bool := decide ((t.ln : Int) < line ∨ (t.ln : Int) = line ∧ (t.cl : Int) ≤ column)
def findF (l : List Tk) (line column : Int) : Nat → Int
  | 0 => -1
  | i + 1 => match l[i]? with
    | some t => if atB t line column = true then (i : Int) else findF l line column i
    | none => findF l line column i
theorem rise_at : ∀ {l : List Tk} {a b i : Nat} {t : Tk}, riseF a b l → l[i]? = some t → (a < t.ln ∨ a = t.ln ∧ b ≤ t.cl)
  | [], _, _, _, _, _, h => by cases h
  | u :: l, a, b, 0, t, hr, h => by obtain rfl := Option.some.inj h; exact hr.1
  | u :: l, a, b, i + 1, t, hr, h => by
    have := rise_at (i := i) hr.2 h
    have := hr.1
    omega
theorem rise_pair : ∀ {l : List Tk} {a b i j : Nat} {t u : Tk}, riseF a b l → l[i]? = some t → l[j]? = some u → i < j → (t.ln < u.ln ∨ t.ln = u.ln ∧ t.cl < u.cl)
  | [], _, _, _, _, _, _, _, h, _, _ => by cases h
  | v :: l, a, b, 0, 0, t, u, hr, h1, h2, h3 => by omega
  | v :: l, a, b, 0, j + 1, t, u, hr, h1, h2, h3 => by
    obtain rfl := Option.some.inj h1
    have := rise_at (i := j) hr.2 h2
    omega
  | v :: l, a, b, i + 1, 0, t, u, hr, h1, h2, h3 => by omega
  | v :: l, a, b, i + 1, j + 1, t, u, hr, h1, h2, h3 => rise_pair (i := i) (j := j) hr.2 h1 h2 (by omega)
theorem find_skip {l : List Tk} {line column : Int} : ∀ {n i : Nat}, i ≤ n → (∀ j t, i ≤ j → l[j]? = some t → atB t line column = false) → findF l line column n = findF l line column i
  | 0, i, h, _ => by obtain rfl : i = 0 := by omega
                     rfl
  | n + 1, i, h, hh => by
    rcases Nat.lt_or_ge n i with h1 | h1
    · obtain rfl : i = n + 1 := by omega
      rfl
    · rw [← find_skip h1 hh]
      conv => lhs; unfold findF
      split
      · rename_i t ht; rw [hh n t h1 ht]; rfl
      · rfl
theorem find_own {l : List Tk} {a b i : Nat} {t : Tk} (hr : riseF a b l) (h : l[i]? = some t) : findF l t.ln t.cl l.length = i := by
  have hi : i < l.length := (List.getElem?_eq_some_iff.1 h).1
  rw [find_skip (i := i + 1) hi]
  · unfold findF
    rw [h]
    dsimp only
    rw [if_pos (by simp [atB])]
  · intro j u hj hu
    have := rise_pair hr h hu hj
    simp only [atB, decide_eq_false_iff_not]
    omega
theorem find_ahead {l : List Tk} {a b i : Nat} {t : Tk} (hr : riseF a b l) (h : l[i]? = some t) : findF l t.ln ((t.cl : Int) - 1) l.length = (i : Int) - 1 := by
  have hi : i < l.length := (List.getElem?_eq_some_iff.1 h).1
  rw [find_skip (i := i) (by omega)]
  · cases i with
    | zero => rfl
    | succ i =>
      unfold findF
      rw [List.getElem?_eq_getElem (by omega)]
      dsimp only
      have := rise_pair hr (List.getElem?_eq_getElem (show i < l.length by omega)) h (by omega)
      rw [if_pos]
      · omega
      · simp only [atB, decide_eq_true_eq]; omega
  · intro j u hj hu
    simp only [atB, decide_eq_false_iff_not]
    rcases Nat.lt_or_ge i j with h1 | h1
    · have := rise_pair hr h hu h1; omega
    · obtain rfl : j = i := by omega
      rw [h] at hu; obtain rfl := Option.some.inj hu; omega
end Go.Proofs.YtohmenghlboalaaDoor
