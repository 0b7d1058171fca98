/-
  Texts and tokens, as plain functions of lists of bytes; numbers by digits.
-/
import Derived.Lib.ParseIntBCases
import Derived.Lib.ItoaNum
namespace Go.Proofs.YtohmenghlboalaaDoor
set_option linter.unusedVariables false
set_option linter.unusedSimpArgs false

def isL (c : UInt8) : Bool := decide (97 ≤ c.toNat ∧ c.toNat ≤ 122)
def isD (c : UInt8) : Bool := decide (48 ≤ c.toNat ∧ c.toNat ≤ 57)
def isW (c : UInt8) : Bool := isL c || (isD c || decide (c.toNat = 95))
def isM (c : UInt8) : Bool := decide (c.toNat ∈ [123, 125, 40, 41, 58, 59, 44, 61, 46])
def isB (c : UInt8) : Bool := decide (c.toNat = 32 ∨ c.toNat = 9 ∨ c.toNat = 13)

/-! ### numbers -/
def valA (acc : Nat) : List UInt8 → Nat
  | [] => acc
  | c :: r => valA (acc * 10 + (c.toNat - 48)) r
theorem valA_ge (l : List UInt8) : ∀ acc : Nat, acc * 10 ^ l.length ≤ valA acc l := by
  induction l with
  | nil => intro acc; show acc * 1 ≤ acc; omega
  | cons c r ih =>
    intro acc
    refine Nat.le_trans ?_ (ih (acc * 10 + (c.toNat - 48)))
    rw [List.length_cons, Nat.pow_succ, Nat.mul_comm (10 ^ r.length) 10, ← Nat.mul_assoc]
    exact Nat.mul_le_mul_right _ (by omega)
theorem valA_snoc : ∀ (l : List UInt8) (c : UInt8) (acc : Nat), valA acc (l ++ [c]) = valA acc l * 10 + (c.toNat - 48)
  | [], c, acc => rfl
  | d :: r, c, acc => by
    show valA _ (r ++ [c]) = _
    rw [valA_snoc r c]; rfl
/-- which digits may be a number -/
def okD (minus : Bool) (d : List UInt8) : Bool := decide (1 ≤ d.length ∧ d.length ≤ 10 ∧ ¬ (d.head? = some 48 ∧ (1 < d.length ∨ minus = true)))
def numF : List UInt8 → Option Int
  | [] => none
  | c :: r =>
    if c = 45 then (if okD true r = true ∧ valA 0 r ≤ 2147483648 then some (-(valA 0 r : Nat)) else none)
    else (if okD false (c :: r) = true ∧ valA 0 (c :: r) ≤ 2147483647 then some (valA 0 (c :: r) : Nat) else none)
theorem numF_minus (r : List UInt8) : numF (45 :: r) = if okD true r = true ∧ valA 0 r ≤ 2147483648 then some (-((valA 0 r : Nat) : Int)) else none := rfl
theorem numF_plain {c : UInt8} {r : List UInt8} (h : c ≠ 45) : numF (c :: r) = if okD false (c :: r) = true ∧ valA 0 (c :: r) ≤ 2147483647 then some ((valA 0 (c :: r) : Nat) : Int) else none := by
  show (if c = 45 then _ else _) = _
  rw [if_neg h]
theorem itoa_nn (u : Nat) : Lib.itoa (u : Int) = Lib.decDigits u := by
  unfold Lib.itoa
  rw [if_neg (by omega), show (u : Int).toNat = u by omega]
theorem itoa_ng (u : Nat) (h : 0 < u) : Lib.itoa (-(u : Int)) = 45 :: Lib.decDigits u := by
  unfold Lib.itoa
  rw [if_pos (by omega), show (-(u : Int)).natAbs = u by omega]
def progN (l : List UInt8) : Option Int :=
  match Lib.parseIntB 32 l with
  | .ok v => if Lib.itoa v = l then some v else none
  | _ => none
theorem parse_digits (M : Nat) (hM : M < 1844674407370955162) (l : List UInt8) : ∀ acc : Nat, l.all isD = true → acc ≤ M →
    Lib.parseUintM M acc l = if valA acc l ≤ M then .ok (valA acc l) else .range := by
  induction l with
  | nil => intro acc _ h; show _ = if acc ≤ M then _ else _; rw [if_pos h]; rfl
  | cons c r ih =>
    intro acc hd h
    simp only [List.all_cons, Bool.and_eq_true] at hd
    have hc : 48 ≤ c.toNat ∧ c.toNat ≤ 57 := by simpa [isD] using hd.1
    unfold Lib.parseUintM
    rw [if_pos hc, if_neg (by omega)]
    have hg := valA_ge r (acc * 10 + (c.toNat - 48))
    have hp : 1 ≤ 10 ^ r.length := Nat.pos_of_ne_zero (by simp)
    have hm := Nat.mul_le_mul_left (acc * 10 + (c.toNat - 48)) hp
    by_cases hx : M < acc * 10 + (c.toNat - 48)
    · rw [if_pos hx, if_neg (by show ¬ valA _ r ≤ M; omega)]
    · rw [if_neg hx]
      exact ih _ hd.2 (by omega)
theorem u8_back (c : UInt8) (h : isD c = true) : UInt8.ofNat (48 + (c.toNat - 48)) = c := by
  have hc : 48 ≤ c.toNat ∧ c.toNat ≤ 57 := by simpa [isD] using h
  rw [show 48 + (c.toNat - 48) = c.toNat by omega]
  exact UInt8.ofNat_toNat
theorem dec_head (u : Nat) (hu : 0 < u) : (Lib.decDigits u).head? ≠ some 48 := by
  induction u using Nat.strongRecOn with
  | _ u ih =>
    rw [Lib.decDigits]
    split
    · rename_i h
      intro e
      simp at e
      have e2 := congrArg UInt8.toNat e
      simp at e2
      omega
    · rename_i h
      have h1 := ih (u / 10) (by omega) (by omega)
      intro e
      cases hd : Lib.decDigits (u / 10) with
      | nil => have := Lib.decDigits_length (u / 10); rw [hd] at this; have := Lib.nDigits_pos (u / 10); simp at *; omega
      | cons a b => rw [hd] at e h1; exact h1 e
theorem dec_of : ∀ (n : Nat) (l : List UInt8), l.length = n → l.all isD = true → l ≠ [] → (l.head? ≠ some 48 ∨ l.length = 1) → Lib.decDigits (valA 0 l) = l := by
  intro n
  induction n with
  | zero => intro l hl _ h; exact absurd (List.length_eq_zero_iff.1 hl) h
  | succ n ih =>
    intro l hl hd hne hh
    have hsp := List.dropLast_concat_getLast hne
    generalize l.getLast hne = c at hsp
    generalize hd' : l.dropLast = d at hsp
    subst hsp
    clear hne hd'
    simp only [List.all_append, List.all_cons, List.all_nil, Bool.and_true, Bool.and_eq_true] at hd
    have hc : 48 ≤ c.toNat ∧ c.toNat ≤ 57 := by simpa [isD] using hd.2
    rw [valA_snoc]
    simp at hl
    cases d with
    | nil =>
      show Lib.decDigits (0 * 10 + _) = [c]
      rw [Lib.decDigits, dif_pos (by omega), Nat.zero_mul, Nat.zero_add, u8_back c hd.2]
    | cons a b =>
      have ha : 48 ≤ a.toNat ∧ a.toNat ≤ 57 := by have := hd.1; simp only [List.all_cons, Bool.and_eq_true] at this; simpa [isD] using this.1
      have hh : a ≠ 48 := by
        rcases hh with h | h
        · simpa using h
        · simp at h
      have ha2 : a.toNat ≠ 48 := fun e => hh (UInt8.toNat_inj.1 (by rw [e]; rfl))
      have hv : 1 ≤ valA 0 (a :: b) := by
        have h1 := valA_ge b (0 * 10 + (a.toNat - 48))
        have hp : 1 ≤ 10 ^ b.length := Nat.pos_of_ne_zero (by simp)
        have hm := Nat.mul_le_mul (show 1 ≤ 0 * 10 + (a.toNat - 48) by omega) hp
        show 1 ≤ valA _ b
        omega
      rw [Lib.decDigits, dif_neg (by omega), show (valA 0 (a :: b) * 10 + (c.toNat - 48)) / 10 = valA 0 (a :: b) by omega, show (valA 0 (a :: b) * 10 + (c.toNat - 48)) % 10 = c.toNat - 48 by omega,
        u8_back c hd.2, ih (a :: b) (by simpa using hl) hd.1 (by simp) (.inl (by simpa using hh))]
theorem dec_len {l : List UInt8} (hd : l.all isD = true) (h : l.head? ≠ some 48) (hv : valA 0 l ≤ 2147483648) : l.length ≤ 10 := by
  cases l with
  | nil => simp
  | cons a b =>
    have ha : 48 ≤ a.toNat ∧ a.toNat ≤ 57 := by simp only [List.all_cons, Bool.and_eq_true] at hd; simpa [isD] using hd.1
    have ha2 : a.toNat ≠ 48 := fun e => h (by rw [show a = 48 from UInt8.toNat_inj.1 (by rw [e]; rfl)]; rfl)
    apply Nat.le_of_not_lt
    intro hl
    have h1 := valA_ge b (0 * 10 + (a.toNat - 48))
    have hp : 10 ^ 10 ≤ 10 ^ b.length := Nat.pow_le_pow_right (by omega) (by simp at hl; omega)
    have hm := Nat.mul_le_mul (show 1 ≤ 0 * 10 + (a.toNat - 48) by omega) hp
    have hv2 : valA (0 * 10 + (a.toNat - 48)) b ≤ 2147483648 := hv
    omega
theorem num_digits {l : List UInt8} (hd : l.all isD = true) (hne : l ≠ []) (M : Nat) (hM : M ≤ 2147483648) :
    (valA 0 l ≤ M ∧ Lib.decDigits (valA 0 l) = l) ↔ (okD false l = true ∧ valA 0 l ≤ M) := by
  have hlen : 1 ≤ l.length := by have := List.length_pos_iff.2 hne; omega
  have e1 : okD false l = true ↔ l.length ≤ 10 ∧ ¬ (l.head? = some 48 ∧ 1 < l.length) := by
    simp only [okD, decide_eq_true_eq, Bool.false_eq_true, or_false]
    exact ⟨fun h => h.2, fun h => ⟨hlen, h⟩⟩
  rw [e1]
  constructor
  · rintro ⟨h1, h2⟩
    have hh : ¬ (l.head? = some 48 ∧ 1 < l.length) := by
      rintro ⟨h3, h4⟩
      rcases Nat.eq_zero_or_pos (valA 0 l) with h0 | h0
      · rw [h0] at h2
        have := congrArg List.length h2
        rw [Lib.decDigits_length, Lib.nDigits_small (by omega)] at this
        omega
      · have := dec_head _ h0
        rw [h2] at this
        exact this h3
    refine ⟨⟨?_, hh⟩, h1⟩
    by_cases h5 : l.head? = some 48
    · have : ¬ 1 < l.length := fun h => hh ⟨h5, h⟩
      omega
    · exact dec_len hd h5 (by omega)
  · rintro ⟨⟨h1, h2⟩, h3⟩
    refine ⟨h3, dec_of _ l rfl hd hne ?_⟩
    by_cases h5 : l.head? = some 48
    · have : ¬ 1 < l.length := fun h => h2 ⟨h5, h⟩
      exact .inr (by omega)
    · exact .inl h5
/-- what the library tells of digits, and what is told again of it, come to the document's numbers -/
theorem num_plain {c : UInt8} {r : List UInt8} (hd : (c :: r).all isD = true) : progN (c :: r) = numF (c :: r) := by
  have hc : 48 ≤ c.toNat ∧ c.toNat ≤ 57 := by simp only [List.all_cons, Bool.and_eq_true] at hd; simpa [isD] using hd.1
  have hc45 : c ≠ 45 := fun e => by subst e; exact absurd hc.1 (by decide)
  unfold progN
  rw [Lib.parseIntB_plain 32 c r (by omega) (by omega), numF_plain hc45]
  unfold Lib.parseUintB
  rw [if_neg (by simp), parse_digits _ (by decide) _ _ hd (by omega)]
  have key := num_digits hd (by simp) 2147483647 (by omega)
  generalize c :: r = l at *
  by_cases hv : valA 0 l ≤ 2147483647
  · rw [if_pos (by omega)]
    simp only [Lib.signlessC, show (2 : Nat) ^ (32 - 1) = 2147483648 from rfl]
    rw [if_neg (by omega)]
    dsimp only
    rw [itoa_nn]
    by_cases hq : Lib.decDigits (valA 0 l) = l
    · rw [if_pos hq, if_pos (key.1 ⟨hv, hq⟩)]
    · rw [if_neg hq, if_neg (fun h => hq (key.2 h).2)]
  · rw [if_neg (fun h : okD false l = true ∧ _ => hv h.2)]
    by_cases hv2 : valA 0 l ≤ 2 ^ 32 - 1
    · rw [if_pos hv2]
      simp only [Lib.signlessC, show (2 : Nat) ^ (32 - 1) = 2147483648 from rfl]
      rw [if_pos (by omega)]
    · rw [if_neg hv2]; rfl
theorem num_minus {r : List UInt8} (hd : r.all isD = true) : progN (45 :: r) = numF (45 :: r) := by
  unfold progN
  rw [Lib.parseIntB_minus, numF_minus]
  unfold Lib.parseUintB
  cases r with
  | nil => rfl
  | cons c r =>
    rw [if_neg (by simp), parse_digits _ (by decide) _ _ hd (by omega)]
    have key := num_digits hd (by simp) 2147483648 (by omega)
    have e1 : (okD true (c :: r) = true) ↔ (okD false (c :: r) = true ∧ c ≠ 48) := by
      simp only [okD, List.length_cons, List.head?_cons, Option.some.injEq, decide_eq_true_eq]
      constructor
      · rintro ⟨h1, h2, h3⟩
        exact ⟨⟨h1, h2, fun h => h3 ⟨h.1, .inr trivial⟩⟩, fun h => h3 ⟨h, .inr trivial⟩⟩
      · rintro ⟨⟨h1, h2, h3⟩, h4⟩
        exact ⟨h1, h2, fun h => h4 h.1⟩
    simp only [e1]
    have hz : c = 48 → (r = [] ∨ ¬ okD false (c :: r) = true) := by
      rintro rfl
      cases r with
      | nil => exact .inl rfl
      | cons a b => exact .inr (by simp [okD])
    by_cases hv : valA 0 (c :: r) ≤ 2147483648
    · rw [if_pos (by omega)]
      simp only [Lib.signedC, show (2 : Nat) ^ (32 - 1) = 2147483648 from rfl]
      rw [if_neg (by omega)]
      dsimp only
      by_cases h48 : c = 48
      · rw [if_neg (fun h : (_ ∧ c ≠ 48) ∧ _ => h.1.2 h48)]
        rcases Nat.eq_zero_or_pos (valA 0 (c :: r)) with h0 | h0
        · rw [h0]
          rw [if_neg]
          intro e
          change Lib.decDigits 0 = _ at e
          have := congrArg List.length e
          rw [Lib.decDigits_length, Lib.nDigits_small (by decide)] at this
          simp at this
        · rw [itoa_ng _ h0, if_neg]
          intro e
          have h1 := dec_head _ h0
          rw [(List.cons.inj e).2, h48] at h1
          exact h1 rfl
      · have h0 : 0 < valA 0 (c :: r) := by
          have hc : 48 ≤ c.toNat ∧ c.toNat ≤ 57 := by simp only [List.all_cons, Bool.and_eq_true] at hd; simpa [isD] using hd.1
          have ha2 : c.toNat ≠ 48 := fun e => h48 (UInt8.toNat_inj.1 (by rw [e]; rfl))
          have h1 := valA_ge r (0 * 10 + (c.toNat - 48))
          have hp : 1 ≤ 10 ^ r.length := Nat.pos_of_ne_zero (by simp)
          have hm := Nat.mul_le_mul (show 1 ≤ 0 * 10 + (c.toNat - 48) by omega) hp
          show 0 < valA _ r
          omega
        rw [itoa_ng _ h0]
        by_cases hq : Lib.decDigits (valA 0 (c :: r)) = c :: r
        · rw [if_pos (by rw [hq]), if_pos ⟨⟨(key.1 ⟨hv, hq⟩).1, h48⟩, hv⟩]
        · rw [if_neg (fun e => hq (List.cons.inj e).2), if_neg (fun h => hq (key.2 ⟨h.1.1, hv⟩).2)]
    · rw [if_neg (fun h : (_ ∧ c ≠ 48) ∧ _ => hv h.2)]
      by_cases hv2 : valA 0 (c :: r) ≤ 2 ^ 32 - 1
      · rw [if_pos hv2]
        simp only [Lib.signedC, show (2 : Nat) ^ (32 - 1) = 2147483648 from rfl]
        rw [if_pos (by omega)]
      · rw [if_neg hv2]; rfl
end Go.Proofs.YtohmenghlboalaaDoor
