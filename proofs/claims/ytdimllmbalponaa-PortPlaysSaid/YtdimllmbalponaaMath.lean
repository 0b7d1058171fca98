/-
  Plain mathematics of the check sum, over natural numbers: no Go and no program is spoken of here. The register's step, its linearity, what it makes of a whole text, and that it loses nothing below 2^32.
-/
namespace Go.Proofs.Ytdimllmbalponaa.SumMath

/-- one step of the register, at numbers of any size -/
def step (n : Nat) : Nat := (n / 2) ^^^ (if n % 2 = 1 then 3988292384 else 0)
/-- k steps -/
def steps : Nat → Nat → Nat
  | 0, n => n
  | k + 1, n => steps k (step n)
/-- bytes put in, in order -/
def put : Nat → List Nat → Nat
  | s, [] => s
  | s, c :: l => put (steps 8 (s ^^^ c)) l
/-- bits turned -/
def flip (n : Nat) : Nat := 4294967295 - n
def more (s : Nat) (l : List Nat) : Nat := flip (put (flip s) l)
/-- the lowest byte first -/
def low : List Nat → Nat
  | [] => 0
  | c :: l => c + 256 * low l

theorem step_odd (n : Nat) (h : n % 2 = 1) : step n = (n / 2) ^^^ 3988292384 := by unfold step; rw [if_pos h]
theorem step_even (n : Nat) (h : n % 2 = 0) : step n = n / 2 := by unfold step; rw [if_neg (by omega)]; exact Nat.xor_zero _
theorem step_two (n : Nat) : step (2 * n) = n := by rw [step_even _ (by omega)]; omega

theorem xor_half (a b : Nat) : (a ^^^ b) / 2 = (a / 2) ^^^ (b / 2) := Nat.xor_div_two
theorem xor_bit (a b : Nat) : (a ^^^ b) % 2 = (a % 2) ^^^ (b % 2) := by
  have := @Nat.xor_mod_two_pow a b 1
  simpa using this
theorem xor_swap (a b c d : Nat) : (a ^^^ b) ^^^ (c ^^^ d) = (a ^^^ c) ^^^ (b ^^^ d) := by
  rw [Nat.xor_assoc, Nat.xor_assoc, ← Nat.xor_assoc b c d, Nat.xor_comm b c, Nat.xor_assoc]
theorem xor_undo (a b : Nat) : (a ^^^ b) ^^^ b = a := by rw [Nat.xor_assoc, Nat.xor_self, Nat.xor_zero]
theorem xor_inj {a b c : Nat} (h : a ^^^ c = b ^^^ c) : a = b := by rw [← xor_undo a c, h, xor_undo]
theorem xor_none {a b : Nat} (h : a ^^^ b = 0) : a = b := by
  have : a ^^^ b = b ^^^ b := by rw [h, Nat.xor_self]
  exact xor_inj this

theorem step_xor (a b : Nat) : step (a ^^^ b) = step a ^^^ step b := by
  unfold step
  rw [xor_half, xor_bit, xor_swap]
  congr 1
  rcases Nat.mod_two_eq_zero_or_one a with ha | ha <;> rcases Nat.mod_two_eq_zero_or_one b with hb | hb <;> rw [ha, hb] <;> decide +kernel
theorem steps_xor (k : Nat) : ∀ a b : Nat, steps k (a ^^^ b) = steps k a ^^^ steps k b := by
  induction k with
  | zero => intro a b; rfl
  | succ k ih => intro a b; show steps k (step (a ^^^ b)) = _; rw [step_xor, ih]; rfl
theorem steps_add (j k : Nat) : ∀ n, steps (j + k) n = steps k (steps j n) := by
  induction j with
  | zero => intro n; rw [Nat.zero_add]; rfl
  | succ j ih => intro n; rw [Nat.succ_add]; show steps (j + k) (step n) = steps k (steps j (step n)); exact ih _
theorem steps_succ (k n : Nat) : steps (k + 1) n = step (steps k n) := by rw [steps_add k 1]; rfl
theorem steps_pow (k : Nat) : ∀ n, steps k (2 ^ k * n) = n := by
  induction k with
  | zero => intro n; show 2 ^ 0 * n = n; simp
  | succ k ih =>
    intro n
    show steps k (step (2 ^ (k + 1) * n)) = n
    rw [show 2 ^ (k + 1) * n = 2 * (2 ^ k * n) by rw [Nat.pow_succ]; rw [Nat.mul_comm (2 ^ k) 2, Nat.mul_assoc], step_two, ih]
theorem steps_256 (n : Nat) : steps 8 (256 * n) = n := steps_pow 8 n

theorem step_lt {n : Nat} (h : n < 4294967296) : step n < 4294967296 := by
  unfold step
  have h1 : n / 2 < 2 ^ 32 := by omega
  split
  · exact Nat.xor_lt_two_pow (n := 32) h1 (by decide)
  · rw [Nat.xor_zero]; exact h1
theorem steps_lt (k : Nat) : ∀ {n : Nat}, n < 4294967296 → steps k n < 4294967296 := by
  induction k with
  | zero => intro n h; exact h
  | succ k ih => intro n h; exact ih (step_lt h)
theorem xor_lt {a b : Nat} (ha : a < 4294967296) (hb : b < 4294967296) : a ^^^ b < 4294967296 := Nat.xor_lt_two_pow (n := 32) ha hb
theorem put_lt : ∀ (l : List Nat) {s : Nat}, s < 4294967296 → (∀ c ∈ l, c < 256) → put s l < 4294967296 := by
  intro l
  induction l with
  | nil => intro s h _; exact h
  | cons c l ih =>
    intro s h hl
    have hc := hl c (by simp)
    exact ih (steps_lt 8 (xor_lt h (by omega))) (fun d hd => hl d (by simp [hd]))
theorem flip_lt (n : Nat) : flip n < 4294967296 := by unfold flip; omega
theorem flip_flip {n : Nat} (h : n < 4294967296) : flip (flip n) = n := by unfold flip; omega
theorem flip_inj {a b : Nat} (ha : a < 4294967296) (hb : b < 4294967296) (h : flip a = flip b) : a = b := by unfold flip at h; omega
theorem more_lt (s : Nat) (l : List Nat) : more s l < 4294967296 := flip_lt _
theorem flip_xor {n : Nat} (h : n < 4294967296) : flip n = n ^^^ 4294967295 := by
  unfold flip
  have h1 : 4294967295 - n = n ^^^ 4294967295 := by
    apply Nat.eq_of_testBit_eq
    intro i
    rw [Nat.testBit_xor, show 4294967295 - n = 2 ^ 32 - (n + 1) by omega, Nat.testBit_two_pow_sub_succ (by omega), show (4294967295 : Nat) = 2 ^ 32 - 1 from rfl, Nat.testBit_two_pow_sub_one]
    by_cases hi : i < 32
    · simp [hi]
    · have : n.testBit i = false := Nat.testBit_lt_two_pow (Nat.lt_of_lt_of_le h (by
        have : 2 ^ 32 ≤ 2 ^ i := Nat.pow_le_pow_right (by omega) (by omega)
        simpa using this))
      simp [hi, this]
  exact h1

theorem put_append (l : List Nat) : ∀ (s : Nat) (r : List Nat), put s (l ++ r) = put (put s l) r := by
  induction l with
  | nil => intro s r; rfl
  | cons c l ih => intro s r; exact ih _ r
theorem put_snoc (l : List Nat) (s c : Nat) : put s (l ++ [c]) = steps 8 (put s l ^^^ c) := by rw [put_append]; rfl
theorem more_append {s : Nat} (l r : List Nat) (hl : ∀ c ∈ l, c < 256) : more (more s l) r = more s (l ++ r) := by
  unfold more
  rw [put_append, flip_flip (put_lt l (flip_lt _) hl)]

/-- THE WHOLE: what a register makes of a text is what so many steps make of it laid over the text's number. -/
theorem low_xor (l : List Nat) (s : Nat) (hl : ∀ c ∈ l, c < 256) : put s l = steps (8 * l.length) (s ^^^ low l) := by
  induction l generalizing s with
  | nil => show s = steps 0 (s ^^^ 0); rw [Nat.xor_zero]; rfl
  | cons c l ih =>
    have hc := hl c (by simp)
    show put (steps 8 (s ^^^ c)) l = _
    rw [ih _ (fun d hd => hl d (by simp [hd]))]
    have h1 : c + 256 * low l = c ^^^ (256 * low l) := by
      have h2 := Nat.two_pow_add_eq_or_of_lt (i := 8) (b := c) hc (low l)
      have h3 : (256 * low l) ||| c = (256 * low l) ^^^ c := by
        apply Nat.eq_of_testBit_eq
        intro i
        rw [Nat.testBit_or, Nat.testBit_xor]
        by_cases hi : i < 8
        · have : (256 * low l).testBit i = false := by
            rw [show 256 * low l = 2 ^ 8 * low l from rfl, Nat.testBit_two_pow_mul]; simp; omega
          simp [this]
        · have : c.testBit i = false := Nat.testBit_lt_two_pow (Nat.lt_of_lt_of_le hc (by
            have : 2 ^ 8 ≤ 2 ^ i := Nat.pow_le_pow_right (by omega) (by omega)
            simpa using this))
          simp [this]
      rw [Nat.add_comm, Nat.xor_comm, ← h3]
      exact h2
    show _ = steps (8 * (l.length + 1)) (s ^^^ (c + 256 * low l))
    rw [h1, show 8 * (l.length + 1) = 8 + 8 * l.length by omega, steps_add, ← Nat.xor_assoc, steps_xor 8 (s ^^^ c), steps_256]

theorem step_none {n : Nat} (h : n < 4294967296) (h0 : step n = 0) : n = 0 := by
  unfold step at h0
  split at h0
  · have h1 := xor_none h0
    omega
  · rw [Nat.xor_zero] at h0
    omega
theorem steps_none (k : Nat) : ∀ {n : Nat}, n < 4294967296 → steps k n = 0 → n = 0 := by
  induction k with
  | zero => intro n _ h; exact h
  | succ k ih => intro n h h0; exact step_none h (ih (step_lt h) h0)
theorem steps_zero (k : Nat) : steps k 0 = 0 := by
  induction k with
  | zero => rfl
  | succ k ih => exact ih
theorem steps_inj (k : Nat) {a b : Nat} (ha : a < 4294967296) (hb : b < 4294967296) (h : steps k a = steps k b) : a = b := by
  have h1 : steps k (a ^^^ b) = 0 := by rw [steps_xor, h, Nat.xor_self]
  exact xor_none (steps_none k (xor_lt ha hb) h1)

theorem xor3 (a b c d e f : Nat) : (a ^^^ b ^^^ c) ^^^ (d ^^^ e ^^^ f) = (a ^^^ d) ^^^ (b ^^^ e) ^^^ (c ^^^ f) := by
  rw [xor_swap (a ^^^ b) c (d ^^^ e) f, xor_swap a b d e]
theorem take_one (l : List Nat) (k : Nat) (h : k < l.length) : l.take (k + 1) = l.take k ++ [l.getD k 0] := by
  rw [List.take_succ_eq_append_getElem h, List.getD_eq_getElem?_getD, List.getElem?_eq_getElem h]; rfl
theorem put_linear (la lb lc : List Nat) (s : Nat) (k : Nat) : k ≤ la.length → k ≤ lb.length → k ≤ lc.length →
    put s ((List.range k).map fun t => la.getD t 0 ^^^ lb.getD t 0 ^^^ lc.getD t 0) = put s (la.take k) ^^^ put s (lb.take k) ^^^ put s (lc.take k) := by
  induction k with
  | zero =>
    intro _ _ _
    show s = put s (la.take 0) ^^^ put s (lb.take 0) ^^^ put s (lc.take 0)
    simp only [List.take_zero]
    show s = s ^^^ s ^^^ s
    rw [Nat.xor_self, Nat.zero_xor]
  | succ k ih =>
    intro h1 h2 h3
    rw [List.range_succ, List.map_append, List.map_cons, List.map_nil, put_snoc, ih (by omega) (by omega) (by omega), take_one la k h1, take_one lb k h2, take_one lc k h3, put_snoc, put_snoc, put_snoc, xor3, steps_xor, steps_xor]
theorem linear (la lb lc : List Nat) (k : Nat) (h1 : k ≤ la.length) (h2 : k ≤ lb.length) (h3 : k ≤ lc.length) (ha : ∀ c ∈ la, c < 256) (hb : ∀ c ∈ lb, c < 256) (hc : ∀ c ∈ lc, c < 256) :
    more 0 ((List.range k).map fun t => la.getD t 0 ^^^ lb.getD t 0 ^^^ lc.getD t 0) = more 0 (la.take k) ^^^ more 0 (lb.take k) ^^^ more 0 (lc.take k) := by
  have pa := put_lt (la.take k) (flip_lt 0) (fun c h => ha c (List.mem_of_mem_take h))
  have pb := put_lt (lb.take k) (flip_lt 0) (fun c h => hb c (List.mem_of_mem_take h))
  have pc := put_lt (lc.take k) (flip_lt 0) (fun c h => hc c (List.mem_of_mem_take h))
  unfold more
  rw [put_linear la lb lc _ k h1 h2 h3, flip_xor pa, flip_xor pb, flip_xor pc, flip_xor (xor_lt (xor_lt pa pb) pc), ← xor3]
  congr 1

theorem split_256 (t : Nat) : t = (t % 256) ^^^ (256 * (t / 256)) := by
  have hc : t % 256 < 2 ^ 8 := Nat.mod_lt _ (by decide)
  have h2 := Nat.two_pow_add_eq_or_of_lt (i := 8) (b := t % 256) hc (t / 256)
  have h3 : (256 * (t / 256)) ||| (t % 256) = (t % 256) ^^^ (256 * (t / 256)) := by
    apply Nat.eq_of_testBit_eq
    intro i
    rw [Nat.testBit_or, Nat.testBit_xor]
    by_cases hi : i < 8
    · have : (256 * (t / 256)).testBit i = false := by
        rw [show 256 * (t / 256) = 2 ^ 8 * (t / 256) from rfl, Nat.testBit_two_pow_mul]; simp; omega
      simp [this]
    · have : (t % 256).testBit i = false := Nat.testBit_lt_two_pow (Nat.lt_of_lt_of_le hc (Nat.pow_le_pow_right (by omega) (by omega)))
      simp [this]
  have h4 : 256 * (t / 256) + t % 256 = (256 * (t / 256)) ||| (t % 256) := h2
  rw [← h3, ← h4]
  omega
/-- a byte behind others, by the table -/
theorem by_table (s c : Nat) : more s [c] = flip (flip s / 256 ^^^ steps 8 ((flip s % 256) ^^^ c)) := by
  show flip (steps 8 (flip s ^^^ c)) = _
  have h : flip s ^^^ c = (flip s % 256 ^^^ c) ^^^ (256 * (flip s / 256)) := by
    have h0 := split_256 (flip s)
    generalize flip s = t at h0
    rw [Nat.xor_assoc, Nat.xor_comm c, ← Nat.xor_assoc, ← h0]
  rw [h, steps_xor, steps_256, Nat.xor_comm]

/-- the four bytes of a number below 2^32, the lowest first -/
def four (n : Nat) : List Nat := [n % 256, n / 256 % 256, n / 65536 % 256, n / 16777216]
theorem four_lt {n : Nat} (h : n < 4294967296) : ∀ c ∈ four n, c < 256 := by
  intro c hc
  simp [four] at hc
  omega
theorem four_low {n : Nat} : low (four n) = n := by
  show n % 256 + 256 * (n / 256 % 256 + 256 * (n / 65536 % 256 + 256 * (n / 16777216 + 256 * 0))) = n
  omega
theorem put_four {t n : Nat} (h : n < 4294967296) : put t (four n) = steps 32 (t ^^^ n) := by
  rw [low_xor _ _ (four_lt h), four_low]; rfl
theorem sealed_is {s : Nat} (h : s < 4294967296) : more s (four s) = 558161692 := by
  unfold more
  rw [put_four h, show flip s ^^^ s = 4294967295 by rw [flip_xor h, Nat.xor_comm s, xor_undo]]
  decide +kernel
theorem sealed_iff {s o : Nat} (h : s < 4294967296) (ho : o < 4294967296) : more s (four o) = 558161692 ↔ o = s := by
  constructor
  · intro e
    rw [← sealed_is h] at e
    unfold more at e
    rw [put_four h, put_four ho] at e
    have e1 := flip_inj (steps_lt 32 (xor_lt (flip_lt s) ho)) (steps_lt 32 (xor_lt (flip_lt s) h)) e
    have e2 := steps_inj 32 (xor_lt (flip_lt s) ho) (xor_lt (flip_lt s) h) e1
    rw [Nat.xor_comm _ o, Nat.xor_comm _ s] at e2
    exact xor_inj e2
  · rintro rfl; exact sealed_is h
end Go.Proofs.Ytdimllmbalponaa.SumMath
