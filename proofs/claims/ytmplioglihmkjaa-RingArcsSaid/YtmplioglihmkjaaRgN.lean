/-
  Arcs of a ring, what they cover, what they leave, where something fits: reckoned.
-/
import Derived.Laws.BitsAllLaws
namespace Go.Proofs.Ytmplioglihmkjaa
set_option linter.unusedVariables false

theorem mod2N {x n : Nat} (h : x < 2 * n) : x % n = if x < n then x else x - n := by
  split
  · exact Nat.mod_eq_of_lt ‹_›
  · rw [Nat.mod_eq_sub_mod (by omega), Nat.mod_eq_of_lt (by omega)]
/-- from, and how many -/
abbrev Ar := Nat × Nat
def okA (n : Nat) (a : Ar) : Prop := a.1 < n ∧ a.2 ≤ n
/-- is a place in an arc? -/
def inA (n : Nat) (a : Ar) (p : Nat) : Bool := decide ((p + n - a.1) % n < a.2)
theorem back_eq {n f p : Nat} (hf : f < n) (hp : p < n) : (p + n - f) % n = if f ≤ p then p - f else p + n - f := by
  rw [mod2N (by omega)]
  split <;> split <;> omega
theorem inA_iff {n : Nat} {a : Ar} {p : Nat} (ha : okA n a) (hp : p < n) : inA n a p = true ↔ ∃ j, j < a.2 ∧ p = (a.1 + j) % n := by
  obtain ⟨h1, h2⟩ := ha
  unfold inA
  rw [decide_eq_true_iff, back_eq h1 hp]
  constructor
  · intro h
    refine ⟨_, h, ?_⟩
    rw [mod2N (by split <;> omega)]
    split <;> split <;> omega
  · rintro ⟨j, hj, e⟩
    rw [mod2N (by omega)] at e
    split at e <;> split <;> omega
/-- the places that are taken -/
def tk (n : Nat) (l : List Ar) (p : Nat) : Bool := l.any fun a => inA n a p
theorem tk_snoc (n : Nat) (l : List Ar) (a : Ar) (p : Nat) : tk n (l ++ [a]) p = (tk n l p || inA n a p) := by simp [tk]
theorem tk_iff {n : Nat} {l : List Ar} {p : Nat} (hl : ∀ a ∈ l, okA n a) (hp : p < n) : tk n l p = true ↔ ∃ a ∈ l, ∃ j, j < a.2 ∧ p = (a.1 + j) % n := by
  unfold tk
  rw [List.any_eq_true]
  constructor
  · rintro ⟨a, h, hi⟩; exact ⟨a, h, (inA_iff (hl a h) hp).1 hi⟩
  · rintro ⟨a, h, hi⟩; exact ⟨a, h, (inA_iff (hl a h) hp).2 hi⟩
theorem tk_perm {n : Nat} {l m : List Ar} (h : ∀ a, a ∈ l ↔ a ∈ m) (p : Nat) : tk n l p = tk n m p := by
  rw [Bool.eq_iff_iff]; unfold tk; rw [List.any_eq_true, List.any_eq_true]
  exact ⟨fun ⟨a, x, y⟩ => ⟨a, (h a).1 x, y⟩, fun ⟨a, x, y⟩ => ⟨a, (h a).2 x, y⟩⟩

/-! ### two arcs that meet -/
def meetB (n : Nat) (a b : Ar) : Bool := (decide (0 < a.2) && inA n b a.1) || (decide (0 < b.2) && inA n a b.1)
theorem meet_iff {n : Nat} {a b : Ar} (ha : okA n a) (hb : okA n b) : meetB n a b = true ↔ ∃ p, p < n ∧ inA n a p = true ∧ inA n b p = true := by
  have hn : 0 < n := by have := ha.1; omega
  unfold meetB
  rw [Bool.or_eq_true, Bool.and_eq_true, Bool.and_eq_true, decide_eq_true_iff, decide_eq_true_iff]
  constructor
  · rintro (⟨h1, h2⟩ | ⟨h1, h2⟩)
    · exact ⟨a.1, ha.1, (inA_iff ha ha.1).2 ⟨0, h1, by rw [Nat.add_zero, Nat.mod_eq_of_lt ha.1]⟩, h2⟩
    · exact ⟨b.1, hb.1, h2, (inA_iff hb hb.1).2 ⟨0, h1, by rw [Nat.add_zero, Nat.mod_eq_of_lt hb.1]⟩⟩
  · rintro ⟨p, hp, h1, h2⟩
    obtain ⟨i, hi, ei⟩ := (inA_iff ha hp).1 h1
    obtain ⟨j, hj, ej⟩ := (inA_iff hb hp).1 h2
    obtain ⟨a1, a2⟩ := ha
    obtain ⟨b1, b2⟩ := hb
    rcases Nat.le_total i j with h | h
    · refine .inl ⟨by omega, (inA_iff ⟨b1, b2⟩ a1).2 ⟨j - i, by omega, ?_⟩⟩
      rw [ei] at ej
      rw [mod2N (by omega), mod2N (by omega)] at ej
      rw [mod2N (by omega)]
      split at ej <;> split at ej <;> split <;> omega
    · refine .inr ⟨by omega, (inA_iff ⟨a1, a2⟩ b1).2 ⟨i - j, by omega, ?_⟩⟩
      rw [ei] at ej
      rw [mod2N (by omega), mod2N (by omega)] at ej
      rw [mod2N (by omega)]
      split at ej <;> split at ej <;> split <;> omega

/-! ### stretches of places that are not taken -/
def rlF (t : Nat → Bool) (n : Nat) : Nat → Nat → Nat
  | _, 0 => 0
  | i, k + 1 => if t (i % n) then 0 else 1 + rlF t n (i + 1) k
def rl (t : Nat → Bool) (n i : Nat) : Nat := rlF t n i n
structure IsRun (t : Nat → Bool) (n i k : Nat) : Prop where
  le : k ≤ n
  free : ∀ j, j < k → t ((i + j) % n) = false
  stop : k < n → t ((i + k) % n) = true
theorem rlF_run (t : Nat → Bool) (n : Nat) : ∀ m i, rlF t n i m ≤ m ∧ (∀ j, j < rlF t n i m → t ((i + j) % n) = false) ∧ (rlF t n i m < m → t ((i + rlF t n i m) % n) = true)
  | 0, i => ⟨Nat.le_refl _, fun j h => by simp [rlF] at h, fun h => by simp [rlF] at h⟩
  | m + 1, i => by
    obtain ⟨h1, h2, h3⟩ := rlF_run t n m (i + 1)
    unfold rlF
    cases ht : t (i % n) with
    | true => simp [ht]
    | false =>
      simp only [Bool.false_eq_true, if_false]
      refine ⟨by omega, fun j hj => ?_, fun hj => ?_⟩
      · rcases Nat.eq_zero_or_pos j with rfl | h0
        · exact ht
        · have := h2 (j - 1) (by omega)
          rwa [show i + 1 + (j - 1) = i + j by omega] at this
      · have := h3 (by omega)
        rwa [show i + 1 + rlF t n (i + 1) m = i + (1 + rlF t n (i + 1) m) by omega] at this
theorem rl_run (t : Nat → Bool) (n i : Nat) : IsRun t n i (rl t n i) := let ⟨a, b, c⟩ := rlF_run t n n i; ⟨a, b, c⟩
theorem run_uniq {t : Nat → Bool} {n i k m : Nat} (a : IsRun t n i k) (b : IsRun t n i m) : k = m := by
  rcases Nat.lt_trichotomy k m with h | h | h
  · have h1 := a.stop (by have := b.le; omega)
    rw [b.free k h] at h1; cases h1
  · exact h
  · have h1 := b.stop (by have := a.le; omega)
    rw [a.free m h] at h1; cases h1
theorem rl_of {t : Nat → Bool} {n i k : Nat} (a : IsRun t n i k) : rl t n i = k := run_uniq (rl_run t n i) a

def anyT (t : Nat → Bool) (n : Nat) : Bool := (List.range n).any t
theorem anyT_iff {t : Nat → Bool} {n : Nat} : anyT t n = true ↔ ∃ q, q < n ∧ t q = true := by
  unfold anyT; rw [List.any_eq_true]; simp
theorem anyT_false {t : Nat → Bool} {n : Nat} : anyT t n = false ↔ ∀ q, q < n → t q = false := by
  constructor
  · intro h q hq
    cases ht : t q with
    | false => rfl
    | true => rw [anyT_iff.2 ⟨q, hq, ht⟩] at h; cases h
  · intro h
    cases ha : anyT t n with
    | false => rfl
    | true => obtain ⟨q, hq, ht⟩ := anyT_iff.1 ha; rw [h q hq] at ht; cases ht
/-- does a stretch begin here? -/
def st (t : Nat → Bool) (n i : Nat) : Bool := !t i && t ((i + n - 1) % n)
def gapTo (t : Nat → Bool) (n m : Nat) : List Ar := (List.range m).filterMap fun i => if st t n i then some (i, rl t n i) else none
def gapF (t : Nat → Bool) (n : Nat) : List Ar := if anyT t n then gapTo t n n else [(0, n)]
theorem gapTo_succ (t : Nat → Bool) (n m : Nat) : gapTo t n (m + 1) = gapTo t n m ++ (if st t n m then [(m, rl t n m)] else []) := by
  unfold gapTo
  rw [List.range_succ, List.filterMap_append]
  cases h : st t n m <;> simp [h]
theorem gapTo_skip {t : Nat → Bool} {n m : Nat} : ∀ d, (∀ i, m ≤ i → i < m + d → st t n i = false) → gapTo t n (m + d) = gapTo t n m
  | 0, _ => rfl
  | d + 1, h => by
    rw [← Nat.add_assoc, gapTo_succ, h (m + d) (by omega) (by omega), gapTo_skip d fun i a b => h i a (by omega)]
    simp
theorem run_lt {t : Nat → Bool} {n i k : Nat} (hr : IsRun t n i k) (ha : anyT t n = true) : k < n := by
  apply Nat.lt_of_le_of_ne hr.le
  intro e
  subst e
  obtain ⟨q, hq, ht⟩ := anyT_iff.1 ha
  have hk : 0 < k := by omega
  have := hr.free ((q + k - i % k) % k) (Nat.mod_lt _ hk)
  have hi := Nat.mod_lt i hk
  rw [Nat.add_mod, Nat.mod_mod, back_eq hi hq] at this
  rw [mod2N (by split <;> omega)] at this
  split at this
  · split at this
    · rw [show i % k + (q - i % k) = q by omega, ht] at this; cases this
    · omega
  · split at this
    · omega
    · rw [show i % k + (q + k - i % k) - k = q by omega, ht] at this; cases this
theorem gap_mem {t : Nat → Bool} {n m : Nat} {a : Ar} (h : a ∈ gapTo t n m) : a.1 < m ∧ st t n a.1 = true ∧ a.2 = rl t n a.1 := by
  unfold gapTo at h
  obtain ⟨i, hi, e⟩ := List.mem_filterMap.1 h
  split at e
  · rename_i hs
    obtain rfl := Option.some.inj e
    exact ⟨by simpa using hi, hs, rfl⟩
  · cases e
theorem mem_gap {t : Nat → Bool} {n m i : Nat} (hi : i < m) (hs : st t n i = true) : (i, rl t n i) ∈ gapTo t n m := by
  unfold gapTo
  exact List.mem_filterMap.2 ⟨i, by simpa using hi, by rw [hs]; rfl⟩
theorem gapF_mem {t : Nat → Bool} {n : Nat} (hn : 0 < n) {a : Ar} (h : a ∈ gapF t n) : okA n a ∧ ∀ j, j < a.2 → t ((a.1 + j) % n) = false := by
  unfold gapF at h
  split at h
  · obtain ⟨h1, h2, h3⟩ := gap_mem h
    have hr := rl_run t n a.1
    rw [← h3] at hr
    exact ⟨⟨h1, hr.le⟩, hr.free⟩
  · rename_i ha
    have ha : anyT t n = false := by simpa using ha
    obtain rfl := List.mem_singleton.1 h
    refine ⟨⟨hn, Nat.le_refl _⟩, fun j hj => ?_⟩
    exact anyT_false.1 ha _ (Nat.mod_lt _ hn)

/-! ### the way that the stretches are found -/
/-- where a search may begin: what lies ahead is taken -/
def Hd (t : Nat → Bool) (n i : Nat) : Prop := i ≤ n ∧ t ((i + n - 1) % n) = true
theorem hd_any {t : Nat → Bool} {n i : Nat} (hn : 0 < n) (h : Hd t n i) : anyT t n = true := anyT_iff.2 ⟨_, Nat.mod_lt _ hn, h.2⟩
theorem hd_none {t : Nat → Bool} {n i k : Nat} (h : Hd t n i) (hk : IsRun t n i k) (h0 : k = 0) (hi : i < n) : st t n i = false := by
  subst h0
  have := hk.stop (by omega)
  rw [Nat.add_zero, Nat.mod_eq_of_lt hi] at this
  simp [st, this]
theorem hd_some {t : Nat → Bool} {n i k : Nat} (h : Hd t n i) (hk : IsRun t n i k) (h0 : 0 < k) (hi : i < n) : st t n i = true := by
  have := hk.free 0 h0
  rw [Nat.add_zero, Nat.mod_eq_of_lt hi] at this
  simp [st, this, h.2]
theorem run_not {t : Nat → Bool} {n i k x : Nat} (hk : IsRun t n i k) (h1 : i < x) (h2 : x < i + k) (hx : x < n) : st t n x = false := by
  have := hk.free (x - 1 - i) (by omega)
  rw [show i + (x - 1 - i) = x - 1 by omega] at this
  have e : (x + n - 1) % n = (x - 1) % n := by rw [show x + n - 1 = (x - 1) + n by omega, Nat.add_mod_right]
  simp [st, e, this]
/-- what one search adds -/
theorem step_on {t : Nat → Bool} {n i k : Nat} (h : Hd t n i) (hk : IsRun t n i k) (hi : i + k < n) :
    gapTo t n (i + k + 1) = gapTo t n i ++ (if 0 < k then [(i, k)] else []) ∧ Hd t n (i + k + 1) := by
  have hend : t (i + k) = true := by
    have := hk.stop (by omega)
    rwa [Nat.mod_eq_of_lt hi] at this
  have hh : Hd t n (i + k + 1) := ⟨by omega, by rw [show i + k + 1 + n - 1 = (i + k) + n by omega, Nat.add_mod_right, Nat.mod_eq_of_lt hi]; exact hend⟩
  refine ⟨?_, hh⟩
  have hst : st t n (i + k) = false := by simp [st, hend]
  rw [gapTo_succ, hst]
  simp only [Bool.false_eq_true, if_false, List.append_nil]
  rcases Nat.eq_zero_or_pos k with h0 | h0
  · subst h0; simp
  · rw [if_pos h0]
    have e : gapTo t n (i + 1 + (k - 1)) = gapTo t n (i + 1) := gapTo_skip _ fun x a b => run_not hk (by omega) (by omega) (by omega)
    rw [show i + 1 + (k - 1) = i + k by omega] at e
    rw [e, gapTo_succ, hd_some h hk h0 (by omega), rl_of hk]
    rfl
theorem step_end {t : Nat → Bool} {n i k : Nat} (h : Hd t n i) (hk : IsRun t n i k) (hi : i < n) (hw : n ≤ i + k) :
    gapTo t n n = gapTo t n i ++ [(i, k)] := by
  have e : gapTo t n (i + 1 + (n - i - 1)) = gapTo t n (i + 1) := gapTo_skip _ fun x a b => run_not hk (by omega) (by omega) (by omega)
  rw [show i + 1 + (n - i - 1) = n by omega] at e
  rw [e, gapTo_succ, hd_some h hk (by omega) hi, rl_of hk]
  rfl
/-- where the first search begins -/
theorem first_hd {t : Nat → Bool} {n q : Nat} (hq : q < n) (ht : t q = true) (hb : ∀ j, j < q → t j = false) (hl : t (n - 1) = false) : gapTo t n (q + 1) = [] ∧ Hd t n (q + 1) := by
  refine ⟨?_, by omega, by rw [show q + 1 + n - 1 = q + n by omega, Nat.add_mod_right, Nat.mod_eq_of_lt hq]; exact ht⟩
  have := gapTo_skip (t := t) (n := n) (m := 0) (q + 1) fun i _ hi => by
    rcases Nat.eq_zero_or_pos i with rfl | h0
    · have : (0 + n - 1) % n = n - 1 := by rw [Nat.zero_add, Nat.mod_eq_of_lt (by omega)]
      simp [st, hl]
    · have : (i + n - 1) % n = i - 1 := by rw [show i + n - 1 = (i - 1) + n by omega, Nat.add_mod_right, Nat.mod_eq_of_lt (by omega)]
      simp [st, this, hb (i - 1) (by omega)]
  rw [Nat.zero_add] at this
  rw [this]; rfl
theorem last_hd {t : Nat → Bool} {n : Nat} (hn : 0 < n) (hl : t (n - 1) = true) : Hd t n 0 := ⟨by omega, by rw [Nat.zero_add, Nat.mod_eq_of_lt (by omega)]; exact hl⟩

/-! ### sums -/
def sumR (F : Nat → Nat) : Nat → Nat
  | 0 => 0
  | n + 1 => sumR F n + F n
theorem sumR_add (F : Nat → Nat) (a : Nat) : ∀ b, sumR F (a + b) = sumR F a + sumR (fun i => F (a + i)) b
  | 0 => rfl
  | b + 1 => by rw [← Nat.add_assoc]; simp only [sumR]; rw [sumR_add F a b]; omega
theorem sumR_congr {F G : Nat → Nat} : ∀ {n}, (∀ i, i < n → F i = G i) → sumR F n = sumR G n
  | 0, _ => rfl
  | n + 1, h => by simp only [sumR]; rw [sumR_congr fun i hi => h i (by omega), h n (by omega)]
theorem sumR_rot {F G : Nat → Nat} {n s : Nat} (hs : s < n) (h : ∀ i, i < n → G ((i + s) % n) = F i) : sumR G n = sumR F n := by
  have e1 : sumR F n = sumR F ((n - s) + s) := by rw [Nat.sub_add_cancel (by omega)]
  have e2 : sumR G n = sumR G (s + (n - s)) := by rw [Nat.add_sub_cancel' (by omega)]
  rw [e1, e2, sumR_add, sumR_add, Nat.add_comm]
  congr 1
  · refine sumR_congr fun i hi => ?_
    rw [← h i (by omega), mod2N (by omega), if_pos (by omega), Nat.add_comm]
  · refine sumR_congr fun i hi => ?_
    rw [← h (n - s + i) (by omega), mod2N (by omega), if_neg (by omega)]
    congr 1; omega
def cnt (t : Nat → Bool) (n : Nat) : Nat := sumR (fun i => if t i then 1 else 0) n
def sumL (l : List Ar) : Nat := l.foldl (fun s a => s + a.2) 0
def sumQ (l : List Ar) : Nat := l.foldl (fun s a => s + a.2 * a.2) 0
theorem sumL_snoc (l : List Ar) (a : Ar) : sumL (l ++ [a]) = sumL l + a.2 := by simp [sumL]
theorem sumQ_snoc (l : List Ar) (a : Ar) : sumQ (l ++ [a]) = sumQ l + a.2 * a.2 := by simp [sumQ]
theorem gap_len (t : Nat → Bool) (n : Nat) : ∀ m, (gapTo t n m).length = sumR (fun i => if st t n i then 1 else 0) m
  | 0 => rfl
  | m + 1 => by
    rw [gapTo_succ, List.length_append, gap_len t n m]
    simp only [sumR]
    cases st t n m <;> rfl
theorem gap_sq (t : Nat → Bool) (n : Nat) : ∀ m, sumQ (gapTo t n m) = sumR (fun i => if st t n i then rl t n i * rl t n i else 0) m
  | 0 => rfl
  | m + 1 => by
    rw [gapTo_succ]
    simp only [sumR]
    rw [← gap_sq t n m]
    cases st t n m
    · simp
    · simp [sumQ_snoc]
theorem cnt_skip {t : Nat → Bool} {m : Nat} : ∀ d, (∀ i, m ≤ i → i < m + d → t i = false) → cnt t (m + d) = cnt t m
  | 0, _ => rfl
  | d + 1, h => by
    have := cnt_skip (t := t) d fun i a b => h i a (by omega)
    unfold cnt at *
    rw [← Nat.add_assoc]
    simp only [sumR]
    rw [this, h (m + d) (by omega) (by omega)]; rfl
theorem cnt_le (t : Nat → Bool) : ∀ n, cnt t n ≤ n
  | 0 => Nat.le_refl _
  | n + 1 => by have := cnt_le t n; unfold cnt at *; simp only [sumR]; split <;> omega
/-- what is taken and the stretches are all places -/
theorem sum_from {t : Nat → Bool} {n c : Nat} (hc : (t (n - 1) = true ∧ c = 0) ∨ (t (n - 1) = false ∧ c < n ∧ t c = true ∧ ∀ j, j < c → t j = false)) :
    ∀ d i, n - i = d → Hd t n i → c ≤ i → sumL (gapTo t n i) + cnt t i + c = i → sumL (gapTo t n n) + cnt t n = n := by
  intro d
  induction d using Nat.strongRecOn with
  | ind d ih =>
    intro i hd hh hci hs
    have hr := rl_run t n i
    by_cases hi : i < n
    · have hlt := run_lt hr (hd_any (by omega) hh)
      generalize rl t n i = k at *
      by_cases hw : i + k < n
      · obtain ⟨e, h2⟩ := step_on hh hr hw
        refine ih (n - (i + k + 1)) (by omega) _ rfl h2 (by omega) ?_
        have hend : t (i + k) = true := by
          have := hr.stop hlt
          rwa [Nat.mod_eq_of_lt hw] at this
        have hcn : cnt t (i + k) = cnt t i := cnt_skip k fun x a b => by
          have := hr.free (x - i) (by omega)
          rwa [show i + (x - i) = x by omega, Nat.mod_eq_of_lt (by omega)] at this
        have hcn2 : cnt t (i + k + 1) = cnt t (i + k) + 1 := by show sumR _ _ + (if t (i + k) = true then 1 else 0) = _; rw [hend]; rfl
        rw [e, hcn2, hcn]
        rcases Nat.eq_zero_or_pos k with h0 | h0
        · subst h0; simp; omega
        · rw [if_pos h0, sumL_snoc]; omega
      · rw [step_end hh hr hi (by omega), sumL_snoc]
        have hcn : cnt t (i + (n - i)) = cnt t i := cnt_skip _ fun x a b => by
          have := hr.free (x - i) (by omega)
          rwa [show i + (x - i) = x by omega, Nat.mod_eq_of_lt (by omega)] at this
        rw [show i + (n - i) = n by omega] at hcn
        rw [hcn]
        have hlast : t (n - 1) = false := by
          have := hr.free (n - 1 - i) (by omega)
          rwa [show i + (n - 1 - i) = n - 1 by omega, Nat.mod_eq_of_lt (by omega)] at this
        rcases hc with ⟨hc, _⟩ | ⟨_, hcn, hct, hcb⟩
        · rw [hlast] at hc; cases hc
        · have hstop := hr.stop hlt
          rw [mod2N (by omega), if_neg (by omega)] at hstop
          have : i + k - n = c := by
            rcases Nat.lt_trichotomy (i + k - n) c with h | h | h
            · rw [hcb _ h] at hstop; cases hstop
            · exact h
            · have := hr.free (n + c - i) (by omega)
              rw [show i + (n + c - i) = c + n by omega, Nat.add_mod_right, Nat.mod_eq_of_lt hcn, hct] at this
              cases this
          omega
    · have : i = n := by have := hh.1; omega
      subst this
      rcases hc with ⟨_, rfl⟩ | ⟨hl, hcn, _, _⟩
      · omega
      · have h2 := hh.2
        rw [show i + i - 1 = (i - 1) + i by omega, Nat.add_mod_right, Nat.mod_eq_of_lt (by omega), hl] at h2
        cases h2
theorem cnt_zero {t : Nat → Bool} : ∀ {n}, (∀ i, i < n → t i = false) → cnt t n = 0
  | 0, _ => rfl
  | n + 1, h => by
    have := cnt_zero (t := t) (n := n) fun i hi => h i (by omega)
    unfold cnt at *
    simp only [sumR]
    rw [this, h n (by omega)]; rfl
theorem least_of {t : Nat → Bool} {n : Nat} (h : anyT t n = true) : ∃ q, q < n ∧ t q = true ∧ ∀ j, j < q → t j = false := by
  obtain ⟨q, hq, ht⟩ := anyT_iff.1 h
  induction q using Nat.strongRecOn with
  | ind q ih =>
    by_cases hb : ∀ j, j < q → t j = false
    · exact ⟨q, hq, ht, hb⟩
    · obtain ⟨j, hj⟩ := Classical.not_forall.1 hb
      obtain ⟨hj1, hj2⟩ := Classical.not_imp.1 hj
      exact ih j hj1 (by omega) (by simpa using hj2)
theorem sum_all {t : Nat → Bool} {n : Nat} (hn : 0 < n) : sumL (gapF t n) + cnt t n = n := by
  unfold gapF
  split
  · rename_i ha
    obtain ⟨q, hq, ht, hb⟩ := least_of ha
    cases hl : t (n - 1) with
    | true => exact sum_from (c := 0) (.inl ⟨hl, rfl⟩) _ 0 rfl (last_hd hn hl) (Nat.le_refl _) rfl
    | false =>
      obtain ⟨e, hh⟩ := first_hd hq ht hb hl
      refine sum_from (c := q) (.inr ⟨hl, hq, ht, hb⟩) _ _ rfl hh (by omega) ?_
      have : cnt t (q + 1) = 1 := by
        show sumR _ _ + (if t q = true then 1 else 0) = _
        have := cnt_zero hb
        unfold cnt at this
        rw [this, ht]; rfl
      rw [e, this]
      show 0 + 1 + q = _
      omega
  · rename_i ha
    have ha : anyT t n = false := by simpa using ha
    rw [cnt_zero (anyT_false.1 ha)]
    show 0 + n + 0 = n
    omega

/-! ### where something fits -/
def freeAt (t : Nat → Bool) (n f s : Nat) : Bool := (List.range s).all fun k => !t ((f + k) % n)
theorem free_iff {t : Nat → Bool} {n f s : Nat} : freeAt t n f s = true ↔ ∀ k, k < s → t ((f + k) % n) = false := by
  unfold freeAt; rw [List.all_eq_true]; simp
def cands (n s : Nat) (g : Ar) : List Nat := (List.range (g.2 + 1 - s)).map fun j => (g.1 + j) % n
def fitP (t : Nat → Bool) (n s : Nat) : Nat := ((gapF t n).flatMap (cands n s)).foldl min n
theorem foldl_min : ∀ (l : List Nat) (m : Nat), l.foldl min m ≤ m ∧ (∀ x ∈ l, l.foldl min m ≤ x) ∧ (l.foldl min m = m ∨ l.foldl min m ∈ l)
  | [], m => ⟨Nat.le_refl _, fun x h => by simp at h, .inl rfl⟩
  | a :: l, m => by
    obtain ⟨h1, h2, h3⟩ := foldl_min l (min m a)
    rw [List.foldl_cons]
    refine ⟨by omega, fun x hx => ?_, ?_⟩
    · rcases List.mem_cons.1 hx with rfl | h
      · omega
      · exact h2 x h
    · rcases h3 with h3 | h3
      · rcases Nat.le_total m a with h | h
        · exact .inl (by omega)
        · exact .inr (List.mem_cons.2 (.inl (by omega)))
      · exact .inr (List.mem_cons.2 (.inr h3))
/-- a stretch that is free lies in one of the gaps -/
theorem free_in {t : Nat → Bool} {n f s : Nat} (hf : f < n) (hs : 1 ≤ s) (ha : anyT t n = true) (h : freeAt t n f s = true) : f ∈ (gapTo t n n).flatMap (cands n s) := by
  rw [free_iff] at h
  -- how far back it is to the last place that is taken
  let u : Nat → Bool := fun b => t ((f + n - 1 - b) % n)
  have hu : anyT u n = true := by
    obtain ⟨q, hq, ht⟩ := anyT_iff.1 ha
    refine anyT_iff.2 ⟨(f + n - 1 - q) % n, Nat.mod_lt _ (by omega), ?_⟩
    show t _ = true
    have : (f + n - 1 - (f + n - 1 - q) % n) % n = q := by
      rw [mod2N (x := f + n - 1 - q) (by omega)]
      split
      · rw [mod2N (by omega)]; split <;> omega
      · rw [mod2N (by omega)]; split <;> omega
    rw [this]; exact ht
  obtain ⟨b, hb, htb, hbb⟩ := least_of hu
  have htb : t ((f + n - 1 - b) % n) = true := htb
  have hi : (f + n - b) % n < n := Nat.mod_lt _ (by omega)
  have free : ∀ j, j < b + s → t (((f + n - b) % n + j) % n) = false := by
    intro j hj
    rw [Nat.mod_add_mod]
    by_cases hjb : j < b
    · have := hbb (b - 1 - j) (by omega)
      have this : t ((f + n - 1 - (b - 1 - j)) % n) = false := this
      rwa [show f + n - 1 - (b - 1 - j) = f + n - b + j by omega] at this
    · have := h (j - b) (by omega)
      rwa [show f + n - b + j = (f + (j - b)) + n by omega, Nat.add_mod_right]
  have hst : st t n ((f + n - b) % n) = true := by
    have h0 := free 0 (by omega)
    rw [Nat.add_zero, Nat.mod_mod] at h0
    have e : ((f + n - b) % n + n - 1) % n = (f + n - 1 - b) % n := by
      rw [mod2N (x := f + n - b) (by omega)]
      split
      · rw [show f + n - b + n - 1 = (f + n - 1 - b) + n by omega, Nat.add_mod_right]
      · rw [show f + n - b - n + n - 1 = f + n - 1 - b by omega]
    unfold st
    rw [h0, e, htb]; rfl
  have hr := rl_run t n ((f + n - b) % n)
  have hlt := run_lt hr ha
  have hk : b + s ≤ rl t n ((f + n - b) % n) := by
    apply Nat.le_of_not_lt
    intro hc
    have := hr.stop hlt
    rw [free _ hc] at this
    cases this
  rw [List.mem_flatMap]
  refine ⟨_, mem_gap hi hst, ?_⟩
  unfold cands
  rw [List.mem_map]
  refine ⟨b, by rw [List.mem_range]; dsimp only; omega, ?_⟩
  show ((f + n - b) % n + b) % n = f
  rw [Nat.mod_add_mod, show f + n - b + b = f + n by omega, Nat.add_mod_right, Nat.mod_eq_of_lt hf]
theorem cands_ok {t : Nat → Bool} {n s x : Nat} (hn : 0 < n) (hs : 1 ≤ s) (h : x ∈ (gapF t n).flatMap (cands n s)) : x < n ∧ freeAt t n x s = true := by
  obtain ⟨g, hg, hx⟩ := List.mem_flatMap.1 h
  obtain ⟨hok, hfree⟩ := gapF_mem hn hg
  unfold cands at hx
  obtain ⟨j, hj, rfl⟩ := List.mem_map.1 hx
  rw [List.mem_range] at hj
  refine ⟨Nat.mod_lt _ hn, free_iff.2 fun k hk => ?_⟩
  rw [Nat.mod_add_mod, Nat.add_assoc]
  exact hfree _ (by omega)
/-- the least place where something fits -/
theorem fit_spec {t : Nat → Bool} {n s : Nat} (hn : 0 < n) (hs : 1 ≤ s) (hsn : s ≤ n) :
    (fitP t n s = n ∨ (fitP t n s < n ∧ freeAt t n (fitP t n s) s = true)) ∧ ∀ f, f < n → freeAt t n f s = true → fitP t n s ≤ f := by
  obtain ⟨h1, h2, h3⟩ := foldl_min ((gapF t n).flatMap (cands n s)) n
  refine ⟨?_, fun f hf hfr => ?_⟩
  · rcases h3 with h | h
    · exact .inl h
    · exact .inr (cands_ok hn hs h)
  · by_cases ha : anyT t n = true
    · have := free_in hf hs ha hfr
      exact h2 f (by unfold gapF; rw [if_pos ha]; exact this)
    · have := h2 0 (by
        unfold gapF
        rw [if_neg ha, List.mem_flatMap]
        refine ⟨_, List.mem_singleton.2 rfl, ?_⟩
        unfold cands
        rw [List.mem_map]
        exact ⟨0, by rw [List.mem_range]; dsimp only; omega, by simp⟩)
      unfold fitP
      omega
/-- whether something fits hangs on the widest -/
theorem fit_wide {t : Nat → Bool} {n s : Nat} (hn : 0 < n) (hs : 1 ≤ s) : fitP t n s < n ↔ ∃ g ∈ gapF t n, s ≤ g.2 := by
  obtain ⟨h1, h2, h3⟩ := foldl_min ((gapF t n).flatMap (cands n s)) n
  constructor
  · intro h
    rcases h3 with h4 | h4
    · unfold fitP at h; omega
    · obtain ⟨g, hg, hx⟩ := List.mem_flatMap.1 h4
      refine ⟨g, hg, ?_⟩
      unfold cands at hx
      obtain ⟨j, hj, _⟩ := List.mem_map.1 hx
      rw [List.mem_range] at hj
      omega
  · rintro ⟨g, hg, hgs⟩
    have hm : (g.1 + 0) % n ∈ (gapF t n).flatMap (cands n s) := List.mem_flatMap.2 ⟨g, hg, by unfold cands; exact List.mem_map.2 ⟨0, by rw [List.mem_range]; omega, rfl⟩⟩
    have := h2 _ hm
    have h5 := Nat.mod_lt (g.1 + 0) hn
    unfold fitP
    omega

/-! ### all turned -/
def tnA (n s : Nat) (a : Ar) : Ar := ((a.1 + s) % n, a.2)
theorem inA_turn {n s : Nat} {a : Ar} {p : Nat} (hs : s < n) (ha : okA n a) (hp : p < n) : inA n (tnA n s a) ((p + s) % n) = inA n a p := by
  obtain ⟨h1, h2⟩ := ha
  have e : ((p + s) % n + n - (a.1 + s) % n) % n = (p + n - a.1) % n := by
    rw [back_eq (Nat.mod_lt _ (by omega)) (Nat.mod_lt _ (by omega)), back_eq h1 hp, mod2N (x := a.1 + s) (by omega), mod2N (x := p + s) (by omega)]
    split <;> split <;> split <;> split <;> omega
  unfold inA tnA
  dsimp only
  rw [e]
theorem ok_turn {n s : Nat} {a : Ar} (ha : okA n a) : okA n (tnA n s a) := ⟨Nat.mod_lt _ (by have := ha.1; omega), ha.2⟩
theorem tk_turn {n s : Nat} {l : List Ar} {p : Nat} (hs : s < n) (hl : ∀ a ∈ l, okA n a) (hp : p < n) : tk n (l.map (tnA n s)) ((p + s) % n) = tk n l p := by
  unfold tk
  rw [List.any_map, Bool.eq_iff_iff, List.any_eq_true, List.any_eq_true]
  constructor
  · rintro ⟨a, h1, h2⟩; exact ⟨a, h1, by rw [← inA_turn hs (hl a h1) hp]; exact h2⟩
  · rintro ⟨a, h1, h2⟩; exact ⟨a, h1, by show inA n (tnA n s a) _ = true; rw [inA_turn hs (hl a h1) hp]; exact h2⟩
theorem meet_turn {n s : Nat} {a b : Ar} (hs : s < n) (ha : okA n a) (hb : okA n b) : meetB n (tnA n s a) (tnA n s b) = meetB n a b := by
  unfold meetB
  have e1 := inA_turn hs hb ha.1
  have e2 := inA_turn hs ha hb.1
  show ((decide (0 < a.2) && inA n (tnA n s b) ((a.1 + s) % n)) || (decide (0 < b.2) && inA n (tnA n s a) ((b.1 + s) % n))) = _
  rw [e1, e2]
section
variable {t u : Nat → Bool} {n s : Nat} (hs : s < n) (h : ∀ p, p < n → u ((p + s) % n) = t p)
include hs h
theorem cnt_turn : cnt u n = cnt t n := sumR_rot hs fun i hi => by rw [h i hi]
theorem any_turn : anyT u n = anyT t n := by
  have e : ∀ p, p < n → u p = t ((p + n - s) % n) := fun p hp => by
    rw [← h _ (Nat.mod_lt _ (by omega)), Nat.mod_add_mod, show p + n - s + s = p + n by omega, Nat.add_mod_right, Nat.mod_eq_of_lt hp]
  rw [Bool.eq_iff_iff, anyT_iff, anyT_iff]
  exact ⟨fun ⟨q, hq, ht⟩ => ⟨_, Nat.mod_lt _ (by omega), by rw [← e q hq]; exact ht⟩, fun ⟨q, hq, ht⟩ => ⟨_, Nat.mod_lt (q + s) (by omega), by rw [h q hq]; exact ht⟩⟩
theorem turn_at (i : Nat) : u ((i + s) % n) = t (i % n) := by
  rw [← h _ (Nat.mod_lt i (by omega)), Nat.mod_add_mod]
theorem rl_turn (i : Nat) : rl u n ((i + s) % n) = rl t n i := by
  refine rl_of ⟨(rl_run t n i).le, fun j hj => ?_, fun hk => ?_⟩
  · rw [Nat.mod_add_mod, show i + s + j = (i + j) + s by omega, turn_at hs h]
    exact (rl_run t n i).free j hj
  · rw [Nat.mod_add_mod, show i + s + rl t n i = (i + rl t n i) + s by omega, turn_at hs h]
    exact (rl_run t n i).stop hk
theorem st_turn {i : Nat} (hi : i < n) : st u n ((i + s) % n) = st t n i := by
  unfold st
  have e : ((i + s) % n + n - 1) % n = ((i + n - 1) + s) % n := by
    rw [mod2N (x := i + s) (by omega)]
    split
    · rw [show i + s + n - 1 = i + n - 1 + s by omega]
    · rw [show i + s - n + n - 1 = i + s - 1 by omega, show i + n - 1 + s = (i + s - 1) + n by omega, Nat.add_mod_right]
  rw [h i hi, e, turn_at hs h]
theorem gap_turn : (gapF u n).length = (gapF t n).length ∧ sumQ (gapF u n) = sumQ (gapF t n) := by
  unfold gapF
  rw [any_turn hs h]
  split
  · rw [gap_len, gap_len, gap_sq, gap_sq]
    exact ⟨sumR_rot hs fun i hi => by rw [st_turn hs h hi], sumR_rot hs fun i hi => by rw [st_turn hs h hi, rl_turn hs h]⟩
  · exact ⟨rfl, rfl⟩
end

/-! ### arcs one behind the other, by where they begin -/
def endF (l : List Ar) : Nat := l.foldl (fun e a => max e (a.1 + a.2)) 0
theorem endF_snoc (l : List Ar) (a : Ar) : endF (l ++ [a]) = max (endF l) (a.1 + a.2) := by simp [endF]
theorem endF_of : ∀ (l : List Ar) (e : Nat), l.foldl (fun e a => max e (a.1 + a.2)) e = e ∨ ∃ a ∈ l, l.foldl (fun e a => max e (a.1 + a.2)) e = a.1 + a.2
  | [], e => .inl rfl
  | a :: l, e => by
    rw [List.foldl_cons]
    rcases endF_of l (max e (a.1 + a.2)) with h | ⟨b, hb, h⟩
    · rcases Nat.le_total e (a.1 + a.2) with h1 | h1
      · exact .inr ⟨a, by simp, by rw [h]; omega⟩
      · exact .inl (by rw [h]; omega)
    · exact .inr ⟨b, by simp [hb], h⟩
theorem endF_le {n : Nat} {l : List Ar} (hl : ∀ a ∈ l, okA n a) : endF l ≤ 2 * n := by
  rcases endF_of l 0 with h | ⟨a, ha, h⟩
  · unfold endF; rw [h]; omega
  · unfold endF; rw [h]; obtain ⟨x, y⟩ := hl a ha; omega
/-- what one arc adds: no more than what lies behind the end of those ahead -/
theorem tk_next {n : Nat} {l : List Ar} {a : Ar} {p : Nat} (hl : ∀ b ∈ l, okA n b) (ha : okA n a) (hs : ∀ b ∈ l, b.1 ≤ a.1) (hp : p < n) :
    tk n (l ++ [a]) p = (tk n l p || decide (∃ j, j < a.1 + a.2 - max a.1 (endF l) ∧ p = (max a.1 (endF l) + j) % n)) := by
  rw [tk_snoc, Bool.eq_iff_iff, Bool.or_eq_true, Bool.or_eq_true, inA_iff ha hp, decide_eq_true_iff]
  constructor
  · rintro (h | ⟨i, hi, e⟩)
    · exact .inl h
    · by_cases hx : endF l ≤ a.1 + i
      · exact .inr ⟨a.1 + i - max a.1 (endF l), by omega, by rw [e]; congr 1; omega⟩
      · refine .inl ((tk_iff hl hp).2 ?_)
        rcases endF_of l 0 with h | ⟨b, hb, h⟩
        · unfold endF at hx; omega
        · have hbs := hs b hb
          have hx' : a.1 + i < b.1 + b.2 := by unfold endF at hx; omega
          exact ⟨b, hb, a.1 + i - b.1, by omega, by rw [e]; congr 1; omega⟩
  · rintro (h | ⟨j, hj, e⟩)
    · exact .inl h
    · exact .inr ⟨max a.1 (endF l) + j - a.1, by omega, by rw [e]; congr 1; omega⟩
end Go.Proofs.Ytmplioglihmkjaa
