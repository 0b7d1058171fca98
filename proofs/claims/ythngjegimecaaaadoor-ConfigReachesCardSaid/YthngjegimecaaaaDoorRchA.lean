/-
  Who is come to, by what is next to each: the search, step by step; what links make next.
-/
import Derived.Test.YthngjegimecaaaaDoorDup
namespace Go.Proofs.YthngjegimecaaaaDoor
open Go.RowKit Go.Deep
set_option linter.unusedVariables false
set_option linter.unusedSimpArgs false

/-- come to, from i -/
inductive Rch (R : List (List Nat)) : Nat → Nat → Prop
  | refl (i : Nat) : Rch R i i
  | step {i k j : Nat} : Rch R i k → j ∈ R.getD k [] → Rch R i j
theorem Rch.trans {R : List (List Nat)} {i k j : Nat} (h : Rch R i k) (h2 : Rch R k j) : Rch R i j := by
  induction h2 with
  | refl => exact h
  | step _ hm ih => exact .step ih hm
theorem Rch.none {R : List (List Nat)} (hR : ∀ k, R.getD k [] = []) {i j : Nat} (h : Rch R i j) : i = j := by
  induction h with
  | refl => rfl
  | step _ hm _ => rw [hR] at hm; cases hm

structure Dfs (R : List (List Nat)) (n src : Nat) (S : List Bool) (O : List Nat) : Prop where
  len : S.length = n
  org : S.getD src false = true
  sound : ∀ j, S.getD j false = true → Rch R src j
  opn : ∀ j ∈ O, j < n ∧ S.getD j false = true
  clo : ∀ j, S.getD j false = true → j ∈ O ∨ ∀ q ∈ R.getD j [], S.getD q false = true
structure DfsIn (R : List (List Nat)) (n src p t : Nat) (S : List Bool) (O : List Nat) : Prop where
  len : S.length = n
  org : S.getD src false = true
  sound : ∀ j, S.getD j false = true → Rch R src j
  opn : ∀ j ∈ O, j < n ∧ S.getD j false = true
  pop : S.getD p false = true
  clo : ∀ j, S.getD j false = true → j ∈ O ∨ ∀ q ∈ (if j = p then (R.getD p []).take t else R.getD j []), S.getD q false = true
theorem getD_set (S : List Bool) (q j : Nat) (hq : q < S.length) : (S.set q true).getD j false = if j = q then true else S.getD j false := by
  rw [List.getD_eq_getElem?_getD, List.getElem?_set]
  by_cases h : q = j
  · subst h; rw [if_pos rfl, if_pos hq, if_pos rfl]; rfl
  · rw [if_neg h, if_neg (fun e => h e.symm), List.getD_eq_getElem?_getD]
section
variable {R : List (List Nat)} {n src p t q : Nat} {S : List Bool} {O : List Nat}
theorem Dfs.first (hs : src < n) : Dfs R n src ((List.replicate n false).set src true) [src] := by
  have hg : ∀ j, ((List.replicate n false).set src true).getD j false = true → j = src := fun j h => by
    rw [getD_set _ _ _ (by simpa using hs)] at h
    by_cases e : j = src
    · exact e
    · rw [if_neg e, List.getD_eq_getElem?_getD, List.getElem?_replicate] at h
      split at h <;> cases h
  have hsrc : ((List.replicate n false).set src true).getD src false = true := by rw [getD_set _ _ _ (by simpa using hs), if_pos rfl]
  refine ⟨by simp, hsrc, fun j h => by rw [hg j h]; exact .refl _, fun j h => ?_, fun j h => .inl (by rw [hg j h]; simp)⟩
  obtain rfl := List.mem_singleton.1 h
  exact ⟨hs, hsrc⟩
theorem Dfs.pop (h : Dfs R n src S (O ++ [p])) : DfsIn R n src p 0 S O ∧ p < n := by
  have hp := h.opn p (by simp)
  refine ⟨⟨h.len, h.org, h.sound, fun j hj => h.opn j (by simp [hj]), hp.2, fun j hj => ?_⟩, hp.1⟩
  by_cases e : j = p
  · right; rw [if_pos e]; simp
  · rw [if_neg e]
    rcases h.clo j hj with h1 | h1
    · rcases List.mem_append.1 h1 with h2 | h2
      · exact .inl h2
      · exact absurd (List.mem_singleton.1 h2) e
    · exact .inr h1
theorem DfsIn.seen (h : DfsIn R n src p t S O) (hq : (R.getD p [])[t]? = some q) (hs : S.getD q false = true) : DfsIn R n src p (t + 1) S O := by
  refine ⟨h.len, h.org, h.sound, h.opn, h.pop, fun j hj => ?_⟩
  rcases h.clo j hj with h1 | h1
  · exact .inl h1
  · refine .inr fun x hx => ?_
    by_cases e : j = p
    · rw [if_pos e] at hx h1
      rw [List.take_add_one, hq] at hx
      rcases List.mem_append.1 hx with h2 | h2
      · exact h1 x h2
      · have e9 : x = q := by simpa using h2
        rw [e9]; exact hs
    · rw [if_neg e] at hx h1; exact h1 x hx
theorem DfsIn.push (h : DfsIn R n src p t S O) (hq : (R.getD p [])[t]? = some q) (hqn : q < n) (hs : S.getD q false = false) : DfsIn R n src p (t + 1) (S.set q true) (O ++ [q]) := by
  have hl : q < S.length := by rw [h.len]; exact hqn
  have hm : ∀ j, S.getD j false = true → (S.set q true).getD j false = true := fun j hj => by
    rw [getD_set _ _ _ hl]
    split
    · rfl
    · exact hj
  have hqq : (S.set q true).getD q false = true := by rw [getD_set _ _ _ hl, if_pos rfl]
  refine ⟨by rw [List.length_set]; exact h.len, hm _ h.org, fun j hj => ?_, fun j hj => ?_, hm _ h.pop, fun j hj => ?_⟩
  · rw [getD_set _ _ _ hl] at hj
    by_cases e : j = q
    · rw [e]; exact .step (h.sound p h.pop) (List.mem_of_getElem? hq)
    · rw [if_neg e] at hj; exact h.sound j hj
  · rcases List.mem_append.1 hj with h1 | h1
    · exact ⟨(h.opn j h1).1, hm _ (h.opn j h1).2⟩
    · rw [List.mem_singleton.1 h1]; exact ⟨hqn, hqq⟩
  · rw [getD_set _ _ _ hl] at hj
    by_cases e : j = q
    · exact .inl (by simp [e])
    · rw [if_neg e] at hj
      rcases h.clo j hj with h1 | h1
      · exact .inl (by simp [h1])
      · refine .inr fun x hx => ?_
        by_cases e2 : j = p
        · rw [if_pos e2] at hx h1
          rw [List.take_add_one, hq] at hx
          rcases List.mem_append.1 hx with h2 | h2
          · exact hm _ (h1 x h2)
          · have e9 : x = q := by simpa using h2
            rw [e9]; exact hqq
        · rw [if_neg e2] at hx h1; exact hm _ (h1 x hx)
theorem DfsIn.done (h : DfsIn R n src p (R.getD p []).length S O) : Dfs R n src S O := by
  refine ⟨h.len, h.org, h.sound, h.opn, fun j hj => ?_⟩
  rcases h.clo j hj with h1 | h1
  · exact .inl h1
  · right
    by_cases e : j = p
    · rw [if_pos e, List.take_length] at h1; rw [e]; exact h1
    · rw [if_neg e] at h1; exact h1
theorem Dfs.all (h : Dfs R n src S []) (j : Nat) : S.getD j false = true ↔ Rch R src j := by
  refine ⟨h.sound j, fun hr => ?_⟩
  induction hr with
  | refl => exact h.org
  | step _ hm ih =>
    rcases h.clo _ ih with h1 | h1
    · cases h1
    · exact h1 _ hm
/-- how much is left -/
def dfsM (S : List Bool) (O : List Nat) : Nat := S.count false + O.length
theorem dfs_push (hl : q < S.length) (hs : S.getD q false = false) : dfsM (S.set q true) (O ++ [q]) = dfsM S O := by
  have hf : S[q] = false := by rwa [List.getD_eq_getElem?_getD, List.getElem?_eq_getElem hl] at hs
  have hp : 0 < S.count false := List.count_pos_iff.2 (hf ▸ List.getElem_mem hl)
  unfold dfsM
  rw [List.count_set hl, hf, List.length_append]
  simp
  omega
end

/-! ### What links make next -/
def partP (c : Conf) (z : Int) : Option Nat := if ofB z c.ports.length = true ∧ ofB (c.ports.getD z.toNat default).part c.parts.length = true then some (c.ports.getD z.toNat default).part.toNat else none
def linkP (c : Conf) (x : Lk) : Option (Nat × List Nat) := if (partP c x.source).isSome = true ∧ ∀ d ∈ x.dests, (partP c d).isSome = true then some ((partP c x.source).getD 0, x.dests.map fun d => (partP c d).getD 0) else none
def nextS (c : Conf) (R : List (List Nat)) (x : Lk) : List (List Nat) := match linkP c x with
  | none => R
  | some (f, t) => R.set f (R.getD f [] ++ t)
def nextF (c : Conf) (l : List Lk) : List (List Nat) := l.foldl (nextS c) (List.replicate c.parts.length [])
theorem partP_lt {c : Conf} {z : Int} {k : Nat} (h : partP c z = some k) : k < c.parts.length ∧ z.toNat < c.ports.length ∧ (c.ports.getD z.toNat default).part = (k : Int) ∧ 0 ≤ z := by
  unfold partP at h
  split at h
  · rename_i h1
    obtain ⟨h2, h3⟩ := h1
    simp only [ofB, Bool.and_eq_true, decide_eq_true_eq] at h2 h3
    injection h with h
    omega
  · cases h
theorem nextS_len (c : Conf) (R : List (List Nat)) (x : Lk) : (nextS c R x).length = R.length := by
  unfold nextS
  split <;> simp
theorem next_len (c : Conf) : ∀ (l : List Lk) (R : List (List Nat)), (l.foldl (nextS c) R).length = R.length
  | [], R => rfl
  | x :: l, R => by rw [List.foldl_cons, next_len c l, nextS_len]
theorem nextF_len (c : Conf) (l : List Lk) : (nextF c l).length = c.parts.length := by unfold nextF; rw [next_len]; simp
theorem nextF_snoc (c : Conf) (l : List Lk) (x : Lk) : nextF c (l ++ [x]) = nextS c (nextF c l) x := by simp [nextF]
theorem linkP_some {c : Conf} {x : Lk} {f : Nat} {t : List Nat} (h : linkP c x = some (f, t)) : partP c x.source = some f ∧ (∀ d ∈ x.dests, (partP c d).isSome = true) ∧ t = x.dests.map fun d => (partP c d).getD 0 := by
  unfold linkP at h
  split at h
  · rename_i h1
    injection h with h
    injection h with h2 h3
    obtain ⟨k, hk⟩ := Option.isSome_iff_exists.1 h1.1
    rw [hk] at h2
    exact ⟨by rw [hk, ← h2]; rfl, h1.2, h3.symm⟩
  · cases h
theorem tos_lt {c : Conf} {l : List Int} (h : ∀ d ∈ l, (partP c d).isSome = true) : ∀ q ∈ l.map (fun d => (partP c d).getD 0), q < c.parts.length := fun q hq => by
  obtain ⟨d, hd, rfl⟩ := List.mem_map.1 hq
  obtain ⟨k, hk⟩ := Option.isSome_iff_exists.1 (h d hd)
  rw [hk]
  exact (partP_lt hk).1
theorem nextS_lt {c : Conf} {R : List (List Nat)} {x : Lk} (h : ∀ k, ∀ q ∈ R.getD k [], q < c.parts.length) : ∀ k, ∀ q ∈ (nextS c R x).getD k [], q < c.parts.length := fun k q hq => by
  unfold nextS at hq
  split at hq
  · exact h k q hq
  · rename_i f t hl
    obtain ⟨_, h2, rfl⟩ := linkP_some hl
    rw [List.getD_eq_getElem?_getD, List.getElem?_set] at hq
    split at hq
    · split at hq
      · rcases List.mem_append.1 hq with h3 | h3
        · exact h f q h3
        · exact tos_lt h2 q h3
      · cases hq
    · exact h k q (by rw [List.getD_eq_getElem?_getD]; exact hq)
theorem next_lt {c : Conf} : ∀ (l : List Lk) (R : List (List Nat)), (∀ k, ∀ q ∈ R.getD k [], q < c.parts.length) → ∀ k, ∀ q ∈ (l.foldl (nextS c) R).getD k [], q < c.parts.length
  | [], R, h => h
  | x :: l, R, h => next_lt l _ (nextS_lt h)
theorem nextF_lt (c : Conf) (l : List Lk) : ∀ k, ∀ q ∈ (nextF c l).getD k [], q < c.parts.length := next_lt l _ fun k q hq => by
  rw [List.getD_eq_getElem?_getD, List.getElem?_replicate] at hq
  split at hq <;> cases hq
theorem nextF_nil (c : Conf) (k : Nat) : (nextF c []).getD k [] = [] := by
  unfold nextF
  rw [List.foldl_nil, List.getD_eq_getElem?_getD, List.getElem?_replicate]
  split <;> rfl
theorem nextS_keep {c : Conf} {R : List (List Nat)} {x : Lk} {k q : Nat} (h : q ∈ R.getD k []) : q ∈ (nextS c R x).getD k [] := by
  unfold nextS
  split
  · exact h
  · rename_i f t _
    rw [List.getD_eq_getElem?_getD, List.getElem?_set]
    by_cases e : f = k
    · subst e
      have hl : f < R.length := by
        rcases Nat.lt_or_ge f R.length with h1 | h1
        · exact h1
        · rw [List.getD_eq_getElem?_getD, List.getElem?_eq_none h1] at h; cases h
      rw [if_pos rfl, if_pos hl]
      exact List.mem_append_left _ h
    · rw [if_neg e, ← List.getD_eq_getElem?_getD]; exact h
theorem next_keep {c : Conf} : ∀ (l : List Lk) (R : List (List Nat)) {k q : Nat}, q ∈ R.getD k [] → q ∈ (l.foldl (nextS c) R).getD k []
  | [], R, k, q, h => h
  | x :: l, R, k, q, h => next_keep l _ (nextS_keep h)
/-- the ends of a link that may be are next to one another -/
theorem next_link {c : Conf} {x : Lk} {f : Nat} {t : List Nat} (hl : linkP c x = some (f, t)) : ∀ (l : List Lk) (R : List (List Nat)), R.length = c.parts.length → x ∈ l → ∀ q ∈ t, q ∈ (l.foldl (nextS c) R).getD f []
  | [], R, _, h, _, _ => by cases h
  | y :: l, R, hR, h, q, hq => by
    rcases List.mem_cons.1 h with rfl | h
    · refine next_keep l _ ?_
      unfold nextS
      rw [hl]
      have hf := (partP_lt (linkP_some hl).1).1
      simp only []
      rw [List.getD_eq_getElem?_getD, List.getElem?_set, if_pos rfl, if_pos (by omega)]
      exact List.mem_append_right _ hq
    · exact next_link hl l _ (by rw [nextS_len]; exact hR) h q hq
end Go.Proofs.YthngjegimecaaaaDoor
