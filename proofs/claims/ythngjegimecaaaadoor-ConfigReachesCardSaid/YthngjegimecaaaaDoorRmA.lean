/-
  Who is come to, by sweeps over what is next: as many sweeps as there are cells are enough.
-/
import Derived.Test.YthngjegimecaaaaDoorRchA
namespace Go.Proofs.YthngjegimecaaaaDoor
open Go.RowKit Go.Deep
set_option linter.unusedVariables false
set_option linter.unusedSimpArgs false

def put1 (S : List Bool) (e : Nat × Nat) : List Bool := S.set e.2 (S.getD e.2 false || S.getD e.1 false)
def sweep (S : List Bool) (E : List (Nat × Nat)) : List Bool := E.foldl put1 S
def sweepN (E : List (Nat × Nat)) : Nat → List Bool → List Bool
  | 0, S => S
  | r + 1, S => sweep (sweepN E r S) E
def linkE (c : Conf) (x : Lk) : List (Nat × Nat) := match linkP c x with
  | none => []
  | some (f, t) => t.map fun q => (f, q)
def edgesF (c : Conf) (l : List Lk) : List (Nat × Nat) := l.flatMap (linkE c)
def firstB (n i : Nat) : List Bool := (List.replicate n false).set i true

theorem getD_set' (S : List Bool) (q j : Nat) (b : Bool) (hq : q < S.length) : (S.set q b).getD j false = if j = q then b else S.getD j false := by
  rw [List.getD_eq_getElem?_getD, List.getElem?_set]
  by_cases h : q = j
  · subst h; rw [if_pos rfl, if_pos hq, if_pos rfl]; rfl
  · rw [if_neg h, if_neg (fun e => h e.symm), List.getD_eq_getElem?_getD]
theorem set_big (S : List Bool) (q : Nat) (b : Bool) (hq : ¬q < S.length) : S.set q b = S := by
  apply List.ext_getElem?
  intro j
  rw [List.getElem?_set]
  by_cases h : q = j
  · subst h; rw [if_pos rfl, if_neg hq, List.getElem?_eq_none (by omega)]
  · rw [if_neg h]
theorem put1_len (S : List Bool) (e : Nat × Nat) : (put1 S e).length = S.length := by unfold put1; rw [List.length_set]
theorem sweep_len : ∀ (E : List (Nat × Nat)) (S : List Bool), (sweep S E).length = S.length
  | [], S => rfl
  | e :: E, S => by
    show (sweep (put1 S e) E).length = _
    rw [sweep_len E, put1_len]
theorem sweepN_len (E : List (Nat × Nat)) (S : List Bool) : ∀ r, (sweepN E r S).length = S.length
  | 0 => rfl
  | r + 1 => by
    show (sweep _ E).length = _
    rw [sweep_len, sweepN_len E S r]
theorem put1_keep {S : List Bool} {e : Nat × Nat} {j : Nat} (h : S.getD j false = true) : (put1 S e).getD j false = true := by
  unfold put1
  by_cases hq : e.2 < S.length
  · rw [getD_set' _ _ _ _ hq]
    split
    · rename_i e1; rw [← e1, h]; rfl
    · exact h
  · rw [set_big _ _ _ hq]; exact h
theorem sweep_keep : ∀ (E : List (Nat × Nat)) (S : List Bool) {j : Nat}, S.getD j false = true → (sweep S E).getD j false = true
  | [], S, j, h => h
  | e :: E, S, j, h => sweep_keep E (put1 S e) (put1_keep h)
theorem sweep_edge {f q : Nat} : ∀ (E : List (Nat × Nat)) (S : List Bool), (f, q) ∈ E → q < S.length → S.getD f false = true → (sweep S E).getD q false = true
  | [], S, h, _, _ => by cases h
  | e :: E, S, h, hq, hf => by
    rcases List.mem_cons.1 h with rfl | h
    · refine sweep_keep E _ ?_
      unfold put1
      rw [getD_set' _ _ _ _ hq, if_pos rfl, hf, Bool.or_true]
    · exact sweep_edge E (put1 S e) h (by rw [put1_len]; exact hq) (put1_keep hf)
theorem sweep_sound {R : List (List Nat)} {i : Nat} : ∀ (E : List (Nat × Nat)) (S : List Bool), (∀ e ∈ E, e.2 ∈ R.getD e.1 []) → (∀ j, S.getD j false = true → Rch R i j) → ∀ j, (sweep S E).getD j false = true → Rch R i j
  | [], S, _, h, j, hj => h j hj
  | e :: E, S, hE, h, j, hj => by
    refine sweep_sound E (put1 S e) (fun x hx => hE x (List.mem_cons_of_mem _ hx)) (fun j hj => ?_) j hj
    unfold put1 at hj
    by_cases hq : e.2 < S.length
    · rw [getD_set' _ _ _ _ hq] at hj
      split at hj
      · rename_i e1
        subst e1
        rcases Bool.or_eq_true _ _ ▸ hj with h1 | h1
        · exact h _ h1
        · exact .step (h _ h1) (hE e (List.mem_cons_self ..))
      · exact h j hj
    · rw [set_big _ _ _ hq] at hj; exact h j hj
theorem sweepN_sound {R : List (List Nat)} {i : Nat} {E : List (Nat × Nat)} {S : List Bool} (hE : ∀ e ∈ E, e.2 ∈ R.getD e.1 []) (h : ∀ j, S.getD j false = true → Rch R i j) : ∀ r j, (sweepN E r S).getD j false = true → Rch R i j
  | 0 => h
  | r + 1 => sweep_sound E _ hE (sweepN_sound hE h r)
theorem sweepN_keep {E : List (Nat × Nat)} {S : List Bool} {j : Nat} (h : S.getD j false = true) : ∀ r, (sweepN E r S).getD j false = true
  | 0 => h
  | r + 1 => sweep_keep E _ (sweepN_keep h r)
theorem count_le : ∀ (a b : List Bool), a.length = b.length → (∀ j, a.getD j false = true → b.getD j false = true) → a.count true ≤ b.count true ∧ (a.count true = b.count true → a = b)
  | [], [], _, _ => ⟨Nat.le_refl _, fun _ => rfl⟩
  | [], _ :: _, h, _ => by cases h
  | _ :: _, [], h, _ => by cases h
  | x :: a, y :: b, h, hi => by
    obtain ⟨h1, h2⟩ := count_le a b (by simpa using h) fun j hj => by simpa using hi (j + 1) (by simpa using hj)
    have h0 := hi 0
    rcases x with _ | _ <;> rcases y with _ | _
    · simp only [List.count_cons, beq_iff_eq]
      exact ⟨by simpa using h1, fun e => by rw [h2 (by simpa using e)]⟩
    · simp only [List.count_cons]
      refine ⟨by simp; omega, fun e => ?_⟩
      simp at e
      omega
    · simp at h0
    · simp only [List.count_cons]
      exact ⟨by simpa using h1, fun e => by rw [h2 (by simpa using e)]⟩
theorem sweepN_grow (E : List (Nat × Nat)) (S : List Bool) (h : 1 ≤ S.count true) : ∀ r, sweep (sweepN E r S) E = sweepN E r S ∨ r + 1 ≤ (sweepN E r S).count true
  | 0 => .inr h
  | r + 1 => by
    rcases sweepN_grow E S h r with h1 | h1
    · left
      show sweep (sweep _ E) E = sweep _ E
      rw [h1, h1]
    · obtain ⟨h2, h3⟩ := count_le (sweepN E r S) (sweep (sweepN E r S) E) (sweep_len _ _).symm fun j => sweep_keep E _
      by_cases e : (sweepN E r S).count true = (sweep (sweepN E r S) E).count true
      · left
        have := (h3 e).symm
        show sweep (sweep _ E) E = sweep _ E
        rw [this, this]
      · right
        show _ ≤ (sweep _ E).count true
        omega
theorem firstB_at (n i j : Nat) (hi : i < n) : (firstB n i).getD j false = true ↔ j = i := by
  unfold firstB
  rw [getD_set' _ _ _ _ (by simpa using hi)]
  by_cases e : j = i
  · simp [e]
  · rw [if_neg e, List.getD_eq_getElem?_getD, List.getElem?_replicate]
    constructor
    · intro h; split at h <;> cases h
    · intro h; exact absurd h e
theorem edges_next {c : Conf} {f q : Nat} : ∀ (l : List Lk) (R : List (List Nat)), q ∈ (l.foldl (nextS c) R).getD f [] → q ∈ R.getD f [] ∨ (f, q) ∈ edgesF c l
  | [], R, h => .inl h
  | x :: l, R, h => by
    have hx : edgesF c (x :: l) = linkE c x ++ edgesF c l := rfl
    rcases edges_next l (nextS c R x) h with h1 | h1
    · unfold nextS at h1
      split at h1
      · exact .inl h1
      · rename_i a t hl
        rw [List.getD_eq_getElem?_getD, List.getElem?_set] at h1
        split at h1
        · rename_i e
          subst e
          split at h1
          · rcases List.mem_append.1 h1 with h2 | h2
            · exact .inl h2
            · right
              rw [hx]
              refine List.mem_append_left _ ?_
              unfold linkE
              rw [hl]
              exact List.mem_map.2 ⟨q, h2, rfl⟩
          · cases h1
        · left; rw [List.getD_eq_getElem?_getD]; exact h1
    · right; rw [hx]; exact List.mem_append_right _ h1
theorem edges_in {c : Conf} {l : List Lk} : ∀ e ∈ edgesF c l, e.2 ∈ (nextF c l).getD e.1 [] := fun e he => by
  obtain ⟨x, hx, h1⟩ := List.mem_flatMap.1 he
  unfold linkE at h1
  split at h1
  · cases h1
  · rename_i f t hl
    obtain ⟨q, hq, rfl⟩ := List.mem_map.1 h1
    exact next_link hl l _ (by simp) hx q hq
theorem next_in {c : Conf} {l : List Lk} {f q : Nat} (h : q ∈ (nextF c l).getD f []) : (f, q) ∈ edgesF c l := by
  rcases edges_next l _ h with h1 | h1
  · rw [List.getD_eq_getElem?_getD, List.getElem?_replicate] at h1
    split at h1 <;> cases h1
  · exact h1
/-- as many sweeps as there are partitions: all that is come to, and nothing else -/
theorem sweepN_all (c : Conf) (l : List Lk) (i : Nat) (hi : i < c.parts.length) (j : Nat) : (sweepN (edgesF c l) c.parts.length (firstB c.parts.length i)).getD j false = true ↔ Rch (nextF c l) i j := by
  have hl : (firstB c.parts.length i).length = c.parts.length := by simp [firstB]
  have hf : (firstB c.parts.length i).getD i false = true := (firstB_at _ _ _ hi).2 rfl
  constructor
  · exact sweepN_sound edges_in (fun j hj => by rw [(firstB_at _ _ _ hi).1 hj]; exact .refl _) _ j
  · intro hr
    have hc : 1 ≤ (firstB c.parts.length i).count true := by
      refine List.count_pos_iff.2 ?_
      have h2 : (firstB c.parts.length i)[i]'(by omega) = true := by
        rw [List.getD_eq_getElem?_getD, List.getElem?_eq_getElem (by omega)] at hf; exact hf
      rw [← h2]; exact List.getElem_mem _
    have hfix : sweep (sweepN (edgesF c l) c.parts.length (firstB c.parts.length i)) (edgesF c l) = sweepN (edgesF c l) c.parts.length (firstB c.parts.length i) := by
      rcases sweepN_grow (edgesF c l) _ hc c.parts.length with h1 | h1
      · exact h1
      · have h2 := List.count_le_length (a := true) (l := sweepN (edgesF c l) c.parts.length (firstB c.parts.length i))
        rw [sweepN_len, hl] at h2
        omega
    induction hr with
    | refl => exact sweepN_keep hf _
    | step _ hm ih =>
      have h3 := sweep_edge _ _ (next_in hm) (by rw [sweepN_len, hl]; exact nextF_lt c l _ _ hm) ih
      rw [hfix] at h3
      exact h3
end Go.Proofs.YthngjegimecaaaaDoor
