/-
  Several sizes, one behind the other: rooms, and what is left of them.
-/
import Derived.Test.YtpnpbnfjhnmhjaaPcM
namespace Go.Proofs.Ytpnpbnfjhnmhjaa

/-- what rooms are, while t is taken -/
structure Rv (t : Nat → Bool) (align limit : Nat) (R : List (Nat × Nat)) : Prop where
  al : ∀ r ∈ R, r.1 % align = 0 ∧ r.2 ≤ limit
  fr : ∀ r ∈ R, ∀ q, r.1 ≤ q → q < r.2 → t q = false
  cv : ∀ p k, 0 < k → p % align = 0 → p + k ≤ limit → (∀ q, p ≤ q → q < p + k → t q = false) → ∃ r ∈ R, r.1 ≤ p ∧ p + k ≤ r.2
  od : R.Pairwise fun a b => a.2 ≤ b.1
def roomsOf (align : Nat) (L : List (Nat × Nat)) : List (Nat × Nat) := L.map fun s => (upF s.1 align, s.2)
theorem rooms_start {t : Nat → Bool} {align limit : Nat} (ha : 0 < align) : Rv t align limit (roomsOf align (freeTo t limit)) := by
  refine ⟨fun r hr => ?_, fun r hr q h1 h2 => ?_, fun p k hk hp hl hf => ?_, ?_⟩
  · obtain ⟨s, hs, rfl⟩ := List.mem_map.1 hr
    exact ⟨upF_mod _ _, (free_gp hs).le⟩
  · obtain ⟨s, hs, rfl⟩ := List.mem_map.1 hr
    have h1' : upF s.1 align ≤ q := h1
    exact (free_gp hs).fr q (by have := upF_ge (n := s.1) ha; omega) h2
  · obtain ⟨s, hs, h1, h2⟩ := free_in hk hf limit hl
    exact ⟨_, List.mem_map.2 ⟨s, hs, rfl⟩, upF_le ha hp h1, h2⟩
  · rw [roomsOf, List.pairwise_map]
    refine (free_pw t limit).imp fun {a b} h => ?_
    have := upF_ge (n := b.1) ha
    dsimp only; omega
/-- no room from 'lo' on holds the size, up to i -/
def roomB (size : Nat) (r : Nat × Nat) : Bool := decide (r.1 + size ≤ r.2)
theorem put_hit {t : Nat → Bool} {align limit size i : Nat} {R : List (Nat × Nat)} (h : Rv t align limit R) (hz : 0 < size) (hi : i < R.length) (hp : ∀ j, j < i → roomB size (R.getD j (0, 0)) = false) (hr : roomB size (R.getD i (0, 0)) = true) :
    firstF t size align limit = some (R.getD i (0, 0)).1 := by
  have hm : R.getD i (0, 0) ∈ R := by rw [List.getD_eq_getElem?_getD, List.getElem?_eq_getElem hi]; exact List.getElem_mem hi
  have h1 : (R.getD i (0, 0)).1 + size ≤ (R.getD i (0, 0)).2 := of_decide_eq_true hr
  obtain ⟨a1, a2⟩ := h.al _ hm
  refine firstF_some.2 ⟨fitsB_iff.2 ⟨a1, by omega, fun q h2 h3 => h.fr _ hm q h2 (by omega)⟩, fun q hq => ?_⟩
  cases hf : fitsB t size align limit q with
  | false => rfl
  | true =>
    obtain ⟨f1, f2, f3⟩ := fitsB_iff.1 hf
    obtain ⟨r, hr', k1, k2⟩ := h.cv q size hz f1 f2 f3
    obtain ⟨j, hj, rfl⟩ := List.mem_iff_getElem.1 hr'
    have ej : R.getD j (0, 0) = R[j] := by rw [List.getD_eq_getElem?_getD, List.getElem?_eq_getElem hj]; rfl
    have ei : R.getD i (0, 0) = R[i] := by rw [List.getD_eq_getElem?_getD, List.getElem?_eq_getElem hi]; rfl
    rcases Nat.lt_trichotomy j i with hlt | rfl | hlt
    · have := hp j hlt
      rw [ej] at this
      have := of_decide_eq_false this
      omega
    · rw [ei] at hq; omega
    · have := List.pairwise_iff_getElem.1 h.od i j hi hj hlt
      rw [ei] at h1 hq
      omega
theorem put_miss {t : Nat → Bool} {align limit size : Nat} {R : List (Nat × Nat)} (h : Rv t align limit R) (hz : 0 < size) (hp : ∀ j, j < R.length → roomB size (R.getD j (0, 0)) = false) : firstF t size align limit = none := by
  refine firstF_none.2 fun q => ?_
  cases hf : fitsB t size align limit q with
  | false => rfl
  | true =>
    obtain ⟨f1, f2, f3⟩ := fitsB_iff.1 hf
    obtain ⟨r, hr', k1, k2⟩ := h.cv q size hz f1 f2 f3
    obtain ⟨j, hj, rfl⟩ := List.mem_iff_getElem.1 hr'
    have ej : R.getD j (0, 0) = R[j] := by rw [List.getD_eq_getElem?_getD, List.getElem?_eq_getElem hj]; rfl
    have := hp j hj
    rw [ej] at this
    have := of_decide_eq_false this
    omega
def orSpan (t : Nat → Bool) (p k : Nat) (q : Nat) : Bool := t q || (decide (p ≤ q) && decide (q < p + k))
theorem orSpan_false {t : Nat → Bool} {p k q : Nat} : orSpan t p k q = false ↔ t q = false ∧ (q < p ∨ p + k ≤ q) := by
  unfold orSpan
  rw [Bool.or_eq_false_iff, Bool.and_eq_false_iff, decide_eq_false_iff_not, decide_eq_false_iff_not]
  exact and_congr_right fun _ => by omega
theorem span_set (R : List (Nat × Nat)) (i j : Nat) (x : Nat × Nat) (hi : i < R.length) : (R.set i x).getD j (0, 0) = if j = i then x else R.getD j (0, 0) := by
  rw [List.getD_eq_getElem?_getD, List.getD_eq_getElem?_getD, List.getElem?_set]
  by_cases h : i = j
  · subst h; rw [if_pos rfl, if_pos hi, if_pos rfl]; rfl
  · rw [if_neg h, if_neg (fun e => h e.symm)]
/-- **a size is put into room i** -/
theorem put_next {t : Nat → Bool} {align limit size i : Nat} {R : List (Nat × Nat)} (h : Rv t align limit R) (ha : 0 < align) (hz : 0 < size) (hi : i < R.length) (hr : roomB size (R.getD i (0, 0)) = true) :
    Rv (orSpan t (R.getD i (0, 0)).1 size) align limit (R.set i (upF ((R.getD i (0, 0)).1 + size) align, (R.getD i (0, 0)).2)) := by
  have ei : R.getD i (0, 0) = R[i] := by rw [List.getD_eq_getElem?_getD, List.getElem?_eq_getElem hi]; rfl
  rw [ei] at hr ⊢
  have h1 : R[i].1 + size ≤ R[i].2 := of_decide_eq_true hr
  have hup := upF_ge (n := R[i].1 + size) ha
  obtain ⟨a1, a2⟩ := h.al _ (List.getElem_mem hi)
  have hmem : ∀ r, r ∈ R.set i (upF (R[i].1 + size) align, R[i].2) → r = (upF (R[i].1 + size) align, R[i].2) ∨ ∃ j, ∃ hj : j < R.length, j ≠ i ∧ r = R[j] := by
    intro r hr
    obtain ⟨j, hj, rfl⟩ := List.mem_iff_getElem.1 hr
    rw [List.getElem_set]
    rw [List.length_set] at hj
    split
    · exact .inl rfl
    · rename_i hne
      exact .inr ⟨j, hj, fun e => hne e.symm, rfl⟩
  refine ⟨fun r hr => ?_, fun r hr q h2 h3 => ?_, fun p k hk hp hl hf => ?_, ?_⟩
  · rcases hmem r hr with rfl | ⟨j, hj, _, rfl⟩
    · exact ⟨upF_mod _ _, a2⟩
    · exact h.al _ (List.getElem_mem hj)
  · refine orSpan_false.2 ?_
    rcases hmem r hr with rfl | ⟨j, hj, hne, rfl⟩
    · dsimp only at h2 h3
      exact ⟨h.fr _ (List.getElem_mem hi) q (by omega) h3, by omega⟩
    · refine ⟨h.fr _ (List.getElem_mem hj) q h2 h3, ?_⟩
      rcases Nat.lt_or_ge j i with hlt | hge
      · have := List.pairwise_iff_getElem.1 h.od j i hj hi hlt; omega
      · have := List.pairwise_iff_getElem.1 h.od i j hi hj (by omega); omega
  · obtain ⟨r, hr', k1, k2⟩ := h.cv p k hk hp hl fun q b1 b2 => (orSpan_false.1 (hf q b1 b2)).1
    obtain ⟨j, hj, rfl⟩ := List.mem_iff_getElem.1 hr'
    by_cases hji : j = i
    · subst hji
      refine ⟨(upF (R[j].1 + size) align, R[j].2), List.mem_iff_getElem.2 ⟨j, by simpa using hj, by simp⟩, ?_, k2⟩
      refine upF_le ha hp ?_
      rcases (orSpan_false.1 (hf p (Nat.le_refl _) (by omega))).2 with h5 | h5
      · omega
      · exact h5
    · exact ⟨R[j], List.mem_iff_getElem.2 ⟨j, by simpa using hj, by rw [List.getElem_set, if_neg (fun e => hji e.symm)]⟩, k1, k2⟩
  · rw [List.pairwise_iff_getElem]
    intro a b ha' hb' hab
    rw [List.length_set] at ha' hb'
    rw [List.getElem_set, List.getElem_set]
    have hod := fun (x y : Nat) (hx : x < R.length) (hy : y < R.length) (hxy : x < y) => List.pairwise_iff_getElem.1 h.od x y hx hy hxy
    split
    · rename_i e; subst e
      rw [if_neg (by omega)]
      exact hod _ _ hi hb' hab
    · split
      · rename_i e; subst e
        have := hod a i ha' hi hab
        dsimp only; omega
      · exact hod _ _ ha' hb' hab
theorem Rv.congr {t u : Nat → Bool} {align limit : Nat} {R : List (Nat × Nat)} (h : Rv t align limit R) (e : ∀ p, t p = u p) : Rv u align limit R := by
  obtain rfl : t = u := funext e
  exact h
/-- rooms ahead of 'next' do not hold the size; they only get smaller -/
def NxOk (R : List (Nat × Nat)) (nx : Nat → Nat) : Prop := ∀ z i, i < nx z → roomB z (R.getD i (0, 0)) = false
theorem nx_put {R : List (Nat × Nat)} {nx : Nat → Nat} {size i v T : Nat} (h : NxOk R nx) (hi : i < R.length) (hv : (R.getD i (0, 0)).1 ≤ v) (hT : T = (R.getD i (0, 0)).2) (hp : ∀ j, nx size ≤ j → j < i → roomB size (R.getD j (0, 0)) = false) :
    NxOk (R.set i (v, T)) (fun z => if z = size then i else nx z) := by
  have hsm : ∀ z j, roomB z (R.getD j (0, 0)) = false → roomB z ((R.set i (v, T)).getD j (0, 0)) = false := by
    intro z j hb
    rw [span_set _ _ _ _ hi]
    split
    · rename_i e; subst e
      have := of_decide_eq_false hb
      exact decide_eq_false (by dsimp only; omega)
    · exact hb
  intro z j hj
  dsimp only at hj
  split at hj
  · rename_i e; subst e
    refine hsm _ _ ?_
    rcases Nat.lt_or_ge j (nx z) with h1 | h1
    · exact h z j h1
    · exact hp j h1 hj
  · exact hsm _ _ (h z j hj)

/-! ### the document's course -/
/-- what is taken, with what was placed -/
def spF (sizes : List Int) (ps : List Nat) : List Ai := ps.zipIdx.map fun x => ((x.1 : Int), (x.1 : Int) + sizes.getD x.2 0)
theorem spF_snoc (sizes : List Int) (ps : List Nat) (p : Nat) : spF sizes (ps ++ [p]) = spF sizes ps ++ [((p : Int), (p : Int) + sizes.getD ps.length 0)] := by
  unfold spF; rw [List.zipIdx_append, List.map_append]; simp
theorem spF_len (sizes : List Int) (ps : List Nat) : (spF sizes ps).length = ps.length := by simp [spF]
/-- of the first k sizes: their places; none: one has none -/
def fitS (l : List Ai) (sizes : List Int) (align limit : Nat) : Nat → Option (List Nat)
  | 0 => some []
  | k + 1 => match fitS l sizes align limit k with
    | none => none
    | some ps => match firstF (tkn (l ++ spF sizes ps)) (sizes.getD k 0).toNat align limit with
      | none => none
      | some p => some (ps ++ [p])
theorem fitS_len {l : List Ai} {sizes : List Int} {align limit : Nat} : ∀ k ps, fitS l sizes align limit k = some ps → ps.length = k
  | 0, ps, h => by cases h; rfl
  | k + 1, ps, h => by
    unfold fitS at h
    cases h1 : fitS l sizes align limit k with
    | none => rw [h1] at h; cases h
    | some qs =>
      rw [h1] at h
      dsimp only at h
      cases h2 : firstF (tkn (l ++ spF sizes qs)) (sizes.getD k 0).toNat align limit with
      | none => rw [h2] at h; cases h
      | some p => rw [h2] at h; cases h; rw [List.length_append, fitS_len k qs h1]; rfl
theorem fitS_next {l : List Ai} {sizes : List Int} {align limit k : Nat} {ps : List Nat} (h : fitS l sizes align limit k = some ps) :
    fitS l sizes align limit (k + 1) = match firstF (tkn (l ++ spF sizes ps)) (sizes.getD k 0).toNat align limit with | none => none | some p => some (ps ++ [p]) := by
  show (match fitS l sizes align limit k with | none => none | some ps => _) = _
  rw [h]
theorem fitS_none {l : List Ai} {sizes : List Int} {align limit k : Nat} (h : fitS l sizes align limit k = none) : ∀ m, k ≤ m → fitS l sizes align limit m = none := by
  intro m hm
  obtain ⟨d, rfl⟩ : ∃ d, m = k + d := ⟨m - k, by omega⟩
  clear hm
  induction d with
  | zero => exact h
  | succ d ih => show (match fitS l sizes align limit (k + d) with | none => none | some ps => _) = _; rw [ih]
theorem tkn_snoc (l : List Ai) (p k : Nat) (q : Nat) : tkn (l ++ [((p : Int), (p : Int) + (k : Int))]) q = orSpan (tkn l) p k q := by
  unfold tkn orSpan
  rw [inB_snoc]
  congr 1
  congr 1
  · rw [Bool.eq_iff_iff, decide_eq_true_iff, decide_eq_true_iff]; omega
  · rw [Bool.eq_iff_iff, decide_eq_true_iff, decide_eq_true_iff]; dsimp only; omega
end Go.Proofs.Ytpnpbnfjhnmhjaa
