/-
  The walk of PortRefuses.
-/
import Derived.Test.YtdimllmbalponaaArgs
namespace Go.Proofs.Ytdimllmbalponaa
open Go.RowKit Go.Shelf Go.ChangeShapes
set_option linter.unusedVariables false

theorem putF_code (P : Prm) (S : St) (x : List Nat × Int) : (putF P S x).1 = 0 ∨ (putF P S x).1 = 41 := by
  unfold putF
  split
  · exact .inl rfl
  · split
    · exact .inr rfl
    · exact .inl rfl
theorem getF_code (P : Prm) (S : St) (z : Int) : (getF P S z).1.2 = 0 ∨ (getF P S z).1.2 = 42 ∨ (getF P S z).1.2 = 43 ∨ (getF P S z).1.2 = 44 := by
  unfold getF
  split
  · simp
  · split
    · simp
    · split <;> simp
/-- what is refused changes nothing -/
theorem refused_same (P : Prm) (S : St) (k : Int) (l : List Nat) (z : Int) (hk : k = 0 ∨ k = 2 ∨ k = 3) (hf : (askF P S k l z).1.2 = 40 ∨ (askF P S k l z).1.2 = 45 ∨ (askF P S k l z).1.2 = 2) : (askF P S k l z).2 = S := by
  rcases hk with rfl | rfl | rfl
  · have he : askF P S 0 l z = (([], (sendF P S l).1), (sendF P S l).2) := rfl
    rw [he] at hf ⊢
    simp only at hf ⊢
    unfold sendF at hf ⊢
    split
    · rfl
    · rename_i h1
      rw [if_neg h1] at hf
      split
      · rfl
      · rename_i h2
        rw [if_neg h2] at hf
        have := putF_code P S (l, 0); omega
  · have he : askF P S 2 l z = (([], (arriveF P S l z).1), (arriveF P S l z).2) := rfl
    rw [he] at hf ⊢
    simp only at hf ⊢
    unfold arriveF at hf ⊢
    split
    · rfl
    · rename_i h1
      rw [if_neg h1] at hf
      split
      · rfl
      · rename_i h2
        rw [if_neg h2] at hf
        split
        · rfl
        · rename_i h3
          rw [if_neg h3] at hf
          have := putF_code P S (l, z); omega
  · have he : askF P S 3 l z = recvF P S z := rfl
    rw [he] at hf ⊢
    unfold recvF at hf ⊢
    split
    · rfl
    · rename_i h1
      rw [if_neg h1] at hf
      split
      · rfl
      · rename_i h2
        rw [if_neg h2] at hf
        have := getF_code P S z; omega
/-- a copy beside its box -/
theorem pair_of {W W' : World} {base b b2 : Nat} {P : Prm} {h h2 : Value} {ms ms2 : List Msg} {S : St} (x : BoxS W base b P h ms S) (hb : Below W.heap.size W W') (y : BoxW W' W.heap.size b2 P h2 ms2 S.2) (ht : ms2.map Msg.tell = ms.map Msg.tell) :
    Pair W' base b b2 P h h2 ms ms2 S S := by
  have hbl := x.box.lt; have hbo := x.box.lo
  have hlen : ms2.length = ms.length := by have := congrArg List.length ht; simpa using this
  have hmem : ∀ m ∈ ms2, ∃ m' ∈ ms, m'.txt = m.txt ∧ m'.slot = m.slot := by
    intro m hm
    have h1 : m.tell ∈ ms.map Msg.tell := ht ▸ List.mem_map_of_mem hm
    obtain ⟨m', hm', h2⟩ := List.mem_map.1 h1
    simp only [Msg.tell, Prod.mk.injEq] at h2
    exact ⟨m', hm', h2.1, h2.2⟩
  refine ⟨x.later hb, ⟨y.from (by omega), ht.trans x.is, fun m hm => ?_, fun m hm => ?_, by rw [hlen]; exact x.few, fun hk => by rw [hlen]; exact x.one hk⟩, by have := y.lo; omega, fun k hk e => ?_⟩
  · obtain ⟨m', hm', h1, h3⟩ := hmem m hm
    rw [← h1]; exact x.size m' hm'
  · obtain ⟨m', hm', h1, h3⟩ := hmem m hm
    rw [← h3]; exact x.slot m' hm'
  · have h1 := (x.box.own_lt hk).1
    have h3 := (y.own_lt e).2.1
    omega
theorem BoxS.copies {W : World} {base b : Nat} {P : Prm} {h : Value} {ms : List Msg} {S : St} (x : BoxS W base b P h ms S) (ok : Okay P) :
    Calls Try.prog 23 #[.pointer (some ⟨b, 0, none⟩)] W fun e W' => (∃ (b2 : Nat) (h2 : Value) (ms2 : List Msg), e = .returned (.pointer (some ⟨b2, 0, none⟩)) ∧ Pair W' base b b2 P h h2 ms ms2 S S) ∧ Below W.heap.size W W' := by
  have h1 : P.p.oneCell' = true ∧ P.g.oneCell' = true := by
    rcases ok.is with ⟨_, _, hp, hg⟩ | ⟨_, _, hp, hg, _⟩ | ⟨_, _, hp, hg, _⟩ | ⟨_, _, hp, hg, _⟩ <;> rw [hp, hg] <;> exact ⟨rfl, rfl⟩
  have h2 := ok.s2
  refine (copy_at x.box h1.1 h1.2 (fun m hm => by have := x.size m hm; omega) (by have := x.few; omega)).mono ?_
  rintro e W' ⟨⟨b2, h', ms', rfl, y, ht⟩, hb⟩
  exact ⟨⟨b2, h', ms', rfl, pair_of x hb y ht⟩, hb⟩
theorem I64.le {z : Int} (h : I64 z) : z ≤ 9223372036854775807 := h.2

end Go.Proofs.Ytdimllmbalponaa
