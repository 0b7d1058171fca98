/-
  Take and Recv of any box: what is left are messages that were there.
-/
import Derived.Test.YtdimllmbalponaaRefRecv
import Derived.Test.YtdimllmbalponaaCopies
namespace Go.Proofs.Ytdimllmbalponaa
open Go.RowKit Go.Shelf
set_option linter.unusedVariables false

/-- how a box came to be another one, all of whose messages were there -/
structure WentB (W W' : World) (base b : Nat) (P : Prm) (h : Value) (ms : List Msg) (S : St) : Prop where
  is : ∃ h' ms', BoxS W' base b P h' ms' S ∧ KeepH base b h h' W W' ∧ ∀ m ∈ ms', m ∈ ms ∨ False
theorem WentB.stay {W W' : World} {base b : Nat} {P : Prm} {h : Value} {ms : List Msg} {S : St} (x : BoxS W base b P h ms S) (hb : Below W.heap.size W W') : WentB W W' base b P h ms S :=
  ⟨h, ms, x.later hb, Keep.same ⟨hb.mono (by have := x.box.lt; have := x.box.lo; omega), fun k hk _ _ => hb.block k hk, hb.size⟩, fun m hm => .inl hm⟩
section
variable {base b : Nat} {P : Prm} {h : Value} {ms : List Msg} {S : St} {w : World}
set_option maxRecDepth 100000 in
set_option maxHeartbeats 1000000 in
theorem take_sub (x : BoxS w base b P h ms S) (ok : Okay P) :
    Calls Try.prog 16 #[.pointer (some ⟨b, 0, none⟩)] w fun e w' => ∃ v, e = .returned (.tuple #[v, .bool (takeF P S).1.2]) ∧ Got w w' v (takeF P S).1.1 ∧ WentB w w' base b P h ms (takeF P S).2 := by
  have c0 := x.box.cell 0 _ rfl
  have c3 : w.cell? ⟨b, 3, none⟩ = some (.int .i64 P.d) := x.box.cell 3 _ rfl
  have hmade := isMade_at b w c0
  have s1 := ok.s1; have s2 := ok.s2
  by_cases hd : P.d = 1
  · have hF : takeF P S = (((getF P S 0).1.1, decide ((getF P S 0).1.2 = 0)), (getF P S 0).2) := by simp only [takeF]; rw [if_neg (by simpa using hd)]
    have hG : getF P S 0 = match S.1 with | [] => (([], 42), S) | x :: r => ((x.1, 0), if P.k = 2 then r else x :: r, S.2) := by
      simp only [getF]
      rw [if_neg (by omega)]
      rcases S.1 with _ | ⟨y, r⟩
      · rfl
      · simp only []; rw [if_neg (by omega)]
    rw [hF, hG]
    have his := x.is
    rcases S with ⟨L, lost⟩
    simp only at his ⊢
    rcases ms with _ | ⟨m, ms⟩
    · simp only [List.map_nil] at his
      subst his
      rcases ok.is with ⟨hk, _, _, hg⟩ | ⟨_, h2, _⟩ | ⟨hk, _, _, hg, _⟩ | ⟨_, h2, _⟩
      · refine (take_last_none x.box hd hg).mono ?_
        rintro e w' ⟨rfl, hb⟩
        exact ⟨_, rfl, .inl ⟨rfl, rfl⟩, WentB.stay x hb⟩
      · omega
      · refine (take_q0 x.box hd hg).mono ?_
        rintro e w' ⟨rfl, hb⟩
        exact ⟨_, rfl, .inl ⟨rfl, rfl⟩, WentB.stay x hb⟩
      · omega
    · simp only [List.map_cons] at his
      subst his
      have hml := x.size m (List.mem_cons_self ..)
      rcases ok.is with ⟨hk, _, _, hg⟩ | ⟨_, h2, _⟩ | ⟨hk, _, _, hg, _⟩ | ⟨_, h2, _⟩
      · have h1 := x.one hk
        obtain rfl : ms = [] := List.eq_nil_of_length_eq_zero (by simpa using h1)
        refine (take_last x.box hd hg (by omega)).mono ?_
        rintro e w' ⟨g', c', rfl, ho, hb⟩
        refine ⟨_, rfl, .inr ⟨g', c', rfl, ho⟩, ?_⟩
        simp only []
        rw [if_neg (by omega)]
        exact WentB.stay x hb
      · omega
      · refine (take_queue x.box hd hg (by omega)).mono ?_
        rintro e w' ⟨g', c', h', rfl, ho, bx, k⟩
        refine ⟨_, rfl, .inr ⟨g', c', rfl, ho⟩, ?_⟩
        simp only []
        rw [if_pos hk]
        exact ⟨h', ms, ⟨bx, rfl, fun m' hm' => x.size m' (List.mem_cons_of_mem _ hm'), fun m' hm' => x.slot m' (List.mem_cons_of_mem _ hm'), by have := x.few; simp at this; omega, fun h => by omega⟩, k, fun m' hm' => .inl (List.mem_cons_of_mem _ hm')⟩
      · omega
  · have hF : takeF P S = (([], false), S) := by simp only [takeF]; rw [if_pos hd]
    rw [hF]
    have HX := hide x
    clear x c0
    go_enter Try.func16, Try.ntmps16
    go_wp2_with fail
    refine hmade.mono ?_
    rintro e w' ⟨rfl, rfl⟩
    clear hmade
    go_wp2
    go_ret2
    exact ⟨_, rfl, .inl ⟨rfl, rfl⟩, WentB.stay HX.out (Below.refl _ _)⟩

set_option maxRecDepth 100000 in
set_option maxHeartbeats 1000000 in
theorem recv_sub (x : BoxS w base b P h ms S) (ok : Okay P) (z : Int) (hz : z ≤ 9223372036854775807) :
    Calls Try.prog 21 #[.pointer (some ⟨b, 0, none⟩), .int .i64 z] w fun e w' => ∃ v, e = .returned (.tuple #[v, .int .i64 (recvF P S z).1.2]) ∧ Got w w' v (recvF P S z).1.1 ∧ WentB w w' base b P h ms (recvF P S z).2 := by
  have c0 := x.box.cell 0 _ rfl
  have c3 : w.cell? ⟨b, 3, none⟩ = some (.int .i64 P.d) := x.box.cell 3 _ rfl
  have hmade := isMade_at b w c0
  have s1 := ok.s1; have s2 := ok.s2
  by_cases hd : P.d = 2
  · by_cases hz0 : z < 0
    · have hF : recvF P S z = (([], 2), S) := by simp only [recvF]; rw [if_neg (by simpa using hd), if_pos hz0]
      rw [hF]
      rw [hd] at c3
      have HX := hide x
      clear x c0
      go_enter Try.func21, Try.ntmps21
      go_wp2_with fail
      refine hmade.mono ?_
      rintro e w' ⟨rfl, rfl⟩
      clear hmade
      go_wp2
      go_ret2
      exact ⟨_, rfl, .inl ⟨rfl, rfl⟩, WentB.stay HX.out (Below.refl _ _)⟩
    · have hF : recvF P S z = getF P S z := by simp only [recvF]; rw [if_neg (by simpa using hd), if_neg hz0]
      rw [hF]
      have hz1 : 0 ≤ z := by omega
      have his := x.is
      rcases S with ⟨L, lost⟩
      simp only at his
      rcases ok.is with ⟨_, h2, _⟩ | ⟨hk, _, _, hg, hf1, hf2⟩ | ⟨_, h2, _⟩ | ⟨hk, _, _, hg, _⟩
      · omega
      · rcases ms with _ | ⟨m, ms⟩
        · simp only [List.map_nil] at his
          subst his
          rw [show getF P ([], lost) z = (([], 42), ([], lost)) by simp [getF, hk]]
          refine (recv_l0 x.box hd hg z hz1).mono ?_
          rintro e w' ⟨rfl, hb⟩
          exact ⟨_, rfl, .inl ⟨rfl, rfl⟩, WentB.stay x hb⟩
        · have h1 := x.one hk
          obtain rfl : ms = [] := List.eq_nil_of_length_eq_zero (by simpa using h1)
          simp only [List.map_cons, List.map_nil] at his
          subst his
          have hml := x.size m (List.mem_cons_self ..)
          have hsl := x.slot m (List.mem_cons_self ..)
          rw [show getF P ([m.tell], lost) z = if P.f ≤ z - m.slot then (([], 43), ([m.tell], lost)) else ((m.txt, 0), ([m.tell], lost)) by simp [getF, hk, hd, Msg.tell]]
          refine (recv_last x.box hd hg (by omega) z hz1 (by rw [IntKind.wrap_i64]; omega) _ rfl).mono ?_
          rintro e w' ⟨h1 | h1, hb⟩
          · obtain ⟨h1, rfl⟩ := h1
            have h2 : P.f ≤ z - m.slot := of_decide_eq_true h1
            rw [if_pos h2]
            exact ⟨_, rfl, .inl ⟨rfl, rfl⟩, WentB.stay x hb⟩
          · obtain ⟨h1, g', c', rfl, ho⟩ := h1
            have h2 : ¬ P.f ≤ z - m.slot := of_decide_eq_false h1
            rw [if_neg h2]
            exact ⟨_, rfl, .inr ⟨g', c', rfl, ho⟩, WentB.stay x hb⟩
      · omega
      · rcases lost with _ | _
        · rcases ms with _ | ⟨m, ms⟩
          · simp only [List.map_nil] at his
            subst his
            rw [show getF P ([], false) z = (([], 42), ([], false)) by simp [getF]]
            refine (recv_none x.box hd hg z hz1).mono ?_
            rintro e w' ⟨rfl, hb⟩
            exact ⟨_, rfl, .inl ⟨rfl, rfl⟩, WentB.stay x hb⟩
          · simp only [List.map_cons] at his
            subst his
            have hml := x.size m (List.mem_cons_self ..)
            rw [show getF P (m.tell :: ms.map Msg.tell, false) z = ((m.txt, 0), (ms.map Msg.tell, false)) by simp [getF, hk, Msg.tell]]
            refine (recv_queue x.box hd hg (by omega) z hz1).mono ?_
            rintro e w' ⟨g', c', h', rfl, ho, bx, k⟩
            exact ⟨_, rfl, .inr ⟨g', c', rfl, ho⟩, ⟨h', ms, ⟨bx, rfl, fun m' hm' => x.size m' (List.mem_cons_of_mem _ hm'), fun m' hm' => x.slot m' (List.mem_cons_of_mem _ hm'), by have := x.few; simp at this; omega, fun h => by omega⟩, k, fun m' hm' => .inl (List.mem_cons_of_mem _ hm')⟩⟩
        · rw [show getF P (L, true) z = (([], 44), (L, false)) by simp [getF, hk, hd]]
          refine (recv_lost x.box hd hg z hz1).mono ?_
          rintro e w' ⟨rfl, bx, k⟩
          exact ⟨_, rfl, .inl ⟨rfl, rfl⟩, ⟨h, ms, ⟨bx, his, x.size, x.slot, x.few, x.one⟩, k.same, fun m hm => .inl hm⟩⟩
  · have hF : recvF P S z = (([], 40), S) := by simp only [recvF]; rw [if_pos hd]
    rw [hF]
    have HX := hide x
    clear x c0
    go_enter Try.func21, Try.ntmps21
    go_wp2_with fail
    refine hmade.mono ?_
    rintro e w' ⟨rfl, rfl⟩
    clear hmade
    go_wp2
    go_ret2
    exact ⟨_, rfl, .inl ⟨rfl, rfl⟩, WentB.stay HX.out (Below.refl _ _)⟩
end
end Go.Proofs.Ytdimllmbalponaa
