/-
  The walks of two statements: what is free; where less is taken.
-/
import Derived.Test.YtpnpbnfjhnmhjaaPcS
namespace Go.Proofs.Ytpnpbnfjhnmhjaa
open Go.RowKit Go.Shelf
attribute [local go_sem] Oper.semAt_some
set_option linter.unusedVariables false
set_option linter.unusedSimpArgs false
set_option maxRecDepth 100000

theorem cut_of (stay : Int) (N : Nat) : ∃ n : Nat, n ≤ N ∧ (stay.tmod ((N : Int) + 1) + (N : Int) + 1).tmod ((N : Int) + 1) = (n : Int) := by
  have h1 := Int.tmod_lt_of_pos stay (show (0 : Int) < (N : Int) + 1 by omega)
  have h2 : -((N : Int) + 1) < stay.tmod ((N : Int) + 1) := by
    rcases Int.le_total 0 stay with h | h
    · have := Int.tmod_nonneg ((N : Int) + 1) h; omega
    · have h3 := Int.tmod_lt_of_pos (-stay) (show (0 : Int) < (N : Int) + 1 by omega)
      rw [Int.neg_tmod] at h3
      omega
  have h0 : 0 ≤ stay.tmod ((N : Int) + 1) + (N : Int) + 1 := by omega
  have h3 := Int.tmod_nonneg ((N : Int) + 1) h0
  have h4 := Int.tmod_lt_of_pos (stay.tmod ((N : Int) + 1) + (N : Int) + 1) (show (0 : Int) < (N : Int) + 1 by omega)
  exact ⟨((stay.tmod ((N : Int) + 1) + (N : Int) + 1).tmod ((N : Int) + 1)).toNat, by omega, by omega⟩
theorem rem_bound (stay : Int) (N : Nat) : -((N : Int) + 1) < stay.tmod ((N : Int) + 1) ∧ stay.tmod ((N : Int) + 1) < (N : Int) + 1 := by
  refine ⟨?_, Int.tmod_lt_of_pos stay (show (0 : Int) < (N : Int) + 1 by omega)⟩
  rcases Int.le_total 0 stay with h | h
  · have := Int.tmod_nonneg ((N : Int) + 1) h; omega
  · have h3 := Int.tmod_lt_of_pos (-stay) (show (0 : Int) < (N : Int) + 1 by omega)
    rw [Int.neg_tmod] at h3
    omega
set_option maxHeartbeats 8000000 in
theorem less_walk (l : List Ai) (A : Option Addr) (c : Nat) (stay size align limit : Int) (w : World) (hI : Sps w A l) (hc : l.length ≤ c) (hs : I64 stay) (hlm : I64 limit) :
    Calls Try.prog 8 #[.slice A l.length c, .int .i64 stay, .int .i64 size, .int .i64 align, .int .i64 limit] w fun e w' => e = .returned (.bool true) ∧ Below w.heap.size w w' := by
  have HAl := hide (alive_at w)
  have HG := hide (fun W => great_at A none l.length c 0 0 limit W)
  unfold I64 at hs hlm
  cases hg : decide (50 < l.length ∨ 50 < 0 ∨ (300 < limit ∧ limit ≤ 1048576)) with
  | true =>
    rw [hg] at HG
    generalize l.length = N at *
    clear hI hg
    go_enter Try.func8, Try.ntmps8
    go_wp2_with fail
    refine HAl.out.mono ?_
    rintro e w1 ⟨rfl, hb⟩
    have HB := hide hb
    clear hb
    go_wp2_with fail
    refine (HG.out w1).mono ?_
    rintro e w2 ⟨rfl, rfl⟩
    go_wp2_with fail
    go_ret
    exact ⟨rfl, HB.out⟩
  | false =>
    have hg' := of_decide_eq_false hg
    rw [hg] at HG
    by_cases h300 : 300 < limit
    · have d1 : decide (300 < limit) = true := decide_eq_true h300
      generalize l.length = N at *
      clear hI hg hg'
      go_enter Try.func8, Try.ntmps8
      go_wp2_with fail
      refine HAl.out.mono ?_
      rintro e w1 ⟨rfl, hb⟩
      have HB := hide hb
      clear hb
      go_wp2_with fail
      refine (HG.out w1).mono ?_
      rintro e w2 ⟨rfl, rfl⟩
      go_wp2_with fail
      go_ret
      exact ⟨rfl, HB.out⟩
    · have d1 : decide (300 < limit) = false := decide_eq_false h300
      have hl50 : l.length ≤ 50 := by omega
      obtain ⟨n, hn, he⟩ := cut_of stay l.length
      obtain ⟨r1, r2⟩ := rem_bound stay l.length
      have HF1 := hide (fun W (h : Sps W A l) => First_at l A c size align limit W h (by omega))
      have HF2 := hide (fun W (h : Sps W A l) => First_at (l.take n) A c size align limit W (h.take hn) (by rw [List.length_take]; omega))
      have HF3 := hide (fun W (h : Sps W A l) => First_at l A c size align (limit + 7) W h (by omega))
      rw [List.length_take, Nat.min_eq_left hn] at HF2
      have HIb := hide (fun W (h : Below w.heap.size w W) => hI.of_below h (Nat.le_refl _))
      have hw1 : ((l.length : Int) + 1 == 0) = false := beq_eq_false_iff_ne.2 (by omega)
      generalize hr0 : stay.tmod ((l.length : Int) + 1) = r0 at *
      rcases firstV_two l size align limit with ⟨p, e1, hm, e2⟩ | ⟨e1, _⟩
      · obtain ⟨q, hq, hqp⟩ := firstF_mono (t := tkn l) (u := tkn (l.take n)) (fun q h => inB_sub h) e2
        have e4 : firstV (l.take n) size align limit = .tuple #[.int .i64 (q : Nat), .bool true] := by unfold firstV; rw [if_pos hm, hq]
        obtain ⟨g1, g2, g3, g4, g5, g6⟩ := mayB_t hm
        have hm7 : mayB size align (limit + 7) = true := by unfold mayB; exact decide_eq_true ⟨g1, g2, g3, g4, by omega, by omega⟩
        have e5 : firstV l size align (limit + 7) = .tuple #[.int .i64 (p : Nat), .bool true] := by
          unfold firstV
          rw [if_pos hm7, show (limit + 7).toNat = limit.toNat + 7 by omega, firstF_higher e2]
        rw [e1] at HF1
        rw [e4] at HF2
        rw [e5] at HF3
        have dq : decide ((q : Int) ≤ (p : Int)) = true := decide_eq_true (by omega)
        generalize l.length = N at *
        clear hI hg hg' e1 e2 hm hq e4 e5 hm7
        go_enter Try.func8, Try.ntmps8
        go_wp2_with fail
        refine HAl.out.mono ?_
        rintro e w1 ⟨rfl, hb⟩
        have HB := hide hb
        clear hb
        go_wp2_with fail
        refine (HG.out w1).mono ?_
        rintro e w2 ⟨rfl, rfl⟩
        go_wp2_with fail
        refine (HF1.out w1 (HIb.out w1 HB.out)).mono ?_
        rintro e w2 ⟨rfl, hb⟩
        have HB2 := hide (HB.out.trans (hb.mono HB.out.size))
        clear hb
        go_wp2_with fail
        refine (HF2.out w2 (HIb.out w2 HB2.out)).mono ?_
        rintro e w3 ⟨rfl, hb⟩
        have HB3 := hide (HB2.out.trans (hb.mono HB2.out.size))
        clear hb
        go_wp2_with fail
        refine (HF3.out w3 (HIb.out w3 HB3.out)).mono ?_
        rintro e w4 ⟨rfl, hb⟩
        have HB4 := hide (HB3.out.trans (hb.mono HB3.out.size))
        clear hb
        go_wp2_with fail
        go_ret
        exact ⟨by first | rfl | simp_all, HB4.out⟩
      · obtain ⟨b2, b3, e4⟩ : ∃ b2 b3, firstV (l.take n) size align limit = .tuple #[.int .i64 b2, .bool b3] := by
          rcases firstV_two (l.take n) size align limit with ⟨p, e, _⟩ | ⟨e, _⟩
          · exact ⟨_, _, e⟩
          · exact ⟨_, _, e⟩
        obtain ⟨c2, c3, e5⟩ : ∃ c2 c3, firstV l size align (limit + 7) = .tuple #[.int .i64 c2, .bool c3] := by
          rcases firstV_two l size align (limit + 7) with ⟨p, e, _⟩ | ⟨e, _⟩
          · exact ⟨_, _, e⟩
          · exact ⟨_, _, e⟩
        rw [e1] at HF1
        rw [e4] at HF2
        rw [e5] at HF3
        generalize l.length = N at *
        clear hI hg hg' e1 e4 e5
        go_enter Try.func8, Try.ntmps8
        go_wp2_with fail
        refine HAl.out.mono ?_
        rintro e w1 ⟨rfl, hb⟩
        have HB := hide hb
        clear hb
        go_wp2_with fail
        refine (HG.out w1).mono ?_
        rintro e w2 ⟨rfl, rfl⟩
        go_wp2_with fail
        refine (HF1.out w1 (HIb.out w1 HB.out)).mono ?_
        rintro e w2 ⟨rfl, hb⟩
        have HB2 := hide (HB.out.trans (hb.mono HB.out.size))
        clear hb
        go_wp2_with fail
        refine (HF2.out w2 (HIb.out w2 HB2.out)).mono ?_
        rintro e w3 ⟨rfl, hb⟩
        have HB3 := hide (HB2.out.trans (hb.mono HB2.out.size))
        clear hb
        go_wp2_with fail
        refine (HF3.out w3 (HIb.out w3 HB3.out)).mono ?_
        rintro e w4 ⟨rfl, hb⟩
        have HB4 := hide (HB3.out.trans (hb.mono HB3.out.size))
        clear hb
        go_wp2_with fail
        go_ret
        exact ⟨by first | rfl | simp_all, HB4.out⟩
end Go.Proofs.Ytpnpbnfjhnmhjaa
