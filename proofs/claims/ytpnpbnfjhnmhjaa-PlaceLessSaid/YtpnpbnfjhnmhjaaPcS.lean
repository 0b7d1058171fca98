/-
  The walks of three statements: what is free, the greatest, where less is taken.
-/
import Derived.Test.YtpnpbnfjhnmhjaaPcR
namespace Go.Proofs.Ytpnpbnfjhnmhjaa
open Go.RowKit Go.Shelf
attribute [local go_sem] Oper.semAt_some
set_option linter.unusedVariables false
set_option linter.unusedSimpArgs false
set_option maxRecDepth 100000

theorem dec_nat (a b : Nat) : decide ((a : Int) < (b : Int)) = decide (a < b) := by
  rw [Bool.eq_iff_iff, decide_eq_true_iff, decide_eq_true_iff]; omega
set_option maxHeartbeats 4000000 in
theorem most_walk (l : List Ai) (A : Option Addr) (c : Nat) (size limit : Int) (w : World) (hI : Sps w A l) (hs : I64 size) (hlm : I64 limit) :
    Calls Try.prog 7 #[.slice A l.length c, .int .i64 size, .int .i64 limit] w fun e w' => e = .returned (.bool true) ∧ Below w.heap.size w w' := by
  have HAl := hide (alive_at w)
  by_cases h50 : 50 < l.length
  · obtain ⟨N, hN⟩ : ∃ N, N = l.length := ⟨_, rfl⟩
    rw [← hN] at h50 ⊢
    clear hI hN
    have d1 : decide (50 < (N : Int)) = true := decide_eq_true (by omega)
    go_enter Try.func7, Try.ntmps7
    go_wp2_with fail
    refine HAl.out.mono ?_
    rintro e w1 ⟨rfl, hb⟩
    have HB := hide hb
    clear hb
    go_wp2_with fail
    go_ret
    exact ⟨rfl, HB.out⟩
  · by_cases hr : 0 ≤ size ∧ size ≤ 1048576 ∧ 0 ≤ limit ∧ limit ≤ 1048576
    · obtain ⟨h1, h2, h3, h4⟩ := hr
      have hf := fun W (h : Sps W A l) => First_at l A c size 1 limit W h (by omega)
      have hm := fun W (h : Sps W A l) => Most_at l A c limit W h (by omega)
      have hmv : mostV l limit = (wide (freeTo (tkn l) limit.toNat) : Nat) := if_pos (by unfold sizeB; exact decide_eq_true ⟨h3, h4⟩)
      have hmay : mayB size 1 limit = true := by unfold mayB; exact decide_eq_true ⟨h1, h2, by omega, by omega, h3, h4⟩
      have hkey := most_iff (t := tkn l) (z := size.toNat) (L := limit.toNat)
      rw [hmv] at hm
      have HI := hide hI
      have HIb := hide (fun W (h : Below w.heap.size w W) => hI.of_below h (Nat.le_refl _))
      have d1 : decide (50 < (l.length : Int)) = false := decide_eq_false (by omega)
      have HF := hide hf
      have HM := hide hm
      rcases firstV_two l size 1 limit with ⟨p, e1, _, e2⟩ | ⟨e1, e2⟩
      · rw [show ((1 : Int).toNat) = 1 from rfl] at e2
        rw [e2] at hkey
        have hle := hkey.1 rfl
        have hd : (true == decide (size ≤ ((wide (freeTo (tkn l) limit.toNat) : Nat) : Int))) = true := by rw [decide_eq_true (by omega)]; rfl
        rw [e1] at HF
        generalize wide (freeTo (tkn l) limit.toNat) = ww at *
        generalize l.length = N at *
        clear hI hf hm hmv hmay hkey e1 e2 hle
        go_enter Try.func7, Try.ntmps7
        go_wp2_with fail
        refine HAl.out.mono ?_
        rintro e w1 ⟨rfl, hb⟩
        have HB := hide hb
        clear hb
        go_wp2_with fail
        refine (HF.out w1 (HIb.out w1 HB.out)).mono ?_
        rintro e w2 ⟨rfl, hb⟩
        have HB2 := hide (HB.out.trans (hb.mono HB.out.size))
        clear hb
        go_wp2_with fail
        refine (HM.out w2 (HIb.out w2 HB2.out)).mono ?_
        rintro e w3 ⟨rfl, hb⟩
        have HB3 := hide (HB2.out.trans (hb.mono HB2.out.size))
        clear hb
        go_wp2_with fail
        go_ret
        exact ⟨by first | rfl | simp_all, HB3.out⟩
      · have e3 := e2 hmay
        rw [show ((1 : Int).toNat) = 1 from rfl] at e3
        rw [e3] at hkey
        have hle : ¬ size.toNat ≤ wide (freeTo (tkn l) limit.toNat) := fun h => by have := hkey.2 h; cases this
        have hd : (false == decide (size ≤ ((wide (freeTo (tkn l) limit.toNat) : Nat) : Int))) = true := by rw [decide_eq_false (by omega)]; rfl
        rw [e1] at HF
        generalize wide (freeTo (tkn l) limit.toNat) = ww at *
        generalize l.length = N at *
        clear hI hf hm hmv hmay hkey e1 e2 e3 hle
        go_enter Try.func7, Try.ntmps7
        go_wp2_with fail
        refine HAl.out.mono ?_
        rintro e w1 ⟨rfl, hb⟩
        have HB := hide hb
        clear hb
        go_wp2_with fail
        refine (HF.out w1 (HIb.out w1 HB.out)).mono ?_
        rintro e w2 ⟨rfl, hb⟩
        have HB2 := hide (HB.out.trans (hb.mono HB.out.size))
        clear hb
        go_wp2_with fail
        refine (HM.out w2 (HIb.out w2 HB2.out)).mono ?_
        rintro e w3 ⟨rfl, hb⟩
        have HB3 := hide (HB2.out.trans (hb.mono HB2.out.size))
        clear hb
        go_wp2_with fail
        go_ret
        exact ⟨by first | rfl | simp_all, HB3.out⟩
    · have d1 : decide (50 < (l.length : Int)) = false := decide_eq_false (by omega)
      generalize l.length = N at *
      clear hI
      by_cases h1 : size < 0
      · go_enter Try.func7, Try.ntmps7
        go_wp2_with fail
        refine HAl.out.mono ?_
        rintro e w1 ⟨rfl, hb⟩
        have HB := hide hb
        clear hb
        go_wp2_with fail
        go_ret
        exact ⟨rfl, HB.out⟩
      · have d2 : decide (size < 0) = false := decide_eq_false h1
        by_cases h2 : 1048576 < size
        · go_enter Try.func7, Try.ntmps7
          go_wp2_with fail
          refine HAl.out.mono ?_
          rintro e w1 ⟨rfl, hb⟩
          have HB := hide hb
          clear hb
          go_wp2_with fail
          go_ret
          exact ⟨rfl, HB.out⟩
        · have d3 : decide (1048576 < size) = false := decide_eq_false h2
          by_cases h3 : limit < 0
          · go_enter Try.func7, Try.ntmps7
            go_wp2_with fail
            refine HAl.out.mono ?_
            rintro e w1 ⟨rfl, hb⟩
            have HB := hide hb
            clear hb
            go_wp2_with fail
            go_ret
            exact ⟨rfl, HB.out⟩
          · have d4 : decide (limit < 0) = false := decide_eq_false h3
            have d5 : decide (1048576 < limit) = true := decide_eq_true (by omega)
            go_enter Try.func7, Try.ntmps7
            go_wp2_with fail
            refine HAl.out.mono ?_
            rintro e w1 ⟨rfl, hb⟩
            have HB := hide hb
            clear hb
            go_wp2_with fail
            go_ret
            exact ⟨rfl, HB.out⟩
end Go.Proofs.Ytpnpbnfjhnmhjaa
