/-
  LexReads: a text's tokens, or where none begins, are the document's.
-/
import Derived.Test.YtdlmgofbibmldaaDoorLxH
import Derived.Test.YtdlmgofbibmldaaDoorLxI
import Derived.Test.YtdlmgofbibmldaaDoorLxK
namespace Go.Proofs.YtdlmgofbibmldaaDoor
open Go.RowKit Go.Shelf
attribute [local go_sem] Oper.semAt_some
set_option linter.unusedVariables false
set_option linter.unusedSimpArgs false
set_option maxRecDepth 100000

set_option maxHeartbeats 2000000 in
theorem reads_walk (s : ByteArray) (w : World) (hE : Env w) : Calls Tryd.prog 3 #[.string s] w fun e w' => e = .returned (.bool true) ∧ Below w.heap.size w w' := by
  by_cases hs : s.size ≤ 3000
  · have hss : ((s.size : Nat) : Int) ≤ 3000 := by omega
    have HT := hide (toks_at s (by omega) (by have := yl_len s; omega) w hE)
    have hLc := (lexL_len _ (byt s) 1 1 false (Nat.le_refl _) (Nat.le_refl _)).1
    rw [byt_len] at hLc
    have HU := hide (fun (W : World) => rtoks_at s (by omega) (by omega) W)
    unfold TokR at HT HU
    have HOl := hide (show (outF (lexL (byt s) 1 1 false)).1.length ≤ 3000 from by
      unfold outF
      cases (lexL (byt s) 1 1 false).2 with
      | none => exact Nat.le_trans hLc hs
      | some p => exact Nat.zero_le _)
    clear hE hLc
    generalize outF (lexL (byt s) 1 1 false) = R at *
    obtain ⟨L, ln, cl, er⟩ := R
    dsimp only at HT HU HOl
    obtain ⟨N, hN⟩ : ∃ N, N = (L.map toV).length := ⟨_, rfl⟩
    have HN := hide hN
    clear hN
    go_enter Tryd.func3, Tryd.ntmps3
    go_wp2_with fail
    refine HT.out.mono ?_
    rintro e w1 ⟨v, rfl, hO, hb1⟩
    obtain ⟨A, c, rfl, hT1⟩ := own_tvs hO
    rw [← HN.out]
    have HT1 := hide hT1
    have HB1 := hide hb1
    clear hO hT1 hb1 HT
    go_wp2_with fail
    refine (HU.out w1).mono ?_
    rintro e w2 ⟨v, rfl, hO, hb2⟩
    obtain ⟨A2, c2, rfl, hT2⟩ := own_tvs hO
    rw [← HN.out]
    have HS := hide (same_at (L.map toV) (L.map toV) A A2 c c2 true w2 (HT1.out.below hb2 (Nat.le_refl _)) hT2 (by rw [List.length_map]; have := HOl.out; omega) (by rw [List.length_map]; have := HOl.out; omega))
    rw [sameF_self, ← HN.out] at HS
    have HB2 := hide (HB1.out.trans (hb2.mono HB1.out.size))
    clear hO hT2 hb2 HU HT1 HB1
    go_wp2_with fail
    refine HS.out.mono ?_
    rintro e w3 ⟨rfl, hb3⟩
    have HB3 := hide (HB2.out.trans (hb3.mono HB2.out.size))
    clear hb3
    go_wp2_with fail
    go_ret
    exact ⟨rfl, HB3.out⟩
  · have hss : ¬ ((s.size : Nat) : Int) ≤ 3000 := by omega
    clear hs hE
    go_enter Tryd.func3, Tryd.ntmps3
    go_wp2_with fail
    go_ret
    exact ⟨rfl, Below.refl _ _⟩
end Go.Proofs.YtdlmgofbibmldaaDoor
