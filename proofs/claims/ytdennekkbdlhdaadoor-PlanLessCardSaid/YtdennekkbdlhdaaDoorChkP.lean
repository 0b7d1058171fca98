/-
  Check, whole.
-/
import Derived.Test.YtdennekkbdlhdaaDoorChkO
namespace Go.Proofs.YtdennekkbdlhdaaDoor
open Go.RowKit Go.Deep
set_option linter.unusedVariables false

noncomputable def checkF (c : Conf) : Int := checkW c (LinksK c)
theorem check_any (c : Conf) (d : Ad) (w : World) (hg : Glo w) (h : ConfAt w c d) :
    Calls Tryd.prog 10 #[c.val d] w fun e w' => e = .returned (.int .i64 (checkF c)) ∧ Below w.heap.size w w' := by
  refine check_with c d w hg h (LinksK c) fun hN hP hO W hG hC => ?_
  obtain ⟨n1, n2, _⟩ := hN
  obtain ⟨n, hn⟩ := Int.eq_ofNat_of_zero_le (show 0 ≤ c.nodes by omega)
  refine (links_any c d W hG hC n hn (by omega) hP hO).mono ?_
  rintro e w' ⟨v, rfl, hv, hb⟩
  refine ⟨?_, hb⟩
  have : v = decide (LinksK c) := by rw [Bool.eq_iff_iff, hv, decide_eq_true_eq]
  rw [this]
end Go.Proofs.YtdennekkbdlhdaaDoor
