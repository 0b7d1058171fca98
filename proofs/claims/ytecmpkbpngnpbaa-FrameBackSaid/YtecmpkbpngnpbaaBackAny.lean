/-
  FrameBack, of any frame, owner and state.
-/
import Derived.Test.YtecmpkbpngnpbaaBack
import Derived.Test.YtecmpkbpngnpbaaBackTf
import Derived.Test.YtecmpkbpngnpbaaBackFt
import Derived.Test.YtecmpkbpngnpbaaBackFf
namespace Go.Proofs.Ytecmpkbpngnpbaa
open Go.RowKit
set_option linter.unusedVariables false

theorem back_any (o0 s0 m : Int) (p : List Nat) (q z y : Int) (w : World) (hp : p.length = 64) (hpl : ∀ c ∈ p, c < 256) (hm : (Lit.int .u16 m).wf = true) (hz : (Lit.int .i64 z).wf = true) (hy : (Lit.int .u16 y).wf = true) :
    Calls Try.prog 7 #[.agg (frv o0 s0 m p), .int .i64 q, .agg #[.int .i64 z, .int .u16 y]] w fun e w' => e = .returned (.bool true) ∧ Below w.heap.size w w' := by
  have hBF := back_facts (ro o0) (rs s0) m p hp hpl (ro_lt o0) (rs_lo s0) (rs_hi s0) hm
  by_cases hq : ((ro o0 : Nat) : Int) = q
  · by_cases hx : z = rs s0 ∧ y = m
    · exact back_same o0 s0 (ro o0) (rs s0) m p _ q z y w hp hpl (ro_lt o0) (rs_lo s0) (rs_hi s0) hm hz hy rfl rfl rfl hBF hq hx.1.symm hx.2.symm
    · exact back_tf o0 s0 (ro o0) (rs s0) m p _ q z y w hp hpl (ro_lt o0) (rs_lo s0) (rs_hi s0) hm hz hy rfl rfl rfl hBF hq hx
  · by_cases hx : z = rs s0 ∧ y = m
    · exact back_ft o0 s0 (ro o0) (rs s0) m p _ q z y w hp hpl (ro_lt o0) (rs_lo s0) (rs_hi s0) hm hz hy rfl rfl rfl hBF hq hx.1.symm hx.2.symm
    · exact back_ff o0 s0 (ro o0) (rs s0) m p _ q z y w hp hpl (ro_lt o0) (rs_lo s0) (rs_hi s0) hm hz hy rfl rfl rfl hBF hq hx
end Go.Proofs.Ytecmpkbpngnpbaa
