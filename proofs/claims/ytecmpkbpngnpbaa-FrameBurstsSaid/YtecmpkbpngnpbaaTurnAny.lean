/-
  FrameBursts, of any frame, place and bits.
-/
import Derived.Test.YtecmpkbpngnpbaaTurnSame
import Derived.Test.YtecmpkbpngnpbaaTurnNe
namespace Go.Proofs.Ytecmpkbpngnpbaa
open Go.RowKit
set_option linter.unusedVariables false

theorem bursts3_any (o0 s0 m : Int) (p : List Nat) (z : Int) (mask : Nat) (w : World) (hp : p.length = 64) (hpl : ∀ c ∈ p, c < 256) (hm : (Lit.int .u16 m).wf = true) (hz : (Lit.int .i64 z).wf = true) (hmask : mask < 4294967296) :
    Calls Try.prog 8 #[.agg (frv o0 s0 m p), .int .i64 z, .int .u32 mask] w fun e w' => e = .returned (.bool true) ∧ Below w.heap.size w w' := by
  have hBF := back_facts (ro o0) (rs s0) m p hp hpl (ro_lt o0) (rs_lo s0) (rs_hi s0) hm
  by_cases hC : corr (enc (ro o0 : Nat) (rs s0) m p) z mask = enc (ro o0 : Nat) (rs s0) m p
  · exact bursts_same o0 s0 (ro o0) (rs s0) m p _ z mask w hp hpl (ro_lt o0) (rs_lo s0) (rs_hi s0) hm hz hmask rfl rfl rfl hBF hC
  · exact bursts_ne o0 s0 (ro o0) (rs s0) m p _ z mask w hp hpl (ro_lt o0) (rs_lo s0) (rs_hi s0) hm hz hmask rfl rfl rfl hBF hC
end Go.Proofs.Ytecmpkbpngnpbaa
