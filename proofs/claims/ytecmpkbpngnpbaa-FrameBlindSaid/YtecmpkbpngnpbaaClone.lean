/-
  A copy of bytes, by the library's Clone: whatever they are (nil, empty or not).
-/
import Derived.Test.YtecmpkbpngnpbaaRight
import Derived.Test.YtecmpkbpngnpbaaCopy
namespace Go.Proofs.Ytecmpkbpngnpbaa
open Go.RowKit
set_option linter.unusedVariables false

/-- bytes of the call's own: none at all, or a block from base on -/
def Mine (base : Nat) (W : World) (A : Option Addr) (n : Nat) (f : Nat → Nat) : Prop := n = 0 ∨ ∃ g, A = some ⟨g, 0, none⟩ ∧ base ≤ g ∧ Row W g n f

set_option maxHeartbeats 1000000 in
theorem clone_nil (w : World) : Calls Try.prog 31 #[.slice none 0 0] w fun e w' => e = .returned (.slice none 0 0) ∧ w = w' := by
  have hn := Lib.run_eql_slice_nil (P := Try.prog)
  go_enter Try.func31, Try.ntmps31
  go_wp2
  go_ret
  exact ⟨rfl, rfl⟩

set_option maxHeartbeats 1000000 in
theorem clone_some (b : List Nat) (n : Nat) (ad : Addr) (cap : Nat) (w : World) (hn : b.length = n) (hm : n ≤ 1000000) (hB : Bytes w (some ad) b) :
    Calls Try.prog 31 #[.slice (some ad) n cap] w fun e w' => ∃ A c, e = .returned (.slice A n c) ∧ n ≤ c ∧ c ≤ maxLen ∧ Mine w.heap.size w' A n (fun t => b.getD t 0) ∧ Below w.heap.size w w' := by
  have hnil := Lib.run_eql_slice_nil (P := Try.prog)
  have Hn := hide hn
  have hl := (hB.of_below (bal w (.cells #[] 5)) (Nat.le_refl _))
  have HL := hide hl
  clear hn hB hl
  go_enter Try.func31, Try.ntmps31
  go_wp2_with (refine wpList_copy _ rfl (.tmp 5) (.tmp 6) rfl w.heap.size rfl (heap_alloc_new w _) (some ad) n cap b rfl HL.out Hn.out hm ?_; intro g c w1 hnc hcm hg hR hb1)
  go_ret
  exact ⟨_, _, rfl, hnc, hcm, .inr ⟨g, rfl, hg, hR⟩, (bal w _).trans (hb1.mono (Nat.le_refl _))⟩
end Go.Proofs.Ytecmpkbpngnpbaa
