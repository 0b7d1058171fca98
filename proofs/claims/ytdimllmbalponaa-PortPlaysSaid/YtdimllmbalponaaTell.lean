/-
  A queuing port that receives: leave of an empty box, leaveOrTell.
-/
import Derived.Test.YtdimllmbalponaaLose
namespace Go.Proofs.Ytdimllmbalponaa
open Go.RowKit Go.Shelf
set_option linter.unusedVariables false

set_option maxRecDepth 100000 in
set_option maxHeartbeats 1000000 in
theorem leave_none {base b : Nat} {P : Prm} {h : Value} {lost : Bool} {w : World} (x : BoxW w base b P h [] lost) (z' : Int) :
    Calls Try.prog 29 #[.pointer (some ⟨b, 0, none⟩), .int .i64 z'] w fun e w' => e = .returned (.tuple #[.slice none 0 0, .int .i64 42]) ∧ Below w.heap.size w w' := by
  obtain ⟨A, cap, rfl⟩ := x.empty
  have hl := first_none b cap A z' w (x.cell 13 _ rfl)
  go_enter Try.func29, Try.ntmps29
  go_wp2_with fail
  refine hl.mono ?_
  rintro e w2 ⟨rfl, h1⟩
  have H1 := hide h1
  clear h1 hl x
  go_wp2
  go_ret2
  exact ⟨rfl, H1.out⟩

set_option maxRecDepth 100000 in
set_option maxHeartbeats 1000000 in
/-- one was lost: that is told -/
theorem tell_lost {base b : Nat} {P : Prm} {h : Value} {ms : List Msg} {w : World} (x : BoxW w base b P h ms true) (z' : Int) :
    Calls Try.prog 31 #[.pointer (some ⟨b, 0, none⟩), .int .i64 z'] w fun e w' => e = .returned (.tuple #[.slice none 0 0, .int .i64 44]) ∧ BoxW w' base b P h ms false ∧ Keep base b h w w' := by
  have c14 := x.cell 14 _ rfl
  have f14 := x.free 14
  have hbase : base ≤ w.heap.size := by have := x.lt; have := x.lo; omega
  have H1 := hide (x.setLost false); have K1 := hide ((Keep.refl (b := b) (h := h) hbase).setLost x.lo (.bool false))
  clear x
  go_enter Try.func31, Try.ntmps31
  go_wp2
  go_ret2
  exact ⟨rfl, H1.out, K1.out⟩

set_option maxRecDepth 100000 in
set_option maxHeartbeats 1000000 in
theorem tell_none {base b : Nat} {P : Prm} {h : Value} {w : World} (x : BoxW w base b P h [] false) (z' : Int) :
    Calls Try.prog 31 #[.pointer (some ⟨b, 0, none⟩), .int .i64 z'] w fun e w' => e = .returned (.tuple #[.slice none 0 0, .int .i64 42]) ∧ Below w.heap.size w w' := by
  have c14 := x.cell 14 _ rfl
  have hl := leave_none x z'
  clear x
  go_enter Try.func31, Try.ntmps31
  go_wp2_with fail
  refine hl.mono ?_
  rintro e w2 ⟨rfl, h1⟩
  have H1 := hide h1
  clear h1 hl
  go_wp2
  go_ret2
  exact ⟨rfl, H1.out⟩

set_option maxRecDepth 100000 in
set_option maxHeartbeats 1000000 in
theorem tell_some {base b : Nat} {P : Prm} {h : Value} {m : Msg} {ms : List Msg} {w : World} (x : BoxW w base b P h (m :: ms) false) (z' : Int) (hm : m.txt.length ≤ 1000000) :
    Calls Try.prog 31 #[.pointer (some ⟨b, 0, none⟩), .int .i64 z'] w fun e w' => ∃ g' c' h', e = .returned (.tuple #[.slice (some ⟨g', 0, none⟩) m.txt.length c', .int .i64 0]) ∧ OwnS w' w.heap.size g' m.txt.length c' m.txt ∧ BoxW w' base b P h' ms false ∧ KeepH base b h h' w w' := by
  have c14 := x.cell 14 _ rfl
  have hl := leave_at x z' hm
  clear x
  go_enter Try.func31, Try.ntmps31
  go_wp2_with fail
  refine hl.mono ?_
  rintro e w2 ⟨g', c', h', rfl, h1⟩
  have H1 := hide h1
  clear h1 hl
  go_wp2
  go_ret2
  exact ⟨g', c', h', rfl, H1.out⟩
end Go.Proofs.Ytdimllmbalponaa
