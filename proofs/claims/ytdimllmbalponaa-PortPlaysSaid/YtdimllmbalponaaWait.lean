/-
  A queuing port that receives: Arrive, Recv.
-/
import Derived.Test.YtdimllmbalponaaTell
namespace Go.Proofs.Ytdimllmbalponaa
open Go.RowKit Go.Shelf
set_option linter.unusedVariables false

set_option maxRecDepth 100000 in
set_option maxHeartbeats 1000000 in
/-- Arrive at a box that lets messages wait -/
theorem arrive_queue {base b : Nat} {P : Prm} {h : Value} {ms : List Msg} {lost : Bool} {w : World} (x : BoxW w base b P h ms lost) (hd : P.d = 2) (hp : P.p = .func (.func 30) #[] #[]) (l : List Nat) (n : Nat) (ad : Addr) (cap : Nat) (z : Int) (hz0 : 0 ≤ z) (hn : l.length = n) (hm : n ≤ 1000000) (hsz : (n : Int) = P.s) (hB : Bytes w (some ad) l) (hms : ms.length ≤ 1000) (he : 0 ≤ P.e ∧ P.e ≤ 1000) :
    Calls Try.prog 19 #[.pointer (some ⟨b, 0, none⟩), .slice (some ad) n cap, .int .i64 z] w fun e w' => ((ms.length : Int) < P.e ∧ e = .returned (.int .i64 0) ∧ ∃ h' m, m.txt = l ∧ m.slot = z ∧ w.heap.size ≤ m.blk ∧ BoxW w' base b P h' (ms ++ [m]) lost ∧ KeepH base b h h' w w') ∨ (P.e ≤ (ms.length : Int) ∧ e = .returned (.int .i64 41) ∧ BoxW w' base b P h ms true ∧ Keep base b h w w') := by
  have c0 := x.cell 0 _ rfl
  have c3 : w.cell? ⟨b, 3, none⟩ = some (.int .i64 2) := by rw [← hd]; exact x.cell 3 _ rfl
  have c4 : w.cell? ⟨b, 4, none⟩ = some (.int .i64 n) := by rw [hsz]; exact x.cell 4 _ rfl
  have c11 : w.cell? ⟨b, 11, none⟩ = some (.func (.func 30) #[] #[]) := by rw [← hp]; exact x.cell 11 _ rfl
  have hmade := isMade_at b w c0
  have hrep := lose_at x l n ad cap z hn hm hB hms he
  have hz1 : ¬ z < 0 := by omega
  clear c0 hsz he hms
  go_enter Try.func19, Try.ntmps19
  go_wp2_with fail
  refine hmade.mono ?_
  rintro e w' ⟨rfl, rfl⟩
  clear hmade
  go_wp2_with fail
  refine hrep.mono ?_
  rintro e w2 (⟨h1, rfl, h2⟩ | ⟨h1, rfl, h2⟩)
  · have H1 := hide h1; have H2 := hide h2
    clear h1 h2
    go_wp2
    go_ret
    exact .inl ⟨H1.out, rfl, H2.out⟩
  · have H1 := hide h1; have H2 := hide h2
    clear h1 h2
    go_wp2
    go_ret
    exact .inr ⟨H1.out, rfl, H2.out⟩

set_option maxRecDepth 100000 in
set_option maxHeartbeats 1000000 in
/-- Recv where one was lost -/
theorem recv_lost {base b : Nat} {P : Prm} {h : Value} {ms : List Msg} {w : World} (x : BoxW w base b P h ms true) (hd : P.d = 2) (hg : P.g = .func (.func 31) #[] #[]) (z' : Int) (hz0 : 0 ≤ z') :
    Calls Try.prog 21 #[.pointer (some ⟨b, 0, none⟩), .int .i64 z'] w fun e w' => e = .returned (.tuple #[.slice none 0 0, .int .i64 44]) ∧ BoxW w' base b P h ms false ∧ Keep base b h w w' := by
  have c0 := x.cell 0 _ rfl
  have c3 : w.cell? ⟨b, 3, none⟩ = some (.int .i64 2) := by rw [← hd]; exact x.cell 3 _ rfl
  have c12 : w.cell? ⟨b, 12, none⟩ = some (.func (.func 31) #[] #[]) := by rw [← hg]; exact x.cell 12 _ rfl
  have hmade := isMade_at b w c0
  have hl := tell_lost x z'
  have hz1 : ¬ z' < 0 := by omega
  clear c0 x
  go_enter Try.func21, Try.ntmps21
  go_wp2_with fail
  refine hmade.mono ?_
  rintro e w' ⟨rfl, rfl⟩
  clear hmade
  go_wp2_with fail
  refine hl.mono ?_
  rintro e w2 ⟨rfl, h1⟩
  have H1 := hide h1
  clear h1 hl
  go_wp2
  go_ret2
  exact ⟨rfl, H1.out⟩

set_option maxRecDepth 100000 in
set_option maxHeartbeats 1000000 in
/-- Recv where none waits -/
theorem recv_none {base b : Nat} {P : Prm} {h : Value} {w : World} (x : BoxW w base b P h [] false) (hd : P.d = 2) (hg : P.g = .func (.func 31) #[] #[]) (z' : Int) (hz0 : 0 ≤ z') :
    Calls Try.prog 21 #[.pointer (some ⟨b, 0, none⟩), .int .i64 z'] w fun e w' => e = .returned (.tuple #[.slice none 0 0, .int .i64 42]) ∧ Below w.heap.size w w' := by
  have c0 := x.cell 0 _ rfl
  have c3 : w.cell? ⟨b, 3, none⟩ = some (.int .i64 2) := by rw [← hd]; exact x.cell 3 _ rfl
  have c12 : w.cell? ⟨b, 12, none⟩ = some (.func (.func 31) #[] #[]) := by rw [← hg]; exact x.cell 12 _ rfl
  have hmade := isMade_at b w c0
  have hl := tell_none x z'
  have hz1 : ¬ z' < 0 := by omega
  clear c0 x
  go_enter Try.func21, Try.ntmps21
  go_wp2_with fail
  refine hmade.mono ?_
  rintro e w' ⟨rfl, rfl⟩
  clear hmade
  go_wp2_with fail
  refine hl.mono ?_
  rintro e w2 ⟨rfl, h1⟩
  have H1 := hide h1
  clear h1 hl
  go_wp2
  go_ret2
  exact ⟨rfl, H1.out⟩

set_option maxRecDepth 100000 in
set_option maxHeartbeats 1000000 in
/-- Recv where messages wait -/
theorem recv_queue {base b : Nat} {P : Prm} {h : Value} {m : Msg} {ms : List Msg} {w : World} (x : BoxW w base b P h (m :: ms) false) (hd : P.d = 2) (hg : P.g = .func (.func 31) #[] #[]) (hm : m.txt.length ≤ 1000000) (z' : Int) (hz0 : 0 ≤ z') :
    Calls Try.prog 21 #[.pointer (some ⟨b, 0, none⟩), .int .i64 z'] w fun e w' => ∃ g' c' h', e = .returned (.tuple #[.slice (some ⟨g', 0, none⟩) m.txt.length c', .int .i64 0]) ∧ OwnS w' w.heap.size g' m.txt.length c' m.txt ∧ BoxW w' base b P h' ms false ∧ KeepH base b h h' w w' := by
  have c0 := x.cell 0 _ rfl
  have c3 : w.cell? ⟨b, 3, none⟩ = some (.int .i64 2) := by rw [← hd]; exact x.cell 3 _ rfl
  have c12 : w.cell? ⟨b, 12, none⟩ = some (.func (.func 31) #[] #[]) := by rw [← hg]; exact x.cell 12 _ rfl
  have hmade := isMade_at b w c0
  have hl := tell_some x z' hm
  have hz1 : ¬ z' < 0 := by omega
  clear c0 x
  go_enter Try.func21, Try.ntmps21
  go_wp2_with fail
  refine hmade.mono ?_
  rintro e w' ⟨rfl, rfl⟩
  clear hmade
  go_wp2_with fail
  refine hl.mono ?_
  rintro e w2 ⟨g', c', h', rfl, h1⟩
  have H1 := hide h1
  clear h1 hl
  go_wp2
  go_ret2
  exact ⟨g', c', h', rfl, H1.out⟩

end Go.Proofs.Ytdimllmbalponaa
