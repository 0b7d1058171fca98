/-
  A sampling port that receives: Arrive, Recv.
-/
import Derived.Test.YtdimllmbalponaaFresh
import Derived.Test.YtdimllmbalponaaSource
namespace Go.Proofs.Ytdimllmbalponaa
open Go.RowKit Go.Shelf
set_option linter.unusedVariables false

set_option maxRecDepth 100000 in
set_option maxHeartbeats 1000000 in
/-- Arrive at a box that keeps the last message -/
theorem arrive_last {base b : Nat} {P : Prm} {h : Value} {ms : List Msg} {lost : Bool} {w : World} (x : BoxW w base b P h ms lost) (hd : P.d = 2) (hp : P.p = .func (.func 25) #[] #[]) (l : List Nat) (n : Nat) (ad : Addr) (cap : Nat) (z : Int) (hz0 : 0 ≤ z) (hn : l.length = n) (hm : n ≤ 1000000) (hsz : (n : Int) = P.s) (hB : Bytes w (some ad) l) :
    Calls Try.prog 19 #[.pointer (some ⟨b, 0, none⟩), .slice (some ad) n cap, .int .i64 z] w fun e w' => e = .returned (.int .i64 0) ∧ ∃ h' m, m.txt = l ∧ m.slot = z ∧ w.heap.size ≤ m.blk ∧ BoxW w' base b P h' [m] lost ∧ KeepH base b h h' w w' := by
  have c0 := x.cell 0 _ rfl
  have c3 : w.cell? ⟨b, 3, none⟩ = some (.int .i64 2) := by rw [← hd]; exact x.cell 3 _ rfl
  have c4 : w.cell? ⟨b, 4, none⟩ = some (.int .i64 n) := by rw [hsz]; exact x.cell 4 _ rfl
  have c11 : w.cell? ⟨b, 11, none⟩ = some (.func (.func 25) #[] #[]) := by rw [← hp]; exact x.cell 11 _ rfl
  have hmade := isMade_at b w c0
  have hrep := replace_at x l n ad cap z hn hm hB
  have hz1 : ¬ z < 0 := by omega
  clear c0 hsz
  go_enter Try.func19, Try.ntmps19
  go_wp2_with fail
  refine hmade.mono ?_
  rintro e w' ⟨rfl, rfl⟩
  clear hmade
  go_wp2_with fail
  refine hrep.mono ?_
  rintro e w2 ⟨rfl, h', m, h1, h2, h0, h3, h4⟩
  have H3 := hide h3; have H4 := hide h4; have H1 := hide h1; have H2 := hide h2
  clear h1 h2 h3 h4
  go_wp2
  go_ret
  exact ⟨rfl, h', m, H1.out, H2.out, h0, H3.out, H4.out⟩

set_option maxRecDepth 100000 in
set_option maxHeartbeats 1000000 in
/-- Recv from a box that keeps the last message -/
theorem recv_last {base b : Nat} {P : Prm} {h : Value} {m : Msg} {lost : Bool} {w : World} (x : BoxW w base b P h [m] lost) (hd : P.d = 2) (hg : P.g = .func (.func 27) #[] #[]) (hm : m.txt.length ≤ 1000000) (z' : Int) (hz0 : 0 ≤ z') (hwr : IntKind.i64.wrap (z' - m.slot) = z' - m.slot) (old : Bool) (hold : decide (P.f ≤ z' - m.slot) = old) :
    Calls Try.prog 21 #[.pointer (some ⟨b, 0, none⟩), .int .i64 z'] w fun e w' => ((old = true ∧ e = .returned (.tuple #[.slice none 0 0, .int .i64 43])) ∨ (old = false ∧ ∃ g' c', e = .returned (.tuple #[.slice (some ⟨g', 0, none⟩) m.txt.length c', .int .i64 0]) ∧ OwnS w' w.heap.size g' m.txt.length c' m.txt)) ∧ Below w.heap.size w w' := by
  obtain ⟨g, cap, cur, rfl, hg0, hh, hcap, hcm, hcs, htake, h0, h1⟩ := x.head
  have c0 := x.cell 0 _ rfl
  have c3 : w.cell? ⟨b, 3, none⟩ = some (.int .i64 2) := by rw [← hd]; exact x.cell 3 _ rfl
  have c12 : w.cell? ⟨b, 12, none⟩ = some (.func (.func 27) #[] #[]) := by rw [← hg]; exact x.cell 12 _ rfl
  have hmade := isMade_at b w c0
  have hl := fresh_some b g _ cap m.txt.length m.cap ⟨m.blk, 0, none⟩ m.slot z' m.txt w (by omega) (x.cell 13 _ rfl) h0 h1 rfl hm P.f (x.cell 6 _ rfl) hwr old hold (OwnS.bytes (x.each m (List.mem_singleton.2 rfl)))
  have hz1 : ¬ z' < 0 := by omega
  clear c0 h0 h1 hh htake hold
  go_enter Try.func21, Try.ntmps21
  go_wp2_with fail
  refine hmade.mono ?_
  rintro e w' ⟨rfl, rfl⟩
  clear hmade
  go_wp2_with fail
  refine hl.mono ?_
  rintro e w2 ⟨h2 | h2, h3⟩
  · obtain ⟨h2, rfl⟩ := h2
    have H3 := hide h3
    clear h3 hl x
    go_wp2
    go_ret2
    exact ⟨.inl ⟨h2, rfl⟩, H3.out⟩
  · obtain ⟨h2, g', c', rfl, h1⟩ := h2
    have H3 := hide h3; have H1 := hide h1
    clear h3 h1 hl x
    go_wp2
    go_ret2
    exact ⟨.inr ⟨h2, g', c', rfl, H1.out⟩, H3.out⟩
end Go.Proofs.Ytdimllmbalponaa
