/-
  A port that sends: Send, Take, Len.
-/
import Derived.Test.YtdimllmbalponaaLeave
namespace Go.Proofs.Ytdimllmbalponaa
open Go.RowKit Go.Shelf
set_option linter.unusedVariables false

theorem BoxW.empty {W : World} {base b : Nat} {P : Prm} {h : Value} {lost : Bool} (x : BoxW W base b P h [] lost) : ∃ A cap, h = .slice A 0 cap := by
  rcases x.held.2 with ⟨h1, _⟩ | ⟨g, cap, cur, h1, _⟩
  · exact ⟨none, 0, h1⟩
  · exact ⟨_, cap, h1⟩
theorem BoxW.len {W : World} {base b : Nat} {P : Prm} {h : Value} {ms : List Msg} {lost : Bool} (x : BoxW W base b P h ms lost) : ∃ A cap, h = .slice A ms.length cap := by
  rcases x.held.2 with ⟨h1, h2⟩ | ⟨g, cap, cur, h1, _⟩
  · exact ⟨none, 0, by rw [h1, h2]⟩
  · exact ⟨_, cap, h1⟩
theorem Keep.refl {base b : Nat} {h : Value} {w : World} (hb : base ≤ w.heap.size) : Keep base b h w w := ⟨Below.refl _ _, fun _ _ _ _ => rfl, Nat.le_refl _⟩

set_option maxRecDepth 100000 in
set_option maxHeartbeats 1000000 in
theorem len_at {base b : Nat} {P : Prm} {h : Value} {ms : List Msg} {lost : Bool} {w : World} (x : BoxW w base b P h ms lost) :
    Calls Try.prog 8 #[.pointer (some ⟨b, 0, none⟩)] w fun e w' => e = .returned (.int .i64 ms.length) ∧ w = w' := by
  obtain ⟨A, cap, rfl⟩ := x.len
  have c0 := x.cell 0 _ rfl
  have c13 : w.cell? ⟨b, 13, none⟩ = some (.slice A ms.length cap) := x.cell 13 _ rfl
  have hmade := isMade_at b w c0
  clear c0 x
  go_enter Try.func8, Try.ntmps8
  go_wp2_with fail
  refine hmade.mono ?_
  rintro e w' ⟨rfl, rfl⟩
  go_wp2
  go_ret
  exact ⟨rfl, rfl⟩

set_option maxRecDepth 100000 in
set_option maxHeartbeats 1000000 in
/-- Send into a box that keeps the last message -/
theorem send_last {base b : Nat} {P : Prm} {h : Value} {ms : List Msg} {lost : Bool} {w : World} (x : BoxW w base b P h ms lost) (hd : P.d = 1) (hp : P.p = .func (.func 25) #[] #[]) (l : List Nat) (n : Nat) (ad : Addr) (cap : Nat) (hn : l.length = n) (hm : n ≤ 1000000) (hsz : (n : Int) = P.s) (hB : Bytes w (some ad) l) :
    Calls Try.prog 14 #[.pointer (some ⟨b, 0, none⟩), .slice (some ad) n cap] w fun e w' => e = .returned (.int .i64 0) ∧ ∃ h' m, m.txt = l ∧ m.slot = 0 ∧ w.heap.size ≤ m.blk ∧ BoxW w' base b P h' [m] lost ∧ KeepH base b h h' w w' := by
  have c0 := x.cell 0 _ rfl
  have c3 : w.cell? ⟨b, 3, none⟩ = some (.int .i64 1) := by rw [← hd]; exact x.cell 3 _ rfl
  have c4 : w.cell? ⟨b, 4, none⟩ = some (.int .i64 n) := by rw [hsz]; exact x.cell 4 _ rfl
  have c11 : w.cell? ⟨b, 11, none⟩ = some (.func (.func 25) #[] #[]) := by rw [← hp]; exact x.cell 11 _ rfl
  have hmade := isMade_at b w c0
  have hrep := replace_at x l n ad cap 0 hn hm hB
  clear c0 hsz
  go_enter Try.func14, Try.ntmps14
  go_wp2_with fail
  refine hmade.mono ?_
  rintro e w' ⟨rfl, rfl⟩
  clear hmade
  go_wp2_with fail
  refine hrep.mono ?_
  rintro e w2 ⟨rfl, h', m, h1, h2, h0, h3, h4⟩
  have H3 := hide h3; have H4 := hide h4; have H1 := hide h1; have H2 := hide h2
  clear h1 h2 h3 h4
  go_wp2
  go_ret
  exact ⟨rfl, h', m, H1.out, H2.out, h0, H3.out, H4.out⟩

set_option maxRecDepth 100000 in
set_option maxHeartbeats 1000000 in
/-- Send into a box where messages wait -/
theorem send_queue {base b : Nat} {P : Prm} {h : Value} {ms : List Msg} {lost : Bool} {w : World} (x : BoxW w base b P h ms lost) (hd : P.d = 1) (hp : P.p = .func (.func 28) #[] #[]) (l : List Nat) (n : Nat) (ad : Addr) (cap : Nat) (hn : l.length = n) (hm : n ≤ 1000000) (hsz : (n : Int) = P.s) (hB : Bytes w (some ad) l) (hms : ms.length ≤ 1000) (he : 0 ≤ P.e ∧ P.e ≤ 1000) :
    Calls Try.prog 14 #[.pointer (some ⟨b, 0, none⟩), .slice (some ad) n cap] w fun e w' => ((ms.length : Int) < P.e ∧ e = .returned (.int .i64 0) ∧ ∃ h' m, m.txt = l ∧ m.slot = 0 ∧ w.heap.size ≤ m.blk ∧ BoxW w' base b P h' (ms ++ [m]) lost ∧ KeepH base b h h' w w') ∨ (P.e ≤ (ms.length : Int) ∧ e = .returned (.int .i64 41) ∧ BoxW w' base b P h ms lost ∧ Keep base b h w w') := by
  have c0 := x.cell 0 _ rfl
  have c3 : w.cell? ⟨b, 3, none⟩ = some (.int .i64 1) := by rw [← hd]; exact x.cell 3 _ rfl
  have c4 : w.cell? ⟨b, 4, none⟩ = some (.int .i64 n) := by rw [hsz]; exact x.cell 4 _ rfl
  have c11 : w.cell? ⟨b, 11, none⟩ = some (.func (.func 28) #[] #[]) := by rw [← hp]; exact x.cell 11 _ rfl
  have hmade := isMade_at b w c0
  have hq := queue_at x l n ad cap 0 hn hm hB hms he
  clear c0 hsz he hms
  go_enter Try.func14, Try.ntmps14
  go_wp2_with fail
  refine hmade.mono ?_
  rintro e w' ⟨rfl, rfl⟩
  clear hmade
  go_wp2_with fail
  refine hq.mono ?_
  rintro e w2 (⟨h1, rfl, h2⟩ | ⟨h1, rfl, h2⟩)
  · have H1 := hide h1; have H2 := hide h2
    clear h1 h2
    go_wp2
    go_ret
    exact .inl ⟨H1.out, rfl, H2.out⟩
  · have H1 := hide h1; have H2 := hide h2
    clear h1 h2
    go_wp2
    go_ret
    exact .inr ⟨H1.out, rfl, H2.out⟩

set_option maxRecDepth 100000 in
set_option maxHeartbeats 1000000 in
/-- Take out of a box where messages wait -/
theorem take_queue {base b : Nat} {P : Prm} {h : Value} {m : Msg} {ms : List Msg} {lost : Bool} {w : World} (x : BoxW w base b P h (m :: ms) lost) (hd : P.d = 1) (hg : P.g = .func (.func 29) #[] #[]) (hm : m.txt.length ≤ 1000000) :
    Calls Try.prog 16 #[.pointer (some ⟨b, 0, none⟩)] w fun e w' => ∃ g' c' h', e = .returned (.tuple #[.slice (some ⟨g', 0, none⟩) m.txt.length c', .bool true]) ∧ OwnS w' w.heap.size g' m.txt.length c' m.txt ∧ BoxW w' base b P h' ms lost ∧ KeepH base b h h' w w' := by
  have c0 := x.cell 0 _ rfl
  have c3 : w.cell? ⟨b, 3, none⟩ = some (.int .i64 1) := by rw [← hd]; exact x.cell 3 _ rfl
  have c12 : w.cell? ⟨b, 12, none⟩ = some (.func (.func 29) #[] #[]) := by rw [← hg]; exact x.cell 12 _ rfl
  have hmade := isMade_at b w c0
  have hl := leave_at x 0 hm
  clear c0
  go_enter Try.func16, Try.ntmps16
  go_wp2_with fail
  refine hmade.mono ?_
  rintro e w' ⟨rfl, rfl⟩
  clear hmade
  go_wp2_with fail
  refine hl.mono ?_
  rintro e w2 ⟨g', c', h', rfl, h1⟩
  have H1 := hide h1
  clear h1 hl x
  go_wp2
  go_ret2
  exact ⟨g', c', h', rfl, H1.out⟩

set_option maxRecDepth 100000 in
set_option maxHeartbeats 1000000 in
/-- Take out of a box that keeps the last message -/
theorem take_last {base b : Nat} {P : Prm} {h : Value} {m : Msg} {lost : Bool} {w : World} (x : BoxW w base b P h [m] lost) (hd : P.d = 1) (hg : P.g = .func (.func 26) #[] #[]) (hm : m.txt.length ≤ 1000000) :
    Calls Try.prog 16 #[.pointer (some ⟨b, 0, none⟩)] w fun e w' => ∃ g' c', e = .returned (.tuple #[.slice (some ⟨g', 0, none⟩) m.txt.length c', .bool true]) ∧ OwnS w' w.heap.size g' m.txt.length c' m.txt ∧ Below w.heap.size w w' := by
  obtain ⟨g, cap, cur, rfl, hg0, hh, hcap, hcm, hcs, htake, h0, h1⟩ := x.head
  have c0 := x.cell 0 _ rfl
  have c3 : w.cell? ⟨b, 3, none⟩ = some (.int .i64 1) := by rw [← hd]; exact x.cell 3 _ rfl
  have c12 : w.cell? ⟨b, 12, none⟩ = some (.func (.func 26) #[] #[]) := by rw [← hg]; exact x.cell 12 _ rfl
  have hmade := isMade_at b w c0
  have hl := first_some b g _ cap m.txt.length m.cap ⟨m.blk, 0, none⟩ m.slot 0 m.txt w (by omega) (x.cell 13 _ rfl) h0 h1 rfl hm (OwnS.bytes (x.each m (List.mem_singleton.2 rfl)))
  clear c0 h0 h1 hh htake
  go_enter Try.func16, Try.ntmps16
  go_wp2_with fail
  refine hmade.mono ?_
  rintro e w' ⟨rfl, rfl⟩
  clear hmade
  go_wp2_with fail
  refine hl.mono ?_
  rintro e w2 ⟨g', c', rfl, h1⟩
  have H1 := hide h1
  clear h1 hl x
  go_wp2
  go_ret2
  exact ⟨g', c', rfl, H1.out⟩

set_option maxRecDepth 100000 in
set_option maxHeartbeats 1000000 in
theorem take_last_none {base b : Nat} {P : Prm} {h : Value} {lost : Bool} {w : World} (x : BoxW w base b P h [] lost) (hd : P.d = 1) (hg : P.g = .func (.func 26) #[] #[]) :
    Calls Try.prog 16 #[.pointer (some ⟨b, 0, none⟩)] w fun e w' => e = .returned (.tuple #[.slice none 0 0, .bool false]) ∧ Below w.heap.size w w' := by
  obtain ⟨A, cap, rfl⟩ := x.empty
  have c0 := x.cell 0 _ rfl
  have c3 : w.cell? ⟨b, 3, none⟩ = some (.int .i64 1) := by rw [← hd]; exact x.cell 3 _ rfl
  have c12 : w.cell? ⟨b, 12, none⟩ = some (.func (.func 26) #[] #[]) := by rw [← hg]; exact x.cell 12 _ rfl
  have hmade := isMade_at b w c0
  have hl := first_none b cap A 0 w (x.cell 13 _ rfl)
  clear c0
  go_enter Try.func16, Try.ntmps16
  go_wp2_with fail
  refine hmade.mono ?_
  rintro e w' ⟨rfl, rfl⟩
  clear hmade
  go_wp2_with fail
  refine hl.mono ?_
  rintro e w2 ⟨rfl, h1⟩
  have H1 := hide h1
  clear h1 hl x
  go_wp2
  go_ret2
  exact ⟨rfl, H1.out⟩
end Go.Proofs.Ytdimllmbalponaa
