/-
  A queuing port that receives: queueOrLose.
-/
import Derived.Test.YtdimllmbalponaaSource
namespace Go.Proofs.Ytdimllmbalponaa
open Go.RowKit Go.Shelf
set_option linter.unusedVariables false

theorem BoxW.setLost {w : World} {base b : Nat} {P : Prm} {h : Value} {ms : List Msg} {lost : Bool} (x : BoxW w base b P h ms lost) (v : Bool) : BoxW (w.setCell ⟨b, 14, none⟩ (.bool v)) base b P h ms v := by
  have hrow := x.row
  refine ⟨x.lo, by rw [setCell_row hrow, pcs_set14], ⟨x.held.1, ?_⟩, fun m hm => OwnS.kept (x.each m hm) (heap_setCell_other _ _ _ _ (bytes_block (x.each m hm) hrow (by decide)))⟩
  rcases x.held.2 with h1 | ⟨g, cap, cur, h1, h2, h3, h4⟩
  · exact .inl h1
  · refine .inr ⟨g, cap, cur, h1, h2, (heap_setCell_other _ _ _ _ ?_).trans h3, h4⟩
    rintro rfl
    rw [hrow] at h3
    injection h3 with h3
    injection h3 with _ h3
    exact absurd h3 (by decide)
theorem Keep.setLost {base b : Nat} {h : Value} {w w' : World} (k : Keep base b h w w') (hb : base ≤ b) (v : Value) : Keep base b h w (w'.setCell ⟨b, 14, none⟩ v) :=
  ⟨k.bel.setCell (p := ⟨b, 14, none⟩) hb _, fun j h1 h2 h3 => (heap_setCell_other _ _ _ _ h2).trans (k.blk j h1 h2 h3), by show _ ≤ (w'.heap.modify _ _).size; rw [Array.size_modify]; exact k.siz⟩

set_option maxRecDepth 100000 in
set_option maxHeartbeats 1000000 in
theorem lose_at {base b : Nat} {P : Prm} {h : Value} {ms : List Msg} {lost : Bool} {w : World} (x : BoxW w base b P h ms lost) (l : List Nat) (n : Nat) (ad : Addr) (cap : Nat) (z : Int) (hn : l.length = n) (hm : n ≤ 1000000) (hB : Bytes w (some ad) l) (hms : ms.length ≤ 1000) (he : 0 ≤ P.e ∧ P.e ≤ 1000) :
    Calls Try.prog 30 #[.pointer (some ⟨b, 0, none⟩), .agg #[.slice (some ad) n cap, .int .i64 z]] w fun e w' =>
      ((ms.length : Int) < P.e ∧ e = .returned (.int .i64 0) ∧ ∃ h' m, m.txt = l ∧ m.slot = z ∧ w.heap.size ≤ m.blk ∧ BoxW w' base b P h' (ms ++ [m]) lost ∧ KeepH base b h h' w w') ∨ (P.e ≤ (ms.length : Int) ∧ e = .returned (.int .i64 41) ∧ BoxW w' base b P h ms true ∧ Keep base b h w w') := by
  have hb1 := bal w (.cells #[.slice (some ad) n cap, .int .i64 z] 76)
  have hc1 := heap_alloc_new w (.cells #[.slice (some ad) n cap, .int .i64 z] 76)
  obtain ⟨w1, hw1⟩ : ∃ w1, w.alloc (.cells #[.slice (some ad) n cap, .int .i64 z] 76) = w1 := ⟨_, rfl⟩
  rw [hw1] at hb1 hc1
  have X1 := hide (x.later hb1)
  have B1 := hide hb1
  have hz1 := hb1.size
  have q0 : w1.cell? ⟨w.heap.size, 0, none⟩ = some (.slice (some ad) n cap) := by rw [cell_of_row _ _ _ _ _ _ hc1]; rfl
  have q1 : w1.cell? ⟨w.heap.size, 1, none⟩ = some (.int .i64 z) := by rw [cell_of_row _ _ _ _ _ _ hc1]; rfl
  have hq := queue_at X1.out l n ad cap z hn hm (hB.of_below hb1 (Nat.le_refl _)) hms he
  have hlo := x.lo
  have hbase : base ≤ w.heap.size := by have := x.lt; omega
  have HE := hide he
  clear hb1 hc1 he hms x
  go_enter Try.func30, Try.ntmps30
  go_wp2_with fail
  refine hq.mono ?_
  have hk : ∀ {w2 : World}, Keep base b h w1 w2 → Keep base b h w w2 := fun k => ⟨(B1.out.mono hbase).trans k.bel, fun j h1 h2 h3 => (k.blk j (by omega) h2 h3).trans (B1.out.block j h1), Nat.le_trans hz1 k.siz⟩
  rintro e w2 (⟨h1, rfl, h', m, hm1, hm2, hm3, x2, k2⟩ | ⟨h1, rfl, x2, k2⟩)
  · have H2 := hide x2; have K2 := hide (show KeepH base b h h' w _ from ⟨hk k2.toKeep, k2.wh.imp id fun h k hk => Nat.le_trans hz1 (h k hk)⟩); have H1 := hide h1; have M1 := hide hm1; have M2 := hide hm2
    clear h1 x2 k2 hk hm1 hm2 hq
    go_wp2
    go_ret
    exact .inl ⟨H1.out, rfl, h', m, M1.out, M2.out, Nat.le_trans hz1 hm3, H2.out, K2.out⟩
  · have c14 := x2.cell 14 _ rfl
    have f14 := x2.free 14
    have H2 := hide (x2.setLost true); have K2 := hide ((hk k2).setLost hlo (.bool true)); have H1 := hide h1
    clear h1 x2 k2 hk hq
    go_wp2
    go_ret
    exact .inr ⟨H1.out, rfl, H2.out, K2.out⟩
end Go.Proofs.Ytdimllmbalponaa
