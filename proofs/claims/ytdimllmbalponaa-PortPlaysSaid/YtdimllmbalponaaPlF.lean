/-
  The walk of PortPlays.
-/
import Derived.Test.YtdimllmbalponaaPlD
import Derived.Test.YtdimllmbalponaaRefNew
import Derived.Test.YtdimllmbalponaaStill
namespace Go.Proofs.Ytdimllmbalponaa
open Go.RowKit Go.Shelf
set_option linter.unusedVariables false

theorem info_kept : (Try.prog.info? 36).map (fun i => (i.zero, i.size)) = some (some (.agg #[.slice none 0 0, .slice none 0 0]), 2) := by kernel_rfl
theorem BoxS.from {W : World} {base base' b : Nat} {P : Prm} {h : Value} {ms : List Msg} {S : St} (x : BoxS W base b P h ms S) (hb : base' ≤ base) : BoxS W base' b P h ms S := { x with box := x.box.from hb }

set_option maxRecDepth 100000 in
set_option maxHeartbeats 1000000 in
theorem plays_any (pt k d s e f : Int) (L : List OpD) (N : Nat) (A : Option Addr) (cap : Nat) (w : World) (hN : L.length = N) (hcap : N ≤ cap) (hmax : cap ≤ maxLen) (hL : Ops w A L) :
    Calls Try.prog 3 #[.agg #[.int .i64 pt, .int .i64 k, .int .i64 d, .int .i64 s, .int .i64 e, .int .i64 f], .slice A N cap] w fun e w' => e = .returned (.bool true) ∧ Below w.heap.size w w' := by
  unfold maxLen at hmax
  have HL := hide hL; have HN := hide hN
  clear hL hN
  have hb1 := bal w (.cells #[.int .i64 pt, .int .i64 k, .int .i64 d, .int .i64 s, .int .i64 e, .int .i64 f] 23)
  have hr1 := heap_alloc_new w (.cells #[.int .i64 pt, .int .i64 k, .int .i64 d, .int .i64 s, .int .i64 e, .int .i64 f] 23)
  have hz1 : w.heap.size < (w.alloc (.cells #[.int .i64 pt, .int .i64 k, .int .i64 d, .int .i64 s, .int .i64 e, .int .i64 f] 23)).heap.size := by simp
  obtain ⟨w1, hw1⟩ : ∃ w1, w.alloc (.cells #[.int .i64 pt, .int .i64 k, .int .i64 d, .int .i64 s, .int .i64 e, .int .i64 f] 23) = w1 := ⟨_, rfl⟩
  rw [hw1] at hb1 hr1 hz1
  have B1 := hide hb1; have R1 := hide hr1
  have p0 : w1.cell? ⟨w.heap.size, 0, none⟩ = some (.int .i64 pt) := by rw [cell_of_row _ _ _ _ _ _ hr1]; rfl
  have p1 : w1.cell? ⟨w.heap.size, 1, none⟩ = some (.int .i64 k) := by rw [cell_of_row _ _ _ _ _ _ hr1]; rfl
  have p2 : w1.cell? ⟨w.heap.size, 2, none⟩ = some (.int .i64 d) := by rw [cell_of_row _ _ _ _ _ _ hr1]; rfl
  have p3 : w1.cell? ⟨w.heap.size, 3, none⟩ = some (.int .i64 s) := by rw [cell_of_row _ _ _ _ _ _ hr1]; rfl
  have p4 : w1.cell? ⟨w.heap.size, 4, none⟩ = some (.int .i64 e) := by rw [cell_of_row _ _ _ _ _ _ hr1]; rfl
  have p5 : w1.cell? ⟨w.heap.size, 5, none⟩ = some (.int .i64 f) := by rw [cell_of_row _ _ _ _ _ _ hr1]; rfl
  clear hb1 hr1
  go_enter Try.func3, Try.ntmps3
  by_cases hlen : 1000 < N
  · go_wp2
    go_ret
    exact ⟨rfl, B1.out⟩
  go_wp2_with fail
  refine (new_any pt k d s e f w1).mono ?_
  rintro e' w2 ⟨h2, hb2⟩
  have B2 := hide (B1.out.trans (hb2.mono (by omega)))
  have hz2 := hb2.size
  have r1 := (hb2.block w.heap.size (by omega)).trans R1.out
  have HB2 := hide hb2
  have p0 : w2.cell? ⟨w.heap.size, 0, none⟩ = some (.int .i64 pt) := by rw [cell_of_row _ _ _ _ _ _ r1]; rfl
  have p1 : w2.cell? ⟨w.heap.size, 1, none⟩ = some (.int .i64 k) := by rw [cell_of_row _ _ _ _ _ _ r1]; rfl
  have p2 : w2.cell? ⟨w.heap.size, 2, none⟩ = some (.int .i64 d) := by rw [cell_of_row _ _ _ _ _ _ r1]; rfl
  have p3 : w2.cell? ⟨w.heap.size, 3, none⟩ = some (.int .i64 s) := by rw [cell_of_row _ _ _ _ _ _ r1]; rfl
  have p4 : w2.cell? ⟨w.heap.size, 4, none⟩ = some (.int .i64 e) := by rw [cell_of_row _ _ _ _ _ _ r1]; rfl
  have p5 : w2.cell? ⟨w.heap.size, 5, none⟩ = some (.int .i64 f) := by rw [cell_of_row _ _ _ _ _ _ r1]; rfl
  have hrn := ref_new pt k d s e f w2
  clear hb2 R1 hw1
  rcases h2 with ⟨hm, b, rfl, ok, x0⟩ | ⟨hm, rfl⟩
  case inr =>
    go_wp2_with fail
    refine hrn.mono ?_
    rintro e' w3 ⟨h3, hb3⟩
    obtain rfl : e' = .returned (.tuple #[.agg zref, .int .i64 40]) := by
      rcases h3 with ⟨h4, _⟩ | ⟨_, h4⟩
      · exact absurd h4 hm
      · exact h4
    have B3 := hide (B2.out.trans (hb3.mono (by omega)))
    have hz3 := hb3.size
    clear h3 hrn hb3
    have hzr := (zero_of_info info_ref).1
    unfold zref at hzr ⊢
    go_wp2
    go_ret
    exact ⟨rfl, B3.out.alloc (by omega) _⟩
  obtain ⟨P, hP⟩ : ∃ P, prm pt k d s e f = P := ⟨_, rfl⟩
  rw [hP] at ok x0
  have OK := hide ok; have X0 := hide x0; have HP := hide hP
  clear ok x0 hP
  go_wp2_with fail
  refine hrn.mono ?_
  rintro e' w3 ⟨h3, hb3⟩
  obtain rfl : e' = .returned (.tuple #[.agg #[.int .i64 pt, .int .i64 k, .int .i64 d, .int .i64 s, .int .i64 e, .int .i64 f, .slice none 0 0, .int .i64 0, .bool false], .int .i64 0]) := by
    rcases h3 with ⟨_, h4⟩ | ⟨h4, _⟩
    · exact h4
    · exact absurd hm h4
  have B3 := hide (B2.out.trans (hb3.mono (by omega)))
  have X3 := hide (X0.out.later hb3)
  have hz3 := hb3.size
  have HB3 := hide (HB2.out.trans (hb3.mono hz2))
  clear h3 hb3 p0 p1 p2 p3 p4 p5 hrn r1
  have hzr := (zero_of_info info_ref).1
  unfold zref at hzr
  have hzk := (zero_of_info info_kept).1
  go_wp2_with fail
  have row4 := heap_alloc_new w3 (.cells #[.int .i64 pt, .int .i64 k, .int .i64 d, .int .i64 s, .int .i64 e, .int .i64 f, .slice none 0 0, .int .i64 0, .bool false] 31)
  have B4 := hide (bal w3 (.cells #[.int .i64 pt, .int .i64 k, .int .i64 d, .int .i64 s, .int .i64 e, .int .i64 f, .slice none 0 0, .int .i64 0, .bool false] 31))
  have Z4 : w3.heap.size < (w3.alloc (.cells #[.int .i64 pt, .int .i64 k, .int .i64 d, .int .i64 s, .int .i64 e, .int .i64 f, .slice none 0 0, .int .i64 0, .bool false] 31)).heap.size := by simp
  have R4 := hide row4
  have e4 : (w3.alloc (.cells #[.int .i64 pt, .int .i64 k, .int .i64 d, .int .i64 s, .int .i64 e, .int .i64 f, .slice none 0 0, .int .i64 0, .bool false] 31)).heap.size = w3.heap.size + 1 := by simp
  generalize w3.alloc (.cells #[.int .i64 pt, .int .i64 k, .int .i64 d, .int .i64 s, .int .i64 e, .int .i64 f, .slice none 0 0, .int .i64 0, .bool false] 31) = w4 at B4 R4 Z4 e4 ⊢
  clear row4
  have row5 := heap_alloc_new w4 (.cells #[.slice none 0 0, .slice none 0 0] 36)
  have B5 := hide (bal w4 (.cells #[.slice none 0 0, .slice none 0 0] 36))
  have Z5 : w4.heap.size < (w4.alloc (.cells #[.slice none 0 0, .slice none 0 0] 36)).heap.size := by simp
  rw [e4] at row5
  have R5 := hide row5
  generalize w4.alloc (.cells #[.slice none 0 0, .slice none 0 0] 36) = w5 at B5 R5 Z5 ⊢
  clear row5 hzk hzr
  have hP : P.pt = pt ∧ P.k = k ∧ P.d = d ∧ P.s = s ∧ P.e = e ∧ P.f = f := by
    have h := HP.out
    subst h
    unfold prm
    split <;> split <;> exact ⟨rfl, rfl, rfl, rfl, rfl, rfl⟩
  have PL := hide (show Pl w5 w1.heap.size b w3.heap.size (w3.heap.size + 1) P ([], false) ([], false) (fun _ => False) (.slice none 0 0) [] (.slice none 0 0) (.slice none 0 0) [] [] from
    ⟨(X3.out.later (B4.out.mono (Nat.le_refl _))).later B5.out, ⟨⟨.slice none 0 0, [], 0, ⟨by omega, by
      rw [B5.out.block w3.heap.size (by omega), R4.out]
      obtain ⟨h1, h2, h3, h4, h5, h6⟩ := hP
      unfold rcs
      rw [h1, h2, h3, h4, h5, h6], Rws.nil _ _, ⟨by simp, by intro k hk; cases hk⟩⟩, by simp, by simp, by omega, by omega⟩, by simp, by simp⟩,
      ⟨by omega, R5.out, Rws.nil _ _, Rws.nil _ _, by simp, by intro k hk; cases hk⟩, by simp, by simp, by simp⟩)
  have B15 := hide (HB3.out.trans ((B4.out.mono (by omega)).trans (B5.out.mono (by omega))))
  have HL1 := hide (HL.out.of_below B1.out (Nat.le_refl _))
  clear R4 R5 B4 B5 X3 HP hP B3 HB3 HB2 B2 X0 HL
  go_wp2_with fail
  go_loopg [5, 10] N (fun r va i wr => ∃ (j b : Nat) (h : Value) (ms : List Msg) (hT hW : Value) (tT tW : List Rw) (S : St), j + r = N ∧ i = .int .i64 j ∧ va = .pointer (some ⟨b, 0, none⟩) ∧
    Pl wr w1.heap.size b w3.heap.size (w3.heap.size + 1) P S S (fun _ => False) h ms hT hW tT tW ∧ (S.2 = true → P.k = 2) ∧ tT.length ≤ j ∧ Below w1.heap.size w1 wr)
  case atStart => exact ⟨0, b, _, [], _, _, [], [], ([], false), by omega, rfl, rfl, PL.out, by simp, by simp, B15.out⟩
  case round =>
    clear PL B15
    obtain ⟨j, b, h, ms, hT, hW, tT, tW, S, hj, rfl, rfl, pl, hlo, hln, hb⟩ := hrel
    have PL := hide pl; have HLO := hide hlo; have HB := hide hb
    clear pl hlo hb
    by_cases hlt : j < N
    · as_aux_lemma =>
        obtain ⟨bA, off, hAe, hbA, ⟨Aj, cj, Q0, Q1, Q2, HBY'⟩, hk64, hz64⟩ := HL1.out.at (k := j) (by rw [HN.out]; omega)
        subst hAe
        generalize L.getD j default = y at Q0 Q1 Q2 HBY' hz64
        have q0 := (bcl HB.out hbA).trans Q0
        have q1 := (bcl HB.out hbA).trans Q1
        have q2 := (bcl HB.out hbA).trans Q2
        have HBY := hide HBY'
        have hz := hz64.le
        by_cases h100 : 100 < y.l.length
        · generalize y.l.length = yn at q1 h100
          generalize y.k = yk at q0
          generalize y.z = yz at q2
          clear Q0 Q1 Q2 HBY' hk64 hz64 hz HBY
          go_wp2
          go_ret
          exact ⟨rfl, B1.out.trans (HB.out.mono (by omega))⟩
        · have hc := do_at PL.out OK.out HLO.out y.k y.z Aj y.l.length cj y.l rfl (by omega) w1 (Nat.le_refl _) HBY.out HB.out hz (by omega)
          have h100' : ¬ (100 : Int) < (y.l.length : Int) := by omega
          generalize y.l.length = yn at q1 h100 hc h100'
          generalize y.k = yk at q0 hc
          generalize y.z = yz at q2 hc
          have HC := hide hc
          clear Q0 Q1 Q2 HBY' hk64 hz64 hz HBY hc
          go_wp2_with fail
          refine HC.out.mono ?_
          rintro e' w6 ⟨b', h', ms', hT', hW', tT', tW', S', rfl, pl, hlo, hln', hb⟩
          have PL6 := hide pl; have HLO6 := hide hlo; have HB6 := hide (HB.out.trans hb)
          clear pl hlo hb q0 q1 q2
          go_wp2
          go_roundg (N - j - 1)
          case measure => omega
          case rel => exact ⟨j + 1, b', h', ms', hT', hW', tT', tW', S', by omega, by go_num, rfl, PL6.out, HLO6.out, by omega, HB6.out⟩
    · obtain rfl : j = N := by omega
      have HST := hide (fun m => still_at (PL.out.kept.later (W' := wr.drewN m) (below_drewN (Below.refl _ _) m)) (by omega))
      have HLn := hide (fun m => len_at (PL.out.box.box.later (W' := wr.drewN m) (below_drewN (Below.refl _ _) m)))
      obtain ⟨hr, rs, slot, y, hmr, _⟩ := PL.out.ref.is
      obtain ⟨A9, c9, rfl, _, _⟩ := y.rws.len
      have hrl : rs.length = ms.length := by have h1 := congrArg List.length hmr; simp only [List.length_map] at h1; rw [h1, PL.out.box.len]
      have q6 : wr.cell? ⟨w3.heap.size, 6, none⟩ = some (.slice A9 rs.length c9) := y.cell 6 _ rfl
      rw [hrl] at q6
      clear y hmr hrl
      go_wp2_with fail
      go_quiet ((first
        | (go_at_call 7; refine Calls.quiet_of (HST.out _))
        | (go_at_call 8; refine Calls.quiet_of_same ((HLn.out _).mono fun _ _ h => ⟨h.1, h.2.symm⟩))))
      go_wp2
      go_ret
      exact ⟨by simp, B1.out.trans ((below_drewN HB.out nq).mono (by omega))⟩
end Go.Proofs.Ytdimllmbalponaa
