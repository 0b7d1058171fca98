/-
  A size is put into the first room that holds it.
-/
import Derived.Test.YtpnpbnfjhnmhjaaPcP
namespace Go.Proofs.Ytpnpbnfjhnmhjaa
open Go.RowKit Go.Shelf
attribute [local go_sem] Oper.semAt_some
set_option linter.unusedVariables false
set_option linter.unusedSimpArgs false
set_option maxRecDepth 100000

/-- rooms in memory -/
structure RmW (W : World) (rb mb B a : Nat) (R : List (Nat × Nat)) (nx : Nat → Nat) : Prop where
  mp : NxM W mb (fun k => (nx k.toNat : Nat))
  st : ∃ v, W.heap[rb]? = some (.cells #[.int .i64 (a : Nat), v, .map (some mb)] 59 (0, 0)) ∧ OwnA W B v (toI R)
theorem putM_other {W : World} {r k : Nat} {o : Obj} (h : k ≠ r) : (putM W r o).heap[k]? = W.heap[k]? := by
  show (W.heap.setIfInBounds r o)[k]? = _
  rw [Array.getElem?_setIfInBounds_ne (fun e => h e.symm)]
theorem below_putM {B r : Nat} {w W : World} {o : Obj} (h : Below B w W) (hr : B ≤ r) : Below B w (putM W r o) :=
  ⟨h.os, h.tape, h.output, by unfold putM; simpa using h.size, fun k hk => (putM_other (by omega)).trans (h.block k hk)⟩
theorem nx_fun {nx : Nat → Nat} {z i : Nat} (hz : 0 < z) : (fun k : Int => if k = (z : Int) then (i : Int) else ((nx k.toNat : Nat) : Int)) = fun k : Int => (((if k.toNat = z then i else nx k.toNat : Nat)) : Int) := by
  funext k
  by_cases h : k = (z : Int)
  · rw [if_pos h, if_pos (by omega)]
  · rw [if_neg h, if_neg (by omega)]
theorem toI_set (R : List (Nat × Nat)) (i : Nat) (v T : Nat) (hi : i < R.length) (hT : T = (R.getD i (0, 0)).2) : (flatA (toI R)).set (i * 2) (.int .i64 (v : Nat)) = flatA (toI (R.set i (v, T))) := by
  induction R generalizing i with
  | nil => simp at hi
  | cons r R ih =>
    rcases i with _ | i
    · simp at hT
      subst hT
      rfl
    · have e : (i + 1) * 2 = i * 2 + 1 + 1 := by omega
      rw [e]
      show (Value.int .i64 r.1 :: Value.int .i64 r.2 :: flatA (toI R)).set (i * 2 + 1 + 1) _ = Value.int .i64 r.1 :: Value.int .i64 r.2 :: flatA (toI (R.set i (v, T)))
      rw [List.set_cons_succ, List.set_cons_succ, ih i (by simpa using hi) (by simpa using hT)]

/-- all cells that are no spans stay -/
def NoSp (W W' : World) : Prop := ∀ (k : Nat) (cs : Array Value) (t : TypeId) (fr : Nat × Nat), W.heap[k]? = some (Obj.cells cs t fr) → t ≠ 37 → W'.heap[k]? = some (Obj.cells cs t fr)
set_option maxHeartbeats 4000000 in
theorem put_at (W : World) (rb mb B B0 a z : Nat) (R : List (Nat × Nat)) (nx : Nat → Nat) (h : RmW W rb mb B a R nx) (hz : 0 < z) (hz2 : z ≤ 1048576) (ha0 : 0 < a) (ha : a ≤ 1048576) (hR : ∀ r ∈ R, r.1 ≤ 2097152 ∧ r.2 ≤ 1048576) (hl : R.length ≤ 100000) (hB0 : B0 ≤ B ∧ B0 ≤ mb) :
    Calls Try.prog 29 #[.pointer (some ⟨rb, 0, none⟩), .int .i64 (z : Nat)] W fun e W' =>
      (∃ i, i < R.length ∧ (∀ j, nx z ≤ j → j < i → roomB z (R.getD j (0, 0)) = false) ∧ nx z ≤ i ∧ roomB z (R.getD i (0, 0)) = true ∧ e = .returned (.tuple #[.int .i64 ((R.getD i (0, 0)).1 : Nat), .bool true]) ∧
        RmW W' rb mb B a (R.set i (upF ((R.getD i (0, 0)).1 + z) a, (R.getD i (0, 0)).2)) (fun y => if y = z then i else nx y) ∧ Below B0 W W' ∧ NoSp W W') ∨
      ((∀ j, nx z ≤ j → j < R.length → roomB z (R.getD j (0, 0)) = false) ∧ e = .returned (.tuple #[.int .i64 (-1), .bool false]) ∧ W' = W) := by
  have hz0 : (((z : Nat) : Int) == 0) = false := beq_eq_false_iff_ne.2 (by omega)
  have hlook := h.mp.look (z : Int)
  rw [Int.toNat_natCast] at hlook
  obtain ⟨v, hrow, hown⟩ := h.st
  obtain ⟨Av, cv, rfl⟩ := own_slice hown
  have HLn := hide (toI_len R)
  rw [HLn.out] at hrow
  have q0 : W.cell? ⟨rb, 0, none⟩ = some (.int .i64 (a : Nat)) := by rw [cell_of_row _ _ _ _ _ _ hrow]; rfl
  have q1 : W.cell? ⟨rb, 1, none⟩ = some (.slice Av R.length cv) := by rw [cell_of_row _ _ _ _ _ _ hrow]; rfl
  have q2 : W.cell? ⟨rb, 2, none⟩ = some (.map (some mb)) := by rw [cell_of_row _ _ _ _ _ _ hrow]; rfl
  have hrl : rb < W.heap.size := (Array.getElem?_eq_some_iff.1 hrow).1
  have HO := hide (show W.ownsRow B 37 2 (.slice Av R.length cv) R.length (flatA (toI R)) from by have := hown; unfold OwnA at this; rw [HLn.out] at this; exact this)
  have HMp := hide h.mp
  have HRow := hide hrow
  have HR := hide hR
  obtain ⟨M, hM⟩ : ∃ M, M = R.length := ⟨_, rfl⟩
  have HM := hide hM
  rw [← hM] at q1 hl
  obtain ⟨n0, hn0⟩ : ∃ n0, n0 = nx z := ⟨_, rfl⟩
  rw [← hn0] at hlook ⊢
  have HN0 := hide hn0
  clear h hrow hown hM hn0 hR
  go_enter Try.func29, Try.ntmps29
  go_wp2_with fail
  go_loop [6] (fun iv => ∃ i : Nat, n0 ≤ i ∧ (i ≤ M ∨ i = n0) ∧ iv = .int .i64 i ∧ ∀ j, n0 ≤ j → j < i → roomB z (R.getD j (0, 0)) = false) (fun iv => M - (intOf iv).toNat)
  case atStart => exact ⟨n0, Nat.le_refl _, .inr rfl, rfl, fun j h1 h2 => by omega⟩
  case round =>
    obtain ⟨i, hi1, hi2, rfl, hall⟩ := hrel
    have HA := hide hall
    by_cases hlt : i < M
    · have hil : i < R.length := by rw [← HM.out]; exact hlt
      obtain ⟨p0, p1⟩ := flatA_get (toI R) i (by rw [HLn.out]; exact hil)
      rw [show (toI R).getD i (0, 0) = (((R.getD i (0, 0)).1 : Int), ((R.getD i (0, 0)).2 : Int)) from by
        unfold toI
        rw [List.getD_eq_getElem?_getD, List.getD_eq_getElem?_getD, List.getElem?_map, List.getElem?_eq_getElem hil]; rfl] at p0 p1
      obtain ⟨gb, cc, e1, hgb, x0⟩ := own_cell HO.out p0
      obtain ⟨gb', cc', e2, _, x1⟩ := own_cell HO.out p1
      rw [e1] at e2
      cases e2
      cases e1
      obtain ⟨hb1, hb2⟩ := HR.out _ (show R.getD i (0, 0) ∈ R from by rw [List.getD_eq_getElem?_getD, List.getElem?_eq_getElem hil]; exact List.getElem_mem hil)
      have HHold := hide (show roomB z (R.getD i (0, 0)) = decide ((R.getD i (0, 0)).1 + z ≤ (R.getD i (0, 0)).2) from rfl)
      have hgm : gb ≠ mb := by
        intro e
        obtain ⟨_, _, cur, hc⟩ := own_block HO.out (k := gb) (by simp [Value.ownBlock])
        obtain ⟨ls, cl, hm, _⟩ := HMp.out
        rw [e] at hc
        rw [hm] at hc
        cases hc
      have hgr : gb ≠ rb := by
        intro e
        obtain ⟨_, _, cur, hc⟩ := own_block HO.out (k := gb) (by simp [Value.ownBlock])
        rw [e, HRow.out] at hc
        injection hc with hc
        injection hc with _ hc
        exact absurd hc (by decide)
      have hmr : rb ≠ mb := by
        intro e
        obtain ⟨ls, cl, hm, _⟩ := HMp.out
        have := HRow.out
        rw [e, hm] at this
        cases this
      have hgB : B ≤ gb := (own_block HO.out (k := gb) (by simp [Value.ownBlock])).2.1
      have hff : W.frozen? ⟨gb, i * 2, none⟩ = false := by
        obtain ⟨_, _, cur, hc⟩ := own_block HO.out (k := gb) (by simp [Value.ownBlock])
        simp [World.frozen?, hc]
      have HSet := hide (fun v => toI_set R i v (R.getD i (0, 0)).2 hil rfl)
      generalize hr : R.getD i (0, 0) = r at *
      have Hr := hide hr
      obtain ⟨F, T⟩ := r
      dsimp only at x0 x1 hb1 hb2 HHold HSet
      clear hr p0 p1 hall
      by_cases hh : F + z ≤ T
      · have HT := hide (show roomB z (F, T) = true by rw [HHold.out]; exact decide_eq_true hh)
        have hd : decide (((F : Nat) : Int) + (z : Int) ≤ (T : Int)) = true := decide_eq_true (by omega)
        have HUp := hide (up_at (F + z) a ha0 (by omega) ha W)
        rw [Int.natCast_add] at HUp
        have hul := upF_lt (n := F + z) ha0
        generalize hu : upF (F + z) a = u at *
        have hNx := HMp.out.same (W' := W.setCell ⟨gb, i * 2, none⟩ (.int .i64 (u : Nat))) (setCell_other (fun e => hgm e.symm))
        obtain ⟨o, ho, hup, hnew⟩ := hNx.set (z : Int) (i : Int)
        rw [nx_fun hz] at hnew
        have HNew := hide hnew
        have HOw := hide (own_put HO.out (i * 2) (.int .i64 (u : Nat)))
        rw [HSet.out] at HOw
        have q0' : (W.setCell ⟨gb, i * 2, none⟩ (.int .i64 (u : Nat))).cell? ⟨rb, 2, none⟩ = some (.map (some mb)) := by
          rw [cell_of_row _ _ _ _ _ _ ((setCell_other (fun e => hgr e.symm)).trans HRow.out)]; rfl
        have hrl' : rb < (W.setCell ⟨gb, i * 2, none⟩ (.int .i64 (u : Nat))).heap.size := by simpa using hrl
        have HU := hide hu
        have HMq := HMp
        clear hnew hNx hu HMp
        go_wp2_with fail
        refine HUp.out.mono ?_
        rintro e w1 ⟨rfl, rfl⟩
        go_wp2_with fail
        go_ret2
        refine .inl ⟨i, hil, HA.out, hi1, by rw [Hr.out]; exact HT.out, by rw [Hr.out]; rfl, ⟨HNew.out, .slice (some ⟨gb, 0, none⟩) R.length cv, ?_, ?_⟩, ?_, ?_⟩
        · rw [putM_other hmr, setCell_other (fun e => hgr e.symm)]
          exact HRow.out
        · rw [Hr.out]
          dsimp only
          rw [HU.out]
          have := own_stands HOw.out (W' := putM (W.setCell ⟨gb, i * 2, none⟩ (.int .i64 (u : Nat))) mb o) fun k hk => by
            simp [Value.ownBlock] at hk
            subst hk
            exact putM_other hgm
          unfold OwnA
          rw [toI_len, List.length_set]
          exact this
        · exact below_putM ((Below.refl _ _).setCell (p := ⟨gb, i * 2, none⟩) (by show B0 ≤ gb; omega) _) hB0.2
        · intro k cs t fr hk ht
          rw [putM_other (fun e => by
            obtain ⟨ls, cl, hm, _⟩ := HMq.out
            rw [e, hm] at hk; cases hk), setCell_other (fun e => by
            obtain ⟨_, _, cur, hc⟩ := own_block HO.out (k := gb) (by simp [Value.ownBlock])
            rw [e, hc] at hk
            cases hk
            exact ht rfl)]
          exact hk
      · have HT := hide (show roomB z (F, T) = false by rw [HHold.out]; exact decide_eq_false hh)
        have hd : decide (((F : Nat) : Int) + (z : Int) ≤ (T : Int)) = false := decide_eq_false (by omega)
        go_wp2_with fail
        go_round
        case rel =>
          refine ⟨i + 1, by omega, .inl (by omega), by go_num, fun j h1 h2 => ?_⟩
          rcases Nat.lt_succ_iff_lt_or_eq.1 h2 with h3 | rfl
          · exact HA.out j h1 h3
          · rw [Hr.out]; exact HT.out
        case measure => simp [intOf]; omega
    · have hd : decide ((i : Int) < (M : Int)) = false := decide_eq_false (by omega)
      clear hall
      go_wp2_with fail
      go_ret2
      exact .inr ⟨fun j h1 h2 => HA.out j h1 (by have := HM.out; omega), rfl, rfl⟩
theorem put0_at (W : World) (rb : Nat) : Calls Try.prog 29 #[.pointer (some ⟨rb, 0, none⟩), .int .i64 0] W fun e W' => e = .returned (.tuple #[.int .i64 0, .bool true]) ∧ W = W' := by
  go_enter Try.func29, Try.ntmps29
  go_wp2_with fail
  go_ret2
  exact ⟨rfl, rfl⟩
end Go.Proofs.Ytpnpbnfjhnmhjaa
