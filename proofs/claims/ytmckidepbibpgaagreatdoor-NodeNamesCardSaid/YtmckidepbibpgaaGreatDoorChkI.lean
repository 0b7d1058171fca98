/-
  Do two spans of one list meet? The iterator over each two of a list.
-/
import Derived.Test.YtmckidepbibpgaaGreatDoorChkF
import Derived.RangeFuncLeaves
import Derived.RangeFuncIn
import Derived.RangeFuncRecord
import Derived.RangeFuncSeq
import Derived.RangeFuncNested
import Derived.RangeFuncBound
import Derived.RangeFuncBox
import Derived.RangeFuncCalls
import Derived.TacticsInMore
import Derived.TacticsIn
import Derived.LoopNIn
import Derived.LoopIn
namespace Go.Proofs.YtmckidepbibpgaaGreatDoor
open Go.RowKit Go.Deep
attribute [local go_sem] Oper.semAt_some
set_option linter.unusedVariables false

structure Sp where
  lo : Int
  hi : Int
deriving Inhabited, DecidableEq
def Spans (w : World) (A : Option Addr) (l : List Sp) : Prop :=
  Lies w A l.length 2 fun i b o => w.cell? ⟨b, o, none⟩ = some (.int .i64 (l.getD i default).lo) ∧ w.cell? ⟨b, o + 1, none⟩ = some (.int .i64 (l.getD i default).hi)
theorem Spans.of_below {w w' : World} {A : Option Addr} {l : List Sp} {B : Nat} (h : Spans w A l) (hb : Below B w w') (hB : w.heap.size ≤ B) : Spans w' A l :=
  Lies.of_below h hb hB fun _ _ _ _ hlt ⟨h0, h1⟩ => ⟨cell_below hb hB hlt h0, cell_below hb hB hlt h1⟩
theorem Spans.at {w : World} {A : Option Addr} {l : List Sp} (h : Spans w A l) {k : Nat} (hk : k < l.length) :
    ∃ b off, A = some ⟨b, off, none⟩ ∧ b < w.heap.size ∧ w.cell? ⟨b, off + k * 2, none⟩ = some (.int .i64 (l.getD k default).lo) ∧ w.cell? ⟨b, off + k * 2 + 1, none⟩ = some (.int .i64 (l.getD k default).hi) := by
  rcases h with h0 | ⟨b, off, rfl, hlt, hc⟩
  · omega
  · exact ⟨b, off, rfl, hlt, hc k hk⟩
theorem Spans.here {w : World} {b off : Nat} {l : List Sp} (h : Spans w (some ⟨b, off, none⟩) l) {k : Nat} (hk : k < l.length) :
    w.cell? ⟨b, off + k * 2, none⟩ = some (.int .i64 (l.getD k default).lo) ∧ w.cell? ⟨b, off + k * 2 + 1, none⟩ = some (.int .i64 (l.getD k default).hi) := by
  obtain ⟨b', off', e, _, h⟩ := h.at hk
  cases e
  exact h

theorem pairs_any (A : Option Addr) (n m : Nat) (w : World) : Calls Tryz.prog 268 #[.slice A n m] w fun e w' =>
    e = .returned (.func (.func 285) #[] #[.pointer (some ⟨w.heap.size, 0, none⟩)]) ∧ w' = w.alloc (.cells #[.slice A n m] 319) := by
  go_enter Tryz.func268, Tryz.ntmps268
  go_wp2
  go_ret
  exact ⟨rfl, rfl⟩

set_option maxRecDepth 100000 in
set_option maxHeartbeats 2000000 in
theorem pairs1_all (l : List Sp) (A : Option Addr) (m : Nat) (d lr Bb : Nat) (W : World) (R : Ending → World → Prop) (I : Nat → Nat → World → Prop) (hZ : ∀ i j W', I i j W' → W.heap.size ≤ W'.heap.size) (hn : l.length ≤ m) (hm : m ≤ maxLen) (h0 : I 0 0 W)
    (hX : ∀ i j W', I i j W' → W'.cell? ⟨Bb, 0, none⟩ = some (.slice A l.length m) ∧ Spans W' A l)
    (hK : ∀ i j W1 W2, I i j W1 → Below W1.heap.size W1 W2 → I i j W2) (hN : ∀ i W', i < l.length → I i i W' → I (i + 1) 0 W')
    (hY : ∀ i j W1, j < i → i < l.length → I i j W1 → YieldAt Fence.wide (d - 1) Tryz.prog lr #[.agg #[.int .i64 (l.getD j default).lo, .int .i64 (l.getD j default).hi], .agg #[.int .i64 (l.getD i default).lo, .int .i64 (l.getD i default).hi]] W1 fun e W' =>
      (e = .returned (.bool true) ∧ I i (j + 1) W' ∧ W1.heap.size ≤ W'.heap.size ∧ ∀ q, W.heap.size ≤ q → q < W1.heap.size → W'.heap[q]? = W1.heap[q]?) ∨ (e = .returned (.bool false) ∧ ∀ v, R (.returned v) W'))
    (hR : ∀ W' v, I l.length 0 W' → R (.returned v) W') :
    CallsIn Fence.wide d Tryz.prog 285 (#[.func (.yield lr) #[] #[]] ++ #[.pointer (some ⟨Bb, 0, none⟩)]) W R := by
  have hm2 : m ≤ 9223372036854775807 := hm
  obtain ⟨hB, hS⟩ := hX 0 0 W h0
  have HZ := hide hZ; have H0 := hide h0; have HX := hide hX; have HK := hide hK; have HN := hide hN; have HY := hide hY
  clear hZ h0 hX hK hN hY hS
  refine callsIn_of_wp Tryz.func285 rfl trivial ?_ rfl
  simp only [Tryz.ntmps285, List.size_toArray, List.length_cons, List.length_nil, Nat.reduceAdd, Nat.reduceSub, Array.replicate_succ, Array.replicate_zero, List.push_toArray, List.append_toArray, List.nil_append, List.cons_append]
  gi_wp2
  gi_loopw [9] (fun i wr => ∃ k : Nat, k ≤ l.length ∧ i = .int .i64 k ∧ I k 0 wr) (fun i _ => l.length - (intOf i).toNat)
  case atStart => exact ⟨0, by omega, rfl, H0.out⟩
  case round =>
    obtain ⟨k, hk, rfl, hi⟩ := hrel
    rename World => wo
    have HI := hide hi
    clear hi H0 hB
    by_cases hlt : k < l.length
    · obtain ⟨hB, hS⟩ := HX.out k 0 wo HI.out
      obtain ⟨b, off, hA, hbl, x0, x1⟩ := hS.at hlt
      subst hA
      obtain ⟨lo, hlo⟩ : ∃ z, (l.getD k default).lo = z := ⟨_, rfl⟩
      obtain ⟨hh, hhi⟩ : ∃ z, (l.getD k default).hi = z := ⟨_, rfl⟩
      rw [hlo] at x0
      rw [hhi] at x1
      have HLO := hide hlo; have HHI := hide hhi
      clear hS hlo hhi
      have hbx := (Below.refl wo.heap.size wo).alloc (Nat.le_refl _) (.cells #[.int .i64 lo, .int .i64 hh] 321)
      have HI1 := hide (HK.out k 0 wo _ HI.out hbx)
      have hB1 := (HX.out k 0 _ HI1.out).1
      have hkm : (k : Int) ≤ (m : Int) := by omega
      gi_wp2
      have hzw := HZ.out k 0 wo HI.out
      have hnew := heap_alloc_new wo (.cells #[.int .i64 lo, .int .i64 hh] 321)
      clear hB hB1 x0 x1 hbx
      gi_loopw [18] (fun i wq => ∃ j : Nat, j ≤ k ∧ i = .int .i64 j ∧ I k j wq ∧ wo.heap.size < wq.heap.size ∧ wq.heap[wo.heap.size]? = some (.cells #[.int .i64 lo, .int .i64 hh] 321 (0, 0))) (fun i _ => k - (intOf i).toNat)
      case atStart => exact ⟨0, by omega, rfl, HI1.out, alloc_lt _ _, hnew⟩
      case round =>
        obtain ⟨j, hj, rfl, hi2, hsz, hbox⟩ := hrel
        have HI2 := hide hi2
        clear hi2 hnew HI1
        by_cases hjk : j < k
        · obtain ⟨hB2, hS2⟩ := HX.out k j wr HI2.out
          obtain ⟨y0, y1⟩ := hS2.here (k := j) (by omega)
          obtain ⟨lo2, hlo2⟩ : ∃ z, (l.getD j default).lo = z := ⟨_, rfl⟩
          obtain ⟨hh2, hhi2⟩ : ∃ z, (l.getD j default).hi = z := ⟨_, rfl⟩
          rw [hlo2] at y0
          rw [hhi2] at y1
          have hbq := (Below.refl wr.heap.size wr).alloc (Nat.le_refl _) (.cells #[.int .i64 lo2, .int .i64 hh2] 321)
          have hbox2 := (hbq.block _ hsz).trans hbox
          have z0 : (wr.alloc (.cells #[.int .i64 lo2, .int .i64 hh2] 321)).cell? ⟨wo.heap.size, 0, none⟩ = some (.int .i64 lo) := by simp [World.cell?, hbox2]
          have z1 : (wr.alloc (.cells #[.int .i64 lo2, .int .i64 hh2] 321)).cell? ⟨wo.heap.size, 1, none⟩ = some (.int .i64 hh) := by simp [World.cell?, hbox2]
          obtain ⟨fn, tmps, assign, body, hy, hRR⟩ := HY.out k j _ hjk hlt (HK.out k j wr _ HI2.out hbq)
          rw [HLO.out, HHI.out, hlo2, hhi2] at hy
          have HBX := hide hbox2
          have hgr := alloc_lt wr (.cells #[.int .i64 lo2, .int .i64 hh2] 321)
          have HGR := hide hgr
          clear hB2 hS2 hbq hbox2 hbox hlo2 hhi2 hgr
          gi_wp2
          refine ⟨(fun h => by cases h), hRR.mono ?_⟩
          rintro e W3 (⟨rfl, hi3, hs3, hk3⟩ | ⟨rfl, hr3⟩)
          · have HI3 := hide hi3
            have HB3 := hide ((hk3 wo.heap.size hzw (by have := HGR.out; omega)).trans HBX.out)
            have HS3 : Hid (wo.heap.size < W3.heap.size) := by
              show _ < _
              have := HGR.out
              omega
            clear hi3 hk3 hs3 hy hRR z0 z1 y0 y1
            gi_wp2
            go_roundw
            case rel => exact ⟨j + 1, by omega, by go_num, HI3.out, HS3.out, HB3.out⟩
            case measure => simp [intOf]; omega
          · have HR3 := hide hr3
            clear hr3 hy hRR z0 z1 y0 y1
            gi_wp2
            refine bodyPost_ret (results_none rfl _ _ _) rfl ?_
            exact HR3.out _
        · obtain rfl : j = k := by omega
          have HI3 := hide (HN.out j wr hlt HI2.out)
          gi_wp2
          go_roundw
          case rel => exact ⟨j + 1, by omega, by go_num, HI3.out⟩
          case measure => simp [intOf]; omega
    · obtain rfl : k = l.length := by omega
      gi_wp2
      go_end0
      exact hR _ _ HI.out
end Go.Proofs.YtmckidepbibpgaaGreatDoor
