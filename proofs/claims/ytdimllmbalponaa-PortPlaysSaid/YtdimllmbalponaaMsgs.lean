/-
  The iterator over a box's messages, left at the first one.
-/
import Derived.Test.YtdimllmbalponaaRange
import Derived.LoopIn
import Derived.LoopNIn
import Derived.TacticsInMore
import Derived.OwnWalkIn
import Derived.Shelf.RegionOpen
import Derived.RangeFuncCalls
namespace Go.Proofs.Ytdimllmbalponaa
open Go.RowKit Go.Shelf
attribute [local go_sem] Oper.semAt_some
set_option linter.unusedVariables false

set_option maxHeartbeats 400000 in
theorem messages_at (b : Nat) (w : World) : Calls Try.prog 35 #[.pointer (some ⟨b, 0, none⟩)] w fun e w' =>
    e = .returned (.func (.func 40) #[] #[.pointer (some ⟨w.heap.size, 0, none⟩)]) ∧ w' = w.alloc (.cells #[.pointer (some ⟨b, 0, none⟩)] 25) := by
  go_enter Try.func35, Try.ntmps35
  go_wp2
  go_ret
  exact ⟨rfl, rfl⟩

set_option maxRecDepth 100000 in
set_option maxHeartbeats 1000000 in
theorem messages1_first (d l Bb b h n cap sz c : Nat) (ad : Addr) (z : Int) (bts : List Nat) (W : World) (R : Ending → World → Prop) (hn : 0 < n) (hB : W.cell? ⟨Bb, 0, none⟩ = some (.pointer (some ⟨b, 0, none⟩))) (hh : W.cell? ⟨b, 13, none⟩ = some (.slice (some ⟨h, 0, none⟩) n cap))
    (h0 : W.cell? ⟨h, 0, none⟩ = some (.slice (some ad) sz c)) (h1 : W.cell? ⟨h, 1, none⟩ = some (.int .i64 z)) (hs : bts.length = sz) (hm : sz ≤ 1000000) (hby : Bytes W (some ad) bts)
    (hY : ∀ W1 g' c', Below W.heap.size W W1 → OwnS W1 W.heap.size g' sz c' bts → YieldAt Fence.wide (d - 1) Try.prog l #[.agg #[.slice (some ⟨g', 0, none⟩) sz c', .int .i64 z]] W1 fun e W' => e = .returned (.bool false) ∧ ∀ v, R (.returned v) W') :
    CallsIn Fence.wide d Try.prog 40 (#[.func (.yield l) #[] #[]] ++ #[.pointer (some ⟨Bb, 0, none⟩)]) W R := by
  have hz := (zero_of_info info_msg).1
  refine callsIn_of_wp Try.func40 rfl trivial ?_ rfl
  simp only [Try.ntmps40, List.size_toArray, List.length_cons, List.length_nil, Nat.reduceAdd, Nat.reduceSub, Array.replicate_succ, Array.replicate_zero, List.push_toArray, List.append_toArray, List.nil_append, List.cons_append]
  gi_wp2
  gi_loopw [10] (fun i wr => i = .int .i64 0 ∧ wr = W) (fun _ _ => 0)
  case atStart => exact ⟨rfl, rfl⟩
  case round =>
    obtain ⟨rfl, rfl⟩ := hrel
    gi_wp2
    refine ⟨trivial, (fun h => by cases h), callsIn_wide.2 ((copied_at bts sz ad c z (wr.alloc (.cells #[.slice (some ad) sz c, .int .i64 z] 76)) hs hm (hby.of_below (bal wr _) (Nat.le_refl _))).mono ?_)⟩
    rintro e W1 ⟨g', c', rfl, ho, hb1⟩
    have hb2 : Below wr.heap.size wr W1 := (bal wr _).trans (hb1.mono (by simp))
    obtain ⟨fn, tmps, assign, body, hy, hR⟩ := hY W1 g' c' hb2 (ho.from (by have := ho.base; simp at this; omega))
    clear hY hb1 hb2 ho hB hh h0 h1 hby
    gi_wp2
    refine ⟨(fun h => by cases h), hR.mono ?_⟩
    rintro e W3 ⟨rfl, hq⟩
    gi_wp2
    exact bodyPost_ret (results_none rfl _ _ _) rfl (hq _)

set_option maxRecDepth 100000 in
set_option maxHeartbeats 1000000 in
theorem messages1_none (d l Bb b cap : Nat) (A : Option Addr) (W : World) (R : Ending → World → Prop) (hB : W.cell? ⟨Bb, 0, none⟩ = some (.pointer (some ⟨b, 0, none⟩))) (hh : W.cell? ⟨b, 13, none⟩ = some (.slice A 0 cap))
    (hR : ∀ v, R (.returned v) W) :
    CallsIn Fence.wide d Try.prog 40 (#[.func (.yield l) #[] #[]] ++ #[.pointer (some ⟨Bb, 0, none⟩)]) W R := by
  refine callsIn_of_wp Try.func40 rfl trivial ?_ rfl
  simp only [Try.ntmps40, List.size_toArray, List.length_cons, List.length_nil, Nat.reduceAdd, Nat.reduceSub, Array.replicate_succ, Array.replicate_zero, List.push_toArray, List.append_toArray, List.nil_append, List.cons_append]
  gi_wp2
  gi_loopw [10] (fun i wr => i = .int .i64 0 ∧ wr = W) (fun _ _ => 0)
  case atStart => exact ⟨rfl, rfl⟩
  case round =>
    obtain ⟨rfl, rfl⟩ := hrel
    gi_wp2
    go_end0
    exact hR _
end Go.Proofs.Ytdimllmbalponaa
