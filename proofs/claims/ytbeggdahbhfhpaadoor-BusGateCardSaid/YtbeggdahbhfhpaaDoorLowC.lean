/-
  The iterator over a number's lowest bytes: its maker, and what a range over it may count on.
-/
import Derived.Test.YtbeggdahbhfhpaaDoorBaseC
import Derived.RangeFuncNested
import Derived.RangeFuncBound
import Derived.RangeFuncCalls
import Derived.RangeFuncLeaves
import Derived.RangeFuncBox
import Derived.Shelf.Abstract
import Derived.Shelf.RegionOpen
import Derived.OwnWalkIn
import Derived.TacticsInMore
import Derived.LoopNIn
import Derived.LoopIn
namespace Go.Proofs.YtbeggdahbhfhpaaDoor
open Go.RowKit Go.Shelf
attribute [local go_sem] Oper.semAt_some
set_option linter.unusedVariables false

/-- a place and a byte -/
abbrev PB (c : Nat) := { x : Nat × Nat // x.1 < c + 1 ∧ x.2 < 256 }
def pbOf (c n k : Nat) : PB c := ⟨(k % (c + 1), n / 2 ^ (8 * k) % 256), Nat.mod_lt _ (Nat.succ_pos _), Nat.mod_lt _ (by decide)⟩
def upto {α : Type} (f : Nat → α) (k : Nat) : List α := (List.range k).map f
theorem upto_succ {α : Type} (f : Nat → α) (k : Nat) : upto f (k + 1) = upto f k ++ [f k] := by simp [upto, List.range_succ]
theorem upto_length {α : Type} (f : Nat → α) (k : Nat) : (upto f k).length = k := by simp [upto]
def pbEnc {c : Nat} (x : PB c) : Array Value := #[.int .i64 (x.1.1 : Int), .int .u8 (x.1.2 : Int)]

set_option maxHeartbeats 400000 in
theorem low_any (n : Nat) (c : Int) (w : World) :
    Calls Tryd.prog 81 #[.int .u64 n, .int .i64 c] w fun e w' =>
      e = .returned (.func (.func 121) #[] #[.pointer (some ⟨w.heap.size + 1, 0, none⟩), .pointer (some ⟨w.heap.size, 0, none⟩)]) ∧
      w' = (w.alloc (.cells #[.int .u64 n] 69)).alloc (.cells #[.int .i64 c] 3) := by
  go_enter Tryd.func81, Tryd.ntmps81
  go_wp2
  go_ret
  exact ⟨rfl, rfl⟩

/-- the two boxes of the iterator are as they were -/
def KBox (Bn Bc : Nat) (W W' : World) : Prop := W'.cell? ⟨Bn, 0, none⟩ = W.cell? ⟨Bn, 0, none⟩ ∧ W'.cell? ⟨Bc, 0, none⟩ = W.cell? ⟨Bc, 0, none⟩
theorem KBox.refl (Bn Bc : Nat) (W : World) : KBox Bn Bc W W := ⟨rfl, rfl⟩
theorem KBox.trans {Bn Bc : Nat} {A B C : World} (h : KBox Bn Bc A B) (k : KBox Bn Bc B C) : KBox Bn Bc A C := ⟨k.1.trans h.1, k.2.trans h.2⟩
theorem cell_putObj_other (W : World) (l k : Nat) (o : Obj) (h : k ≠ l) : (W.putObj l o).cell? ⟨k, 0, none⟩ = W.cell? ⟨k, 0, none⟩ := by
  simp [World.cell?, World.putObj_heap_other h]
theorem KBox.put {Bn Bc l : Nat} (W : World) (o : Obj) (h1 : Bn < l) (h2 : Bc < l) : KBox Bn Bc W (W.putObj l o) :=
  ⟨cell_putObj_other W l Bn o (by omega), cell_putObj_other W l Bc o (by omega)⟩
theorem KBox.of_below {Bn Bc n₀ : Nat} {W W' : World} (h : Below n₀ W W') (h1 : Bn < n₀) (h2 : Bc < n₀) : KBox Bn Bc W W' :=
  ⟨h.cell (p := ⟨Bn, 0, none⟩) h1, h.cell (p := ⟨Bc, 0, none⟩) h2⟩

set_option maxRecDepth 100000 in
set_option maxHeartbeats 1000000 in
theorem low1_in (d l Bn Bc n c : Nat) (hcnt : c < 8) (hn : n < 18446744073709551616) (J Jx : List (PB c) → World → Prop)
    (hY : ∀ pre x W, J pre W → pre.length < c + 1 → YieldAt Fence.wide (d - 1) Tryd.prog l (pbEnc x) W fun e W' =>
      (e = .returned (.bool true) ∧ J (pre ++ [x]) W' ∧ KBox Bn Bc W W') ∨ (e = .returned (.bool false) ∧ Jx (pre ++ [x]) W'))
    (W : World) (hN : W.cell? ⟨Bn, 0, none⟩ = some (.int .u64 n)) (hC : W.cell? ⟨Bc, 0, none⟩ = some (.int .i64 ((c + 1 : Nat) : Int))) (h0 : J [] W) :
    CallsIn Fence.wide d Tryd.prog 121 #[.func (.yield l) #[] #[], .pointer (some ⟨Bc, 0, none⟩), .pointer (some ⟨Bn, 0, none⟩)] W fun e W' => (∃ v, e = .returned v) ∧
      ((∃ ys, ys = upto (pbOf c n) (c + 1) ∧ J ys W') ∨ (∃ pre, (∃ k, k ≤ c + 1 ∧ pre = upto (pbOf c n) k) ∧ Jx pre W')) := by
  refine callsIn_of_wp Tryd.func121 rfl trivial ?_ rfl
  simp only [Tryd.ntmps121, List.size_toArray, List.length_cons, List.length_nil, Nat.reduceAdd, Nat.reduceSub, Array.replicate_succ, Array.replicate_zero, List.push_toArray, List.append_toArray, List.nil_append, List.cons_append]
  gi_wp2
  gi_loopw [6, 4] (fun i _ wr => ∃ k : Nat, k ≤ c + 1 ∧ i = .int .i64 k ∧ J (upto (pbOf c n) k) wr ∧ KBox Bn Bc W wr)
    (fun i _ _ => c + 1 - (intOf i).toNat)
  case atStart => exact ⟨0, Nat.zero_le _, rfl, h0, KBox.refl _ _ _⟩
  case round =>
    obtain ⟨k, hk, rfl, hJs, hnx⟩ := hrel
    by_cases hlt : k < c + 1
    · obtain ⟨fn, tmps, assign, body, hy, hR⟩ := hY _ (pbOf c n k) wr hJs (by rw [upto_length]; exact hlt)
      have hy2 : (Instr.yield l #[.int .i64 (k : Int), .int .u8 ((n : Int) / 2 ^ (8 * k) % 256)]).run Tryd.prog wr = .ok (.round l fn tmps assign body) wr := by
        have e1 : ((k % (c + 1) : Nat) : Int) = (k : Int) := by rw [Nat.mod_eq_of_lt hlt]
        have e2 : ((n / 2 ^ (8 * k) % 256 : Nat) : Int) = (n : Int) / 2 ^ (8 * k) % 256 := by simp
        have hy3 := hy
        dsimp only [pbEnc, pbOf] at hy3
        rw [e1, e2] at hy3
        exact hy3
      clear hy
      have hcn := hnx.1.trans hN
      have hcc := hnx.2.trans hC
      gi_wp2
      refine ⟨(fun h => by cases h), hR.mono ?_⟩
      rintro e W3 (⟨rfl, hJ3, hk3⟩ | ⟨rfl, hJx3⟩)
      · gi_wp2
        go_roundw
        case rel => exact ⟨k + 1, by omega, by go_num, by rw [upto_succ]; exact hJ3, hnx.trans hk3⟩
        case measure => simp [intOf]; omega
      · gi_wp2
        refine bodyPost_ret (results_none rfl _ _ _) rfl ?_
        exact ⟨⟨_, rfl⟩, .inr ⟨_, ⟨k + 1, by omega, (upto_succ _ _).symm⟩, hJx3⟩⟩
    · obtain rfl : k = c + 1 := by omega
      gi_wp2
      go_end0
      exact ⟨⟨_, rfl⟩, .inl ⟨_, rfl, hJs⟩⟩

/-- the iterator's contract, as a range over it takes it -/
theorem low_stops (d Bn Bc n c : Nat) (hcnt : c < 8) (hn : n < 18446744073709551616) (w : World) (hbn : Bn < w.heap.size) (hbc : Bc < w.heap.size)
    (hN : w.cell? ⟨Bn, 0, none⟩ = some (.int .u64 n)) (hC : w.cell? ⟨Bc, 0, none⟩ = some (.int .i64 ((c + 1 : Nat) : Int))) :
    SeqStopsK Fence.wide d Tryd.prog 121 #[.pointer (some ⟨Bc, 0, none⟩), .pointer (some ⟨Bn, 0, none⟩)] pbEnc (KBox Bn Bc) (fun ys => ys = upto (pbOf c n) (c + 1))
      (fun pre => ∃ k, k ≤ c + 1 ∧ pre = upto (pbOf c n) k) (c + 1) w := fun l J Jx W hW _ _ hY h0 =>
  low1_in d l Bn Bc n c hcnt hn J Jx hY W ((hW.cell (p := ⟨Bn, 0, none⟩) hbn).trans hN) ((hW.cell (p := ⟨Bc, 0, none⟩) hbc).trans hC) h0

/-- **A RANGE OVER A NUMBER's LOWEST BYTES, in a plain walk.** -/
theorem wp_low {g : Operand} {ps : Array Tmp} {assign body : Code} {Q : Exit → Act → World → Prop} {a : Act} {w : World} (n c Bn Bc : Nat) (hcnt : c < 8) (hn : n < 18446744073709551616)
    (hg : a.eval g = .func (.func 121) #[] #[.pointer (some ⟨Bc, 0, none⟩), .pointer (some ⟨Bn, 0, none⟩)]) (hbn : Bn < w.heap.size) (hbc : Bc < w.heap.size)
    (hN : w.cell? ⟨Bn, 0, none⟩ = some (.int .u64 n)) (hC : w.cell? ⟨Bc, 0, none⟩ = some (.int .i64 ((c + 1 : Nat) : Int))) (hps : ps.size = 2)
    (I : List (PB c) → World → Prop) (Ix : Code → List (PB c) → World → Prop) (hI : OwnFrom w.heap.size I) (hIx : ∀ j, OwnFrom w.heap.size (Ix j)) (h0 : I [] w) (a₁ : PB c → Act)
    (hassign : ∀ (l : Nat) (x : PB c) (W : World) (K : Act → World → Prop), K (a₁ x) W →
      assign.wpIn (Fence.wide.inRound l) 0 Tryd.prog (Exit.then K (fun _ _ _ => False)) { tmps := (ps.zip #[Value.int .i64 (x.1.1 : Int), Value.int .u8 (x.1.2 : Int)]).foldl (fun t (p, v) => t.setIfInBounds p v) a.tmps, defers := [] } W)
    (hbody : ∀ (l : Nat) (pre : List (PB c)) (x : PB c) (W : World), I pre W → pre.length < c + 1 → body.wpIn (Fence.wide.inRound l) 0 Tryd.prog (ownPostK (KBox Bn Bc) I Ix (pre ++ [x]) W) (a₁ x) W)
    (hdone : ∀ (D : Nat) (W : World), w.heap.size ≤ D → I (upto (pbOf c n) (c + 1)) W → W.heap[D]? = some (.deferred (some [])) → Q .normal { a with defers := { target := .collected D, args := #[] } :: a.defers } W)
    (hstop : ∀ (D : Nat) (j : Code) (k : Nat) (W : World), w.heap.size ≤ D → k ≤ c + 1 → Ix j (upto (pbOf c n) k) W → W.heap[D]? = some (.deferred (some [])) → j.wp Tryd.prog Q { a with defers := { target := .collected D, args := #[] } :: a.defers } W) :
    (Code.rangeFunc g ps assign body).wp Tryd.prog Q a w := by
  refine (wpIn_wide (n := 2)).1 ?_
  refine wpIn_rangeFunc_ownF rfl (by omega) hg trivial (enters_of Tryd.func121 (by kernel_rfl) rfl) (low_stops (2 - 1) Bn Bc n c hcnt hn w hbn hbc hN hC)
    (fun h k => h.trans k) (fun W l o o' hl _ _ _ => KBox.put W o' (by omega) (by omega)) (Below.refl _ _) (fun _ => hps.symm) I Ix hI hIx h0 a₁ hassign hbody ?_ ?_
  · rintro D ys W hD rfl hi hK
    exact hdone D W hD hi hK
  · rintro D j pre W hD ⟨k, hk, rfl⟩ hi hK
    exact (wpIn_wide (n := 2)).2 (hstop D j k W hD hk hi hK)

theorem cell_put {W : World} {D : Nat} (hK : W.heap[D]? = some (.deferred (some []))) (o : Obj) {a : Addr} {v : Value} (h : W.cell? a = some v) : (W.putObj D o).cell? a = some v :=
  cell_kept h (grownBy_putObj' W D o) (fun r e => by cases e; exact ⟨_, hK, rfl⟩)
end Go.Proofs.YtbeggdahbhfhpaaDoor
