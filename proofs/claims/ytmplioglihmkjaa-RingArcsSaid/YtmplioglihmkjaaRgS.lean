/-
  The places of an arc, told by an iterator: its maker, and what a range over it may count on.
-/
import Derived.Test.YtmplioglihmkjaaRgR
namespace Go.Proofs.Ytmplioglihmkjaa
open Go.RowKit Go.Shelf
attribute [local go_sem] Oper.semAt_some
set_option linter.unusedVariables false
set_option linter.unusedSimpArgs false

theorem plmk_at (f g n : Int) (w : World) :
    Calls Try.prog 42 #[.agg #[.int .i64 f, .int .i64 g], .int .i64 n] w fun e w' =>
      e = .returned (.func (.func 56) #[] #[.pointer (some ⟨w.heap.size, 0, none⟩), .pointer (some ⟨w.heap.size + 1, 0, none⟩)]) ∧ w' = (w.alloc (.cells #[.int .i64 f, .int .i64 g] 41)).alloc (.cells #[.int .i64 n] 3) := by
  go_enter Try.func42, Try.ntmps42
  go_wp2
  go_ret
  exact ⟨rfl, rfl⟩

abbrev PE (n : Nat) := { x : Nat // x < n }
def plL (n : Nat) (hn : 0 < n) (f m : Nat) : List (PE n) := (List.range m).map fun j => ⟨(f + j) % n, Nat.mod_lt _ hn⟩
def peEnc {n : Nat} (x : PE n) : Array Value := #[.int .i64 (x.1 : Nat)]
theorem plL_len {n : Nat} {hn : 0 < n} {f m : Nat} : (plL n hn f m).length = m := by simp [plL]
theorem plL_take {n : Nat} {hn : 0 < n} {f m k : Nat} (h : k ≤ m) : (plL n hn f m).take k = plL n hn f k := by
  unfold plL
  rw [← List.map_take, List.take_range, Nat.min_eq_left h]
theorem plL_succ {n : Nat} {hn : 0 < n} {f k : Nat} : plL n hn f (k + 1) = plL n hn f k ++ [⟨(f + k) % n, Nat.mod_lt _ hn⟩] := by
  unfold plL; rw [List.range_succ, List.map_append]; rfl

/-- the size of the ring stays where it was captured -/
def KNn (b : Nat) (n : Nat) (W W' : World) : Prop := W.heap[b]? = some (.cells #[.int .i64 (n : Nat)] 3 (0, 0)) → W'.heap[b]? = some (.cells #[.int .i64 (n : Nat)] 3 (0, 0))
theorem KNn.refl (b n : Nat) (W : World) : KNn b n W W := id

set_option maxRecDepth 100000 in
set_option maxHeartbeats 1000000 in
theorem pl1_in (d l bA bN n : Nat) (hn : 0 < n) (hn2 : n ≤ 1048576) (f : Nat) (hf : f < n) (g : Int) (hg : g ≤ 4000000) (J Jx : List (PE n) → World → Prop)
    (hY : ∀ pre x W, J pre W → pre.length < g.toNat → YieldAt Fence.wide (d - 1) Try.prog l (peEnc x) W fun e W' =>
      (e = .returned (.bool true) ∧ J (pre ++ [x]) W' ∧ KNn bN n W W') ∨ (e = .returned (.bool false) ∧ Jx (pre ++ [x]) W'))
    (W : World) (hA : W.heap[bA]? = some (.cells #[.int .i64 (f : Nat), .int .i64 g] 41 (0, 0))) (hN : W.heap[bN]? = some (.cells #[.int .i64 (n : Nat)] 3 (0, 0))) (h0 : J [] W) :
    CallsIn Fence.wide d Try.prog 56 #[.func (.yield l) #[] #[], .pointer (some ⟨bA, 0, none⟩), .pointer (some ⟨bN, 0, none⟩)] W fun e W' => (∃ v, e = .returned v) ∧
      ((∃ ys, ys = plL n hn f g.toNat ∧ J ys W') ∨ (∃ pre, (∃ k, k ≤ g.toNat ∧ pre = plL n hn f k) ∧ Jx pre W')) := by
  refine callsIn_of_wp Try.func56 rfl trivial ?_ rfl
  simp only [Try.ntmps56, List.size_toArray, List.length_cons, List.length_nil, Nat.reduceAdd, Nat.reduceSub, Array.replicate_succ, Array.replicate_zero, List.push_toArray, List.append_toArray, List.nil_append, List.cons_append]
  have HN := hide hN
  have HY := hide hY
  have H0 := hide h0
  have c0 : W.cell? ⟨bA, 0, none⟩ = some (.int .i64 f) := by rw [cell_of_row _ _ _ _ _ _ hA]; rfl
  have c1 : W.cell? ⟨bA, 1, none⟩ = some (.int .i64 g) := by rw [cell_of_row _ _ _ _ _ _ hA]; rfl
  clear hN hY h0 hA
  gi_wp2
  gi_loopw [4, 9] (fun pv kv wr => ∃ k : Nat, k ≤ g.toNat ∧ kv = .int .i64 k ∧ pv = .int .i64 ((f + k) % n : Nat) ∧ J (plL n hn f k) wr ∧ wr.heap[bN]? = some (.cells #[.int .i64 (n : Nat)] 3 (0, 0)))
    (fun _ kv _ => g.toNat - (intOf kv).toNat)
  case atStart => exact ⟨0, Nat.zero_le _, rfl, by rw [Nat.add_zero, Nat.mod_eq_of_lt hf], H0.out, HN.out⟩
  case round =>
    obtain ⟨k, hk, rfl, rfl, hJ, hN⟩ := hrel
    by_cases hlt : (k : Int) < g
    · have hkm : k < g.toNat := by omega
      obtain ⟨⟨x, hlt2⟩, hx, HYs, HG⟩ : ∃ X : PE n, X.1 = (f + k) % n ∧ Hid (YieldAt Fence.wide (d - 1) Try.prog l (peEnc X) wr fun e W' =>
          (e = .returned (.bool true) ∧ J (plL n hn f k ++ [X]) W' ∧ KNn bN n wr W') ∨ (e = .returned (.bool false) ∧ Jx (plL n hn f k ++ [X]) W')) ∧ Hid (plL n hn f (k + 1) = plL n hn f k ++ [X]) :=
        ⟨⟨(f + k) % n, Nat.mod_lt _ hn⟩, rfl, HY.out _ ⟨(f + k) % n, Nat.mod_lt _ hn⟩ wr hJ (by rw [plL_len]; exact hkm), plL_succ⟩
      dsimp only at hx
      have HS := hide (show (f + (k + 1)) % n = if (f + k) % n + 1 = n then 0 else (f + k) % n + 1 from by
        rw [← Nat.add_assoc, ← Nat.mod_add_mod]
        split
        · rename_i h; rw [h, Nat.mod_self]
        · exact Nat.mod_eq_of_lt (by omega))
      obtain ⟨fn, tmps, assign, body, hy, hR⟩ := HYs.out
      dsimp only [peEnc] at hy
      have HR := hide hR
      have HNw := hide hN
      rw [← hx] at HS ⊢
      clear hR hJ hN HYs hx
      gi_wp2
      refine ⟨(fun h => by cases h), HR.out.mono ?_⟩
      rintro e W3 (⟨rfl, hJ3, hk3⟩ | ⟨rfl, hJx3⟩)
      · have HJ3 := hide hJ3
        have HN3 := hide (hk3 HNw.out)
        have cn : W3.cell? ⟨bN, 0, none⟩ = some (.int .i64 n) := by rw [cell_of_row _ _ _ _ _ _ HN3.out]; rfl
        clear hJ3 hk3 hy
        by_cases hx : x + 1 = n
        · have hb : (((x : Int) + 1) == (n : Int)) = true := beq_iff_eq.2 (by omega)
          have HE := hide (show (f + (k + 1)) % n = 0 by rw [HS.out, if_pos hx])
          clear hx
          gi_wp2
          go_roundw
          case rel => exact ⟨k + 1, hkm, rfl, by rw [HE.out]; rfl, by rw [HG.out]; exact HJ3.out, HN3.out⟩
          case measure => simp [intOf]; omega
        · have hb : (((x : Int) + 1) == (n : Int)) = false := beq_eq_false_iff_ne.2 (by omega)
          have HE := hide (show (f + (k + 1)) % n = x + 1 by rw [HS.out, if_neg hx])
          clear hx
          gi_wp2
          go_roundw
          case rel => exact ⟨k + 1, hkm, rfl, by rw [HE.out]; rfl, by rw [HG.out]; exact HJ3.out, HN3.out⟩
          case measure => simp [intOf]; omega
      · have HJ3 := hide hJx3
        clear hJx3 hy
        gi_wp2
        refine bodyPost_ret (results_none rfl _ _ _) rfl ?_
        exact ⟨⟨_, rfl⟩, .inr ⟨_, ⟨k + 1, hkm, HG.out.symm⟩, HJ3.out⟩⟩
    · obtain rfl : k = g.toNat := by omega
      have HJ := hide hJ
      clear hJ hN
      gi_wp2
      go_end0
      exact ⟨⟨_, rfl⟩, .inl HJ.out⟩

/-- the iterator's contract, as a range over it takes it -/
theorem pl_stops (d bA bN n : Nat) (hn : 0 < n) (hn2 : n ≤ 1048576) (f : Nat) (hf : f < n) (g : Int) (hg : g ≤ 4000000) (w : World) (hbA : bA < w.heap.size) (hbN : bN < w.heap.size)
    (hA : w.heap[bA]? = some (.cells #[.int .i64 (f : Nat), .int .i64 g] 41 (0, 0))) (hN : w.heap[bN]? = some (.cells #[.int .i64 (n : Nat)] 3 (0, 0))) :
    SeqStopsK Fence.wide d Try.prog 56 #[.pointer (some ⟨bA, 0, none⟩), .pointer (some ⟨bN, 0, none⟩)] (peEnc (n := n)) (KNn bN n) (fun ys => ys = plL n hn f g.toNat)
      (fun pre => ∃ k, k ≤ g.toNat ∧ pre = plL n hn f k) g.toNat w := fun l J Jx W hW _ _ hY h0 =>
  pl1_in d l bA bN n hn hn2 f hf g hg J Jx hY W ((hW.block _ hbA).trans hA) ((hW.block _ hbN).trans hN) h0

/-- **A RANGE OVER THE PLACES OF AN ARC, in a plain walk.** -/
theorem wp_pl {gO : Operand} {ps : Array Tmp} {assign body : Code} {Q : Exit → Act → World → Prop} {a : Act} {w : World} (bA bN n : Nat) (hn : 0 < n) (hn2 : n ≤ 1048576) (f : Nat) (hf : f < n) (g : Int) (hg : g ≤ 4000000)
    (hgO : a.eval gO = .func (.func 56) #[] #[.pointer (some ⟨bA, 0, none⟩), .pointer (some ⟨bN, 0, none⟩)]) (hbA : bA < w.heap.size) (hbN : bN < w.heap.size)
    (hA : w.heap[bA]? = some (.cells #[.int .i64 (f : Nat), .int .i64 g] 41 (0, 0))) (hN : w.heap[bN]? = some (.cells #[.int .i64 (n : Nat)] 3 (0, 0))) (hps : ps.size = 1)
    (I : List (PE n) → World → Prop) (Ix : Code → List (PE n) → World → Prop) (hI : OwnFrom w.heap.size I) (hIx : ∀ j, OwnFrom w.heap.size (Ix j)) (h0 : I [] w) (a₁ : PE n → Act)
    (hassign : ∀ (l : Nat) (x : PE n) (W : World) (K : Act → World → Prop), K (a₁ x) W →
      assign.wpIn (Fence.wide.inRound l) 0 Try.prog (Exit.then K (fun _ _ _ => False)) { tmps := (ps.zip #[Value.int .i64 (x.1 : Nat)]).foldl (fun t (p, v) => t.setIfInBounds p v) a.tmps, defers := [] } W)
    (hbody : ∀ (l : Nat) (pre : List (PE n)) (x : PE n) (W : World), I pre W → pre.length < g.toNat → body.wpIn (Fence.wide.inRound l) 0 Try.prog (ownPostK (KNn bN n) I Ix (pre ++ [x]) W) (a₁ x) W)
    (hdone : ∀ (D : Nat) (W : World), w.heap.size ≤ D → I (plL n hn f g.toNat) W → W.heap[D]? = some (.deferred (some [])) → Q .normal { a with defers := { target := .collected D, args := #[] } :: a.defers } W)
    (hstop : ∀ (D : Nat) (j : Code) (k : Nat) (W : World), w.heap.size ≤ D → k ≤ g.toNat → Ix j (plL n hn f k) W → W.heap[D]? = some (.deferred (some [])) → j.wp Try.prog Q { a with defers := { target := .collected D, args := #[] } :: a.defers } W) :
    (Code.rangeFunc gO ps assign body).wp Try.prog Q a w := by
  refine (wpIn_wide (n := 2)).1 ?_
  refine wpIn_rangeFunc_ownF rfl (by omega) hgO trivial (enters_of Try.func56 (by kernel_rfl) rfl) (pl_stops (2 - 1) bA bN n hn hn2 f hf g hg w hbA hbN hA hN)
    (fun h k => fun t => k (h t)) (fun W l o o' hl hlo ho _ => fun h => by
      have : bN ≠ l := by intro e; subst e; rw [hlo] at h; cases h; cases ho
      rw [World.putObj_heap_other this]; exact h) (Below.refl _ _) (fun _ => hps.symm) I Ix hI hIx h0 a₁ hassign hbody ?_ ?_
  · rintro D ys W hD rfl hi hK
    exact hdone D W hD hi hK
  · rintro D j pre W hD ⟨k, hk, rfl⟩ hi hK
    exact (wpIn_wide (n := 2)).2 (hstop D j k W hD hk hi hK)
end Go.Proofs.Ytmplioglihmkjaa
