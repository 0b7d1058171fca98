/-
  The iterator over what a set has: its maker, and what a range over it may count on.
-/
import Derived.Test.YtklkndnikcjbhaaDoorBtA
namespace Go.Proofs.YtklkndnikcjbhaaDoor
open Go.RowKit Go.Shelf
attribute [local go_sem] Oper.semAt_some
set_option linter.unusedVariables false
set_option linter.unusedSimpArgs false

abbrev ME (s : Nat) := { x : Nat // x ∈ mem s }
def meL (s : Nat) : List (ME s) := (mem s).attach
def meEnc {s : Nat} (x : ME s) : Array Value := #[.int .i64 (x.1 : Int)]
theorem meL_len (s : Nat) : (meL s).length = (mem s).length := List.length_attach
theorem meL_val (s : Nat) : (meL s).map (·.1) = mem s := by unfold meL; exact List.attach_map_subtype_val _
theorem meL_take (s k : Nat) : ((meL s).take k).map (·.1) = (mem s).take k := by rw [List.map_take, meL_val]
theorem meL_get {s k : Nat} (h : k < (mem s).length) : (meL s).take (k + 1) = (meL s).take k ++ [⟨(mem s)[k], List.getElem_mem h⟩] := by
  have h' : k < (meL s).length := by rw [meL_len]; exact h
  rw [List.take_succ_eq_append_getElem h']
  congr 2
  simp [meL]

theorem members_at (s : Nat) (w : World) :
    Calls Tryd.prog 32 #[.int .u64 s] w fun e w' =>
      e = .returned (.func (.func 39) #[] #[.pointer (some ⟨w.heap.size, 0, none⟩)]) ∧ w' = w.alloc (.cells #[.int .u64 s] 22) := by
  go_enter Tryd.func32, Tryd.ntmps32
  go_wp2
  go_ret
  exact ⟨rfl, rfl⟩

/-- the library's table stays -/
def KTz (W W' : World) : Prop := Tz W → Tz W'
theorem KTz.refl (W : World) : KTz W W := id
theorem KTz.put {l : Nat} (W : World) (o : Obj) (h : 0 < l) : KTz W (W.putObj l o) := fun t =>
  ⟨by simpa [World.putObj] using t.lt, fun j hj => by
    have : (W.putObj l o).cell? ⟨0, j, none⟩ = W.cell? ⟨0, j, none⟩ := by simp [World.cell?, World.putObj_heap_other (show 0 ≠ l by omega)]
    rw [this]; exact t.tab j hj⟩

theorem and_pred_lt {x : Nat} (h : x ≠ 0) : x &&& (x - 1) < x := by
  have : x &&& (x - 1) ≤ x - 1 := Nat.and_le_right
  omega

set_option maxRecDepth 100000 in
set_option maxHeartbeats 1000000 in
theorem mem1_in (d l Bs s : Nat) (hs : s < 18446744073709551616) (J Jx : List (ME s) → World → Prop)
    (hY : ∀ pre x W, J pre W → pre.length < (mem s).length → YieldAt Fence.wide (d - 1) Tryd.prog l (meEnc x) W fun e W' =>
      (e = .returned (.bool true) ∧ J (pre ++ [x]) W' ∧ KTz W W') ∨ (e = .returned (.bool false) ∧ Jx (pre ++ [x]) W'))
    (W : World) (hS : W.cell? ⟨Bs, 0, none⟩ = some (.int .u64 s)) (hT : Tz W) (h0 : J [] W) :
    CallsIn Fence.wide d Tryd.prog 39 #[.func (.yield l) #[] #[], .pointer (some ⟨Bs, 0, none⟩)] W fun e W' => (∃ v, e = .returned v) ∧
      ((∃ ys, ys = meL s ∧ J ys W') ∨ (∃ pre, (∃ k, k ≤ (mem s).length ∧ pre = (meL s).take k) ∧ Jx pre W')) := by
  refine callsIn_of_wp Tryd.func39 rfl trivial ?_ rfl
  simp only [Tryd.ntmps39, List.size_toArray, List.length_cons, List.length_nil, Nat.reduceAdd, Nat.reduceSub, Array.replicate_succ, Array.replicate_zero, List.push_toArray, List.append_toArray, List.nil_append, List.cons_append]
  have HT := hide hT
  have HY := hide hY
  have H0 := hide h0
  clear hT hY h0
  gi_wp2
  gi_loopw [3] (fun r wr => ∃ (k rest : Nat), k ≤ (mem s).length ∧ r = .int .u64 rest ∧ rest < 18446744073709551616 ∧ mem rest = (mem s).drop k ∧ J ((meL s).take k) wr ∧ Tz wr)
    (fun r _ => (intOf r).toNat)
  case atStart => exact ⟨0, s, Nat.zero_le _, rfl, hs, by simp, by simpa using H0.out, HT.out⟩
  case round =>
    obtain ⟨k, rest, hk, rfl, hr, hm, hJ, hT⟩ := hrel
    by_cases hne : rest = 0
    · have hkn : k = (mem s).length := by
        rw [hne, mem_zero] at hm
        have := congrArg List.length hm
        rw [List.length_drop] at this
        simp at this
        omega
      subst hne
      have HF : Hid ((meL s).take k = meL s) := by
        show _ = _
        rw [hkn, ← meL_len, List.take_length]
      have HJ := hide hJ
      clear hm hkn hJ hS
      gi_wp2
      go_end0
      exact ⟨⟨_, rfl⟩, .inl ⟨_, rfl, by have := HJ.out; rwa [HF.out] at this⟩⟩
    · have hstep := mem_step rest hne hr
      have hklt : k < (mem s).length := by
        apply Nat.lt_of_not_le
        intro hle
        rw [hm, List.drop_of_length_le hle] at hstep
        cases hstep
      rw [hm, List.drop_eq_getElem_cons hklt] at hstep
      obtain ⟨hx, hrest⟩ := List.cons.inj hstep
      have hlt2 := and_pred_lt hne
      have HA := hide (u64_and_nat rest (rest - 1) hr (by omega))
      have hsub : ((rest : Int) - 1) = ((rest - 1 : Nat) : Int) := by omega
      have hz : ((rest : Int) == 0) = false := by simpa using hne
      have hz2 : ((rest : Int) != 0) = true := by simpa using hne
      have HTZ := hide (tz_at rest hr hne wr hT)
      have hcz := (Lib.lowest_bit 64 rest hne hr).2
      have HYs := hide (HY.out _ ⟨(mem s)[k], List.getElem_mem hklt⟩ wr hJ (by rw [List.length_take, meL_len]; omega))
      have HG := hide (meL_get hklt)
      generalize hc : Lib.ctz 64 rest = c at *
      obtain ⟨fn, tmps, assign, body, hy, hR⟩ := HYs.out
      have hy2 : (Instr.yield l #[.int .i64 (c : Int)]).run Tryd.prog wr = .ok (.round l fn tmps assign body) wr := by
        have hy3 := hy
        dsimp only [meEnc] at hy3
        rw [hx] at hy3
        exact hy3
      have HX := hide hx
      have HM := hide hrest
      have HR := hide hR
      have HT2 := hide hT
      clear hy hx hrest hm hstep hR hJ hT HYs hS hc
      gi_wp2
      refine ⟨trivial, (fun h => by cases h), callsIn_wide.2 (HTZ.out.mono ?_)⟩
      rintro e W1 ⟨rfl, rfl⟩
      gi_wp2
      refine ⟨(fun h => by cases h), HR.out.mono ?_⟩
      rintro e W3 (⟨rfl, hJ3, hk3⟩ | ⟨rfl, hJx3⟩)
      · have HJ3 := hide hJ3
        have HT3 := hide (hk3 HT2.out)
        have hand := HA.out
        rw [← hsub] at hand
        have HB := hide hand
        clear hJ3 hk3 hy2 hsub hand
        gi_wp2_with (simp only [HB.out])
        go_roundw
        case rel => exact ⟨k + 1, rest &&& (rest - 1), hklt, rfl, Nat.lt_trans hlt2 hr, HM.out.symm, by rw [HG.out]; exact HJ3.out, HT3.out⟩
        case measure => simp [intOf]; omega
      · have HJ3 := hide hJx3
        clear hJx3 hy2 hsub
        gi_wp2
        refine bodyPost_ret (results_none rfl _ _ _) rfl ?_
        exact ⟨⟨_, rfl⟩, .inr ⟨_, ⟨k + 1, hklt, HG.out.symm⟩, HJ3.out⟩⟩

/-- the iterator's contract, as a range over it takes it -/
theorem mem_stops (d Bs s : Nat) (hs : s < 18446744073709551616) (w : World) (hbs : Bs < w.heap.size)
    (hS : w.cell? ⟨Bs, 0, none⟩ = some (.int .u64 s)) (hT : Tz w) :
    SeqStopsK Fence.wide d Tryd.prog 39 #[.pointer (some ⟨Bs, 0, none⟩)] (meEnc (s := s)) KTz (fun ys => ys = meL s)
      (fun pre => ∃ k, k ≤ (mem s).length ∧ pre = (meL s).take k) (mem s).length w := fun l J Jx W hW _ _ hY h0 =>
  mem1_in d l Bs s hs J Jx hY W ((hW.cell (p := ⟨Bs, 0, none⟩) hbs).trans hS) (hT.below hW hT.lt) h0

/-- **A RANGE OVER WHAT A SET HAS, in a plain walk.** -/
theorem wp_mem {g : Operand} {ps : Array Tmp} {assign body : Code} {Q : Exit → Act → World → Prop} {a : Act} {w : World} (s Bs : Nat) (hs : s < 18446744073709551616)
    (hg : a.eval g = .func (.func 39) #[] #[.pointer (some ⟨Bs, 0, none⟩)]) (hbs : Bs < w.heap.size)
    (hS : w.cell? ⟨Bs, 0, none⟩ = some (.int .u64 s)) (hT : Tz w) (hps : ps.size = 1)
    (I : List (ME s) → World → Prop) (Ix : Code → List (ME s) → World → Prop) (hI : OwnFrom w.heap.size I) (hIx : ∀ j, OwnFrom w.heap.size (Ix j)) (h0 : I [] w) (a₁ : ME s → Act)
    (hassign : ∀ (l : Nat) (x : ME s) (W : World) (K : Act → World → Prop), K (a₁ x) W →
      assign.wpIn (Fence.wide.inRound l) 0 Tryd.prog (Exit.then K (fun _ _ _ => False)) { tmps := (ps.zip #[Value.int .i64 (x.1 : Int)]).foldl (fun t (p, v) => t.setIfInBounds p v) a.tmps, defers := [] } W)
    (hbody : ∀ (l : Nat) (pre : List (ME s)) (x : ME s) (W : World), I pre W → pre.length < (mem s).length → body.wpIn (Fence.wide.inRound l) 0 Tryd.prog (ownPostK KTz I Ix (pre ++ [x]) W) (a₁ x) W)
    (hdone : ∀ (D : Nat) (W : World), w.heap.size ≤ D → I (meL s) W → W.heap[D]? = some (.deferred (some [])) → Q .normal { a with defers := { target := .collected D, args := #[] } :: a.defers } W)
    (hstop : ∀ (D : Nat) (j : Code) (k : Nat) (W : World), w.heap.size ≤ D → k ≤ (mem s).length → Ix j ((meL s).take k) W → W.heap[D]? = some (.deferred (some [])) → j.wp Tryd.prog Q { a with defers := { target := .collected D, args := #[] } :: a.defers } W) :
    (Code.rangeFunc g ps assign body).wp Tryd.prog Q a w := by
  refine (wpIn_wide (n := 2)).1 ?_
  refine wpIn_rangeFunc_ownF rfl (by omega) hg trivial (enters_of Tryd.func39 (by kernel_rfl) rfl) (mem_stops (2 - 1) Bs s hs w hbs hS hT)
    (fun h k => fun t => k (h t)) (fun W l o o' hl _ _ _ => KTz.put W o' (by have := hT.lt; omega)) (Below.refl _ _) (fun _ => hps.symm) I Ix hI hIx h0 a₁ hassign hbody ?_ ?_
  · rintro D ys W hD rfl hi hK
    exact hdone D W hD hi hK
  · rintro D j pre W hD ⟨k, hk, rfl⟩ hi hK
    exact (wpIn_wide (n := 2)).2 (hstop D j k W hD hk hi hK)
end Go.Proofs.YtklkndnikcjbhaaDoor
