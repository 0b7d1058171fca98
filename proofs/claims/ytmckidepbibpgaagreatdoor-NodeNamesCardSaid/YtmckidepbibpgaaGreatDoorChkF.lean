/-
  Ports stand in one link at most.
-/
import Derived.Test.YtmckidepbibpgaaGreatDoorChkE
namespace Go.Proofs.YtmckidepbibpgaaGreatDoor
open Go.RowKit Go.Deep
set_option linter.unusedVariables false

/-- but for one block, all that was there is as it was -/
structure Onl (b : Nat) (w W : World) : Prop where
  os : W.os = w.os
  tape : W.tape = w.tape
  output : W.output = w.output
  size : w.heap.size ≤ W.heap.size
  block : ∀ k, k < w.heap.size → k ≠ b → W.heap[k]? = w.heap[k]?
theorem Onl.refl (b : Nat) (w : World) : Onl b w w := ⟨rfl, rfl, rfl, Nat.le_refl _, fun _ _ _ => rfl⟩
theorem Onl.trans {b : Nat} {w v W : World} (h : Onl b w v) (k : Onl b v W) : Onl b w W :=
  ⟨k.os.trans h.os, k.tape.trans h.tape, k.output.trans h.output, Nat.le_trans h.size k.size, fun j hj hb => (k.block j (Nat.lt_of_lt_of_le hj h.size) hb).trans (h.block j hj hb)⟩
theorem Onl.of_below {b : Nat} {w W : World} (h : Below w.heap.size w W) : Onl b w W := ⟨h.os, h.tape, h.output, h.size, fun k hk _ => h.block k hk⟩
theorem Onl.set {b : Nat} {w : World} (o : Nat) (v : Value) : Onl b w (w.setCell ⟨b, o, none⟩ v) :=
  ⟨rfl, rfl, rfl, by simp [World.setCell], fun k hk hb => by
    simp only [World.setCell, Array.getElem?_modify]
    rw [if_neg (fun e => hb e.symm)]⟩
theorem Onl.below {b B : Nat} {w W : World} (h : Onl b w W) (hB : B ≤ b) (hs : B ≤ w.heap.size) : Below B w W := ⟨h.os, h.tape, h.output, h.size, fun k hk => h.block k (by omega) (by omega)⟩

/-- a list of truths in a block of a function's own -/
def Truths (W : World) (b : Nat) (L : List Bool) : Prop := W.heap[b]? = some (.cells (L.map Value.bool).toArray 4 (0, 0))
theorem Truths.at {W : World} {b : Nat} {L : List Bool} (h : Truths W b L) {k : Nat} (hk : k < L.length) : W.cell? ⟨b, k, none⟩ = some (.bool (L.getD k false)) := by
  unfold Truths at h
  simp [World.cell?, h, List.getD_eq_getElem?_getD, List.getElem?_eq_getElem hk]
theorem Truths.free {W : World} {b : Nat} {L : List Bool} (h : Truths W b L) (k : Nat) : W.frozen? ⟨b, k, none⟩ = false := by
  unfold Truths at h
  simp [World.frozen?, h]
theorem Truths.set {W : World} {b : Nat} {L : List Bool} (h : Truths W b L) (k : Nat) (v : Bool) : Truths (W.setCell ⟨b, k, none⟩ (.bool v)) b (L.set k v) := by
  unfold Truths at h ⊢
  simp only [World.setCell, Array.getElem?_modify, if_true, h, Option.map_some]
  congr 2
  apply Array.ext'
  simp [List.map_set]
theorem Truths.kept {W W' : World} {b : Nat} {L : List Bool} (h : Truths W b L) (hb : Below W.heap.size W W') : Truths W' b L :=
  (hb.block b (Array.getElem?_eq_some_iff.1 h).1).trans h

/-- each of these for the first time? -/
def standF : List Bool → List Int → Option (List Bool)
  | L, [] => some L
  | L, d :: l => if L.getD d.toNat false = true then none else standF (L.set d.toNat true) l
theorem standF_append (L : List Bool) (l m : List Int) : standF L (l ++ m) = (standF L l).bind fun L' => standF L' m := by
  induction l generalizing L with
  | nil => rfl
  | cons d l ih =>
    simp only [List.cons_append, standF]
    split
    · rfl
    · exact ih _
theorem standF_len {L L' : List Bool} {l : List Int} (h : standF L l = some L') : L'.length = L.length := by
  induction l generalizing L with
  | nil => simp only [standF] at h; cases h; rfl
  | cons d l ih =>
    simp only [standF] at h
    split at h
    · cases h
    · rw [ih h]; simp

theorem stand_none {L L' : List Bool} {a : Int} {l : List Int} {k : Nat} (hk : k < l.length) (h : standF L (a :: l.take k) = some L') (hd : L'.getD (l.getD k 0).toNat false = true) : standF L (a :: l) = none := by
  have e : a :: l = (a :: l.take k) ++ (l.getD k 0 :: l.drop (k + 1)) := by
    rw [List.getD_eq_getElem?_getD, List.getElem?_eq_getElem hk, Option.getD_some, List.cons_append]
    congr 1
    rw [← List.drop_eq_getElem_cons hk, List.take_append_drop]
  rw [e, standF_append, h]
  simp only [Option.bind_some, standF, hd, if_true]
theorem stand_next {L L' : List Bool} {a : Int} {l : List Int} {k : Nat} (hk : k < l.length) (h : standF L (a :: l.take k) = some L') (hd : L'.getD (l.getD k 0).toNat false = false) : standF L (a :: l.take (k + 1)) = some (L'.set (l.getD k 0).toNat true) := by
  have e : a :: l.take (k + 1) = (a :: l.take k) ++ [l.getD k 0] := by
    rw [List.getD_eq_getElem?_getD, List.getElem?_eq_getElem hk, Option.getD_some, List.take_succ_eq_append_getElem hk]
    rfl
  rw [e, standF_append, h]
  simp only [Option.bind_some, standF, hd]
  rfl

theorem taken_any (p : Po) (w : World) (h1 : 1 ≤ p.size) (h2 : p.size ≤ 32) :
    Calls Tryz.prog 229 #[.agg p.cells] w fun e w' => e = .returned (.int .i64 (1 + p.size)) ∧ Below w.heap.size w w' := by
  unfold Po.cells
  go_enter Tryz.func229, Tryz.ntmps229
  go_wp2
  go_ret
  exact ⟨rfl, (Below.refl _ _).alloc (Nat.le_refl _) _⟩

set_option maxRecDepth 100000 in
set_option maxHeartbeats 4000000 in
theorem stand_any (l : Lk) (Ai : Option Addr) (ci b B n : Nat) (L : List Bool) (w : World) (hB : B ≤ b) (hA : ∀ W, Below B w W → Ints W Ai l.dests) (hdl : l.dests.length ≤ 9223372036854775807) (hL : Truths w b L) (hn : L.length = n) (hn2 : n ≤ 64)
    (hs : ofB l.source n = true) (hd : ∀ k, k < l.dests.length → ofB (l.dests.getD k 0) n = true) :
    Calls Tryz.prog 228 #[.slice (some ⟨b, 0, none⟩) n n, .agg #[.int .i64 l.source, .slice Ai l.dests.length ci, .int .i64 l.offset]] w fun e w' =>
      e = .returned (.bool (standF L (l.source :: l.dests)).isSome) ∧ Onl b w w' ∧ (∀ L2, standF L (l.source :: l.dests) = some L2 → Truths w' b L2) := by
  obtain ⟨source, dests, offset⟩ := l
  dsimp only at hA hdl hs hd ⊢
  have hbl : b < w.heap.size := (Array.getElem?_eq_some_iff.1 hL).1
  have hbx := (Below.refl w.heap.size w).alloc (Nat.le_refl _) (.cells #[.int .i64 source, .slice Ai dests.length ci, .int .i64 offset] 70)
  have h1 := hs
  simp only [ofB, Bool.and_eq_true, decide_eq_true_eq] at h1
  obtain ⟨u1, u2⟩ := h1
  obtain ⟨s, rfl⟩ := Int.eq_ofNat_of_zero_le u1
  have hsl : s < L.length := by omega
  have q0 := (hL.kept hbx).at hsl
  have fz := (hL.kept hbx).free s
  obtain ⟨v, hv⟩ : ∃ v, L.getD s false = v := ⟨_, rfl⟩
  rw [hv] at q0
  go_enter Tryz.func228, Tryz.ntmps228
  cases v
  · have hbx2 := (Below.refl (w.setCell ⟨b, s, none⟩ (.bool true)).heap.size (w.setCell ⟨b, s, none⟩ (.bool true))).alloc (Nat.le_refl _) (.cells #[.int .i64 (s : Int), .slice Ai dests.length ci, .int .i64 offset] 70)
    have hT1 := (hL.set s true).kept hbx2
    have hO1 := (Onl.set (b := b) (w := w) s (.bool true)).trans (Onl.of_below hbx2)
    clear hbx2
    have HS : Hid (standF L ((s : Int) :: dests.take 0) = some (L.set s true)) := by
      show _ = _
      have e : L.getD ((s : Int)).toNat false = false := by simpa using hv
      simp only [List.take_zero, standF, e]
      rfl
    have HT1 := hide hT1
    have HO1 := hide hO1
    have HL := hide hL
    clear hT1 hO1 hv hL hbx
    go_upto_region 5 with fail
    go_loopw [19] (fun i W => ∃ (k : Nat) (L' : List Bool), k ≤ dests.length ∧ i = .int .i64 k ∧ L'.length = n ∧ Onl b w W ∧ Truths W b L' ∧ Hid (standF L ((s : Int) :: dests.take k) = some L')) (fun i _ => dests.length - (intOf i).toNat)
    case atStart => exact ⟨0, _, by omega, rfl, by simpa using hn, HO1.out, HT1.out, HS⟩
    case round =>
      obtain ⟨k, L', hk, rfl, hL', hO, hT, H⟩ := hrel
      have hbw : b < wr.heap.size := (Array.getElem?_eq_some_iff.1 hT).1
      by_cases hlt : k < dests.length
      · obtain ⟨ab, ao, hAi, hab, g0⟩ := (hA wr (hO.below hB (by omega))).at hlt
        subst hAi
        have hdk := hd k hlt
        obtain ⟨z, hz⟩ : ∃ z, dests.getD k 0 = z := ⟨_, rfl⟩
        rw [hz] at g0 hdk
        simp only [ofB, Bool.and_eq_true, decide_eq_true_eq] at hdk
        obtain ⟨v1, v2⟩ := hdk
        obtain ⟨dn, rfl⟩ := Int.eq_ofNat_of_zero_le v1
        have hdn : dn < L'.length := by omega
        have x0 := hT.at hdn
        have xf := hT.free dn
        obtain ⟨v, hv⟩ : ∃ v, L'.getD dn false = v := ⟨_, rfl⟩
        rw [hv] at x0
        have HZ := hide hz
        have HV := hide hv
        have HA := hide hA
        have HD := hide hd
        clear hz hv hA hd HO1 HT1 HS HL q0 fz
        cases v
        · have HT2 := hide (hT.set dn true)
          have HO2 := hide (hO.trans (Onl.set (b := b) dn (.bool true)))
          have H2 : Hid (standF L ((s : Int) :: dests.take (k + 1)) = some (L'.set dn true)) := by
            have := stand_next hlt H.out (by rw [HZ.out]; exact HV.out)
            rw [HZ.out] at this
            exact this
          clear hT hO H
          go_wp2
          go_roundw
          case rel => exact ⟨k + 1, _, by omega, by go_num, by simpa using hL', HO2.out, HT2.out, H2⟩
          case measure => simp [intOf]; omega
        · have H2 : Hid (standF L ((s : Int) :: dests) = none) := stand_none hlt H.out (by rw [HZ.out]; exact HV.out)
          have HO := hide hO
          clear hT hO H
          go_wp2
          go_ret
          exact ⟨by rw [H2.out]; rfl, HO.out, by rw [H2.out]; intro L2 h2; cases h2⟩
      · obtain rfl : k = dests.length := by omega
        have H2 : Hid (standF L ((s : Int) :: dests) = some L') := by
          have := H.out
          rw [List.take_length] at this
          exact this
        have HT := hide hT
        have HO := hide hO
        clear hT hO H
        go_wp2
        go_ret
        exact ⟨by rw [H2.out]; rfl, HO.out, by rw [H2.out]; intro L2 h2; cases h2; exact HT.out⟩
  · have H : Hid (standF L ((s : Int) :: dests) = none) := by
      show _ = _
      have e : L.getD ((s : Int)).toNat false = true := by simpa using hv
      simp only [standF, e, if_true]
    go_wp2
    go_ret
    exact ⟨by rw [H.out]; rfl, .of_below hbx, by rw [H.out]; intro L2 h2; cases h2⟩
end Go.Proofs.YtmckidepbibpgaaGreatDoor
