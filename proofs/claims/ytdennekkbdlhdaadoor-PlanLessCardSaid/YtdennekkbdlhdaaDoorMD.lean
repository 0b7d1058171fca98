/-
  Ports stand in one link at most.
  What the program asks of a link by itself.
  The six rules, one behind the other.
  Do two spans of one list meet? The iterator over each two of a list.
  Do two spans of one and the same list meet?
  Lists of spans, one for each node: made, and added to.
-/
import Derived.Test.YtdennekkbdlhdaaDoorMC
import Derived.Test.YtdennekkbdlhdaaDoorRng
import Derived.RegionCalls
import Derived.Laws.EntriesVeiled
import Derived.RangeFuncLeaves
import Derived.RangeFuncIn
import Derived.RangeFuncRecord
import Derived.RangeFuncSeq
import Derived.RangeFuncNested
import Derived.RangeFuncBound
import Derived.RangeFuncBox
import Derived.RangeFuncCalls
import Derived.TacticsInMore
import Derived.TacticsIn
import Derived.LoopNIn
import Derived.LoopIn
import Derived.WalkMore
import Derived.Laws.AppendOwn
import Derived.Laws.MakeOwn
namespace Go.Proofs.YtdennekkbdlhdaaDoor
open Go.RowKit Go.Deep
set_option linter.unusedVariables false

/-- but for one block, all that was there is as it was -/
structure Onl (b : Nat) (w W : World) : Prop where
  os : W.os = w.os
  tape : W.tape = w.tape
  output : W.output = w.output
  size : w.heap.size ≤ W.heap.size
  block : ∀ k, k < w.heap.size → k ≠ b → W.heap[k]? = w.heap[k]?
theorem Onl.refl (b : Nat) (w : World) : Onl b w w := ⟨rfl, rfl, rfl, Nat.le_refl _, fun _ _ _ => rfl⟩
theorem Onl.trans {b : Nat} {w v W : World} (h : Onl b w v) (k : Onl b v W) : Onl b w W :=
  ⟨k.os.trans h.os, k.tape.trans h.tape, k.output.trans h.output, Nat.le_trans h.size k.size, fun j hj hb => (k.block j (Nat.lt_of_lt_of_le hj h.size) hb).trans (h.block j hj hb)⟩
theorem Onl.of_below {b : Nat} {w W : World} (h : Below w.heap.size w W) : Onl b w W := ⟨h.os, h.tape, h.output, h.size, fun k hk _ => h.block k hk⟩
theorem Onl.set {b : Nat} {w : World} (o : Nat) (v : Value) : Onl b w (w.setCell ⟨b, o, none⟩ v) :=
  ⟨rfl, rfl, rfl, by simp [World.setCell], fun k hk hb => by
    simp only [World.setCell, Array.getElem?_modify]
    rw [if_neg (fun e => hb e.symm)]⟩
theorem Onl.below {b B : Nat} {w W : World} (h : Onl b w W) (hB : B ≤ b) (hs : B ≤ w.heap.size) : Below B w W := ⟨h.os, h.tape, h.output, h.size, fun k hk => h.block k (by omega) (by omega)⟩

/-- a list of truths in a block of a function's own -/
def Truths (W : World) (b : Nat) (L : List Bool) : Prop := W.heap[b]? = some (.cells (L.map Value.bool).toArray 4 (0, 0))
theorem Truths.at {W : World} {b : Nat} {L : List Bool} (h : Truths W b L) {k : Nat} (hk : k < L.length) : W.cell? ⟨b, k, none⟩ = some (.bool (L.getD k false)) := by
  unfold Truths at h
  simp [World.cell?, h, List.getD_eq_getElem?_getD, List.getElem?_eq_getElem hk]
theorem Truths.free {W : World} {b : Nat} {L : List Bool} (h : Truths W b L) (k : Nat) : W.frozen? ⟨b, k, none⟩ = false := by
  unfold Truths at h
  simp [World.frozen?, h]
theorem Truths.set {W : World} {b : Nat} {L : List Bool} (h : Truths W b L) (k : Nat) (v : Bool) : Truths (W.setCell ⟨b, k, none⟩ (.bool v)) b (L.set k v) := by
  unfold Truths at h ⊢
  simp only [World.setCell, Array.getElem?_modify, if_true, h, Option.map_some]
  congr 2
  apply Array.ext'
  simp [List.map_set]
theorem Truths.kept {W W' : World} {b : Nat} {L : List Bool} (h : Truths W b L) (hb : Below W.heap.size W W') : Truths W' b L :=
  (hb.block b (Array.getElem?_eq_some_iff.1 h).1).trans h

/-- each of these for the first time? -/
def standF : List Bool → List Int → Option (List Bool)
  | L, [] => some L
  | L, d :: l => if L.getD d.toNat false = true then none else standF (L.set d.toNat true) l
theorem standF_append (L : List Bool) (l m : List Int) : standF L (l ++ m) = (standF L l).bind fun L' => standF L' m := by
  induction l generalizing L with
  | nil => rfl
  | cons d l ih =>
    simp only [List.cons_append, standF]
    split
    · rfl
    · exact ih _
theorem standF_len {L L' : List Bool} {l : List Int} (h : standF L l = some L') : L'.length = L.length := by
  induction l generalizing L with
  | nil => simp only [standF] at h; cases h; rfl
  | cons d l ih =>
    simp only [standF] at h
    split at h
    · cases h
    · rw [ih h]; simp

theorem stand_none {L L' : List Bool} {a : Int} {l : List Int} {k : Nat} (hk : k < l.length) (h : standF L (a :: l.take k) = some L') (hd : L'.getD (l.getD k 0).toNat false = true) : standF L (a :: l) = none := by
  have e : a :: l = (a :: l.take k) ++ (l.getD k 0 :: l.drop (k + 1)) := by
    rw [List.getD_eq_getElem?_getD, List.getElem?_eq_getElem hk, Option.getD_some, List.cons_append]
    congr 1
    rw [← List.drop_eq_getElem_cons hk, List.take_append_drop]
  rw [e, standF_append, h]
  simp only [Option.bind_some, standF, hd, if_true]
theorem stand_next {L L' : List Bool} {a : Int} {l : List Int} {k : Nat} (hk : k < l.length) (h : standF L (a :: l.take k) = some L') (hd : L'.getD (l.getD k 0).toNat false = false) : standF L (a :: l.take (k + 1)) = some (L'.set (l.getD k 0).toNat true) := by
  have e : a :: l.take (k + 1) = (a :: l.take k) ++ [l.getD k 0] := by
    rw [List.getD_eq_getElem?_getD, List.getElem?_eq_getElem hk, Option.getD_some, List.take_succ_eq_append_getElem hk]
    rfl
  rw [e, standF_append, h]
  simp only [Option.bind_some, standF, hd]
  rfl

theorem taken_any (p : Po) (w : World) (h1 : 1 ≤ p.size) (h2 : p.size ≤ 32) :
    Calls Tryd.prog 51 #[.agg p.cells] w fun e w' => e = .returned (.int .i64 (1 + p.size)) ∧ Below w.heap.size w w' := by
  unfold Po.cells
  go_enter Tryd.func51, Tryd.ntmps51
  go_wp2
  go_ret
  exact ⟨rfl, (Below.refl _ _).alloc (Nat.le_refl _) _⟩

set_option maxRecDepth 100000 in
set_option maxHeartbeats 4000000 in
theorem stand_any (l : Lk) (Ai : Option Addr) (ci b B n : Nat) (L : List Bool) (w : World) (hB : B ≤ b) (hA : ∀ W, Below B w W → Ints W Ai l.dests) (hdl : l.dests.length ≤ 9223372036854775807) (hL : Truths w b L) (hn : L.length = n) (hn2 : n ≤ 64)
    (hs : ofB l.source n = true) (hd : ∀ k, k < l.dests.length → ofB (l.dests.getD k 0) n = true) :
    Calls Tryd.prog 50 #[.slice (some ⟨b, 0, none⟩) n n, .agg #[.int .i64 l.source, .slice Ai l.dests.length ci, .int .i64 l.offset]] w fun e w' =>
      e = .returned (.bool (standF L (l.source :: l.dests)).isSome) ∧ Onl b w w' ∧ (∀ L2, standF L (l.source :: l.dests) = some L2 → Truths w' b L2) := by
  obtain ⟨source, dests, offset⟩ := l
  dsimp only at hA hdl hs hd ⊢
  have hbl : b < w.heap.size := (Array.getElem?_eq_some_iff.1 hL).1
  have hbx := (Below.refl w.heap.size w).alloc (Nat.le_refl _) (.cells #[.int .i64 source, .slice Ai dests.length ci, .int .i64 offset] 51)
  have h1 := hs
  simp only [ofB, Bool.and_eq_true, decide_eq_true_eq] at h1
  obtain ⟨u1, u2⟩ := h1
  obtain ⟨s, rfl⟩ := Int.eq_ofNat_of_zero_le u1
  have hsl : s < L.length := by omega
  have q0 := (hL.kept hbx).at hsl
  have fz := (hL.kept hbx).free s
  obtain ⟨v, hv⟩ : ∃ v, L.getD s false = v := ⟨_, rfl⟩
  rw [hv] at q0
  go_enter Tryd.func50, Tryd.ntmps50
  cases v
  · have hbx2 := (Below.refl (w.setCell ⟨b, s, none⟩ (.bool true)).heap.size (w.setCell ⟨b, s, none⟩ (.bool true))).alloc (Nat.le_refl _) (.cells #[.int .i64 (s : Int), .slice Ai dests.length ci, .int .i64 offset] 51)
    have hT1 := (hL.set s true).kept hbx2
    have hO1 := (Onl.set (b := b) (w := w) s (.bool true)).trans (Onl.of_below hbx2)
    clear hbx2
    have HS : Hid (standF L ((s : Int) :: dests.take 0) = some (L.set s true)) := by
      show _ = _
      have e : L.getD ((s : Int)).toNat false = false := by simpa using hv
      simp only [List.take_zero, standF, e]
      rfl
    have HT1 := hide hT1
    have HO1 := hide hO1
    have HL := hide hL
    clear hT1 hO1 hv hL hbx
    go_upto_region 5 with fail
    go_loopw [19] (fun i W => ∃ (k : Nat) (L' : List Bool), k ≤ dests.length ∧ i = .int .i64 k ∧ L'.length = n ∧ Onl b w W ∧ Truths W b L' ∧ Hid (standF L ((s : Int) :: dests.take k) = some L')) (fun i _ => dests.length - (intOf i).toNat)
    case atStart => exact ⟨0, _, by omega, rfl, by simpa using hn, HO1.out, HT1.out, HS⟩
    case round =>
      obtain ⟨k, L', hk, rfl, hL', hO, hT, H⟩ := hrel
      have hbw : b < wr.heap.size := (Array.getElem?_eq_some_iff.1 hT).1
      by_cases hlt : k < dests.length
      · obtain ⟨ab, ao, hAi, hab, g0⟩ := (hA wr (hO.below hB (by omega))).at hlt
        subst hAi
        have hdk := hd k hlt
        obtain ⟨z, hz⟩ : ∃ z, dests.getD k 0 = z := ⟨_, rfl⟩
        rw [hz] at g0 hdk
        simp only [ofB, Bool.and_eq_true, decide_eq_true_eq] at hdk
        obtain ⟨v1, v2⟩ := hdk
        obtain ⟨dn, rfl⟩ := Int.eq_ofNat_of_zero_le v1
        have hdn : dn < L'.length := by omega
        have x0 := hT.at hdn
        have xf := hT.free dn
        obtain ⟨v, hv⟩ : ∃ v, L'.getD dn false = v := ⟨_, rfl⟩
        rw [hv] at x0
        have HZ := hide hz
        have HV := hide hv
        have HA := hide hA
        have HD := hide hd
        clear hz hv hA hd HO1 HT1 HS HL q0 fz
        cases v
        · have HT2 := hide (hT.set dn true)
          have HO2 := hide (hO.trans (Onl.set (b := b) dn (.bool true)))
          have H2 : Hid (standF L ((s : Int) :: dests.take (k + 1)) = some (L'.set dn true)) := by
            have := stand_next hlt H.out (by rw [HZ.out]; exact HV.out)
            rw [HZ.out] at this
            exact this
          clear hT hO H
          go_wp2
          go_roundw
          case rel => exact ⟨k + 1, _, by omega, by go_num, by simpa using hL', HO2.out, HT2.out, H2⟩
          case measure => simp [intOf]; omega
        · have H2 : Hid (standF L ((s : Int) :: dests) = none) := stand_none hlt H.out (by rw [HZ.out]; exact HV.out)
          have HO := hide hO
          clear hT hO H
          go_wp2
          go_ret
          exact ⟨by rw [H2.out]; rfl, HO.out, by rw [H2.out]; intro L2 h2; cases h2⟩
      · obtain rfl : k = dests.length := by omega
        have H2 : Hid (standF L ((s : Int) :: dests) = some L') := by
          have := H.out
          rw [List.take_length] at this
          exact this
        have HT := hide hT
        have HO := hide hO
        clear hT hO H
        go_wp2
        go_ret
        exact ⟨by rw [H2.out]; rfl, HO.out, by rw [H2.out]; intro L2 h2; cases h2; exact HT.out⟩
  · have H : Hid (standF L ((s : Int) :: dests) = none) := by
      show _ = _
      have e : L.getD ((s : Int)).toNat false = true := by simpa using hv
      simp only [standF, e, if_true]
    go_wp2
    go_ret
    exact ⟨by rw [H.out]; rfl, .of_below hbx, by rw [H.out]; intro L2 h2; cases h2⟩
end Go.Proofs.YtdennekkbdlhdaaDoor
namespace Go.Proofs.YtdennekkbdlhdaaDoor
open Go.RowKit Go.Deep
set_option linter.unusedVariables false
set_option linter.unusedSimpArgs false

theorem portB_size {p : Po} (h : PortB p = true) : 1 ≤ p.size ∧ p.size ≤ 32 := by
  unfold PortB at h
  simp only [Bool.and_eq_true, inB, decide_eq_true_eq] at h
  exact h.1.1.2

/-- may it be a port that a link of this one goes to? -/
def DestOk (c : Conf) (s : Po) (z : Int) : Prop := ofB z c.ports.length = true ∧ (c.ports.getD z.toNat default).dir = 2 ∧ (c.ports.getD z.toNat default).kind = s.kind ∧ (c.ports.getD z.toNat default).size = s.size
instance (c : Conf) (s : Po) (z : Int) : Decidable (DestOk c s z) := by unfold DestOk; infer_instance
/-- may a link be by itself? -/
def LinkOk (c : Conf) (l : Lk) : Prop := ofB l.source c.ports.length = true ∧ (c.ports.getD l.source.toNat default).dir = 1 ∧ l.dests ≠ [] ∧ (∀ k, k < l.dests.length → DestOk c (c.ports.getD l.source.toNat default) (l.dests.getD k 0)) ∧
  inB l.offset 0 (64 - (1 + (c.ports.getD l.source.toNat default).size)) = true
instance (c : Conf) (l : Lk) : Decidable (LinkOk c l) := by unfold LinkOk; infer_instance

/-- a link in a block of a function's own -/
structure LkAt (W : World) (b : Nat) (s : Int) (A : Option Addr) (n m : Nat) (o : Int) : Prop where
  lt : b < W.heap.size
  c0 : W.cell? ⟨b, 0, none⟩ = some (.int .i64 s)
  c1 : W.cell? ⟨b, 1, none⟩ = some (.slice A n m)
  c2 : W.cell? ⟨b, 2, none⟩ = some (.int .i64 o)
theorem LkAt.below {w w' : World} {b B : Nat} {s : Int} {A : Option Addr} {n m : Nat} {o : Int} (h : LkAt w b s A n m o) (hb : Below B w w') (hB : w.heap.size ≤ B) : LkAt w' b s A n m o :=
  ⟨Nat.lt_of_lt_of_le h.lt hb.size, cell_below hb hB h.lt h.c0, cell_below hb hB h.lt h.c1, cell_below hb hB h.lt h.c2⟩
theorem lk_new (w : World) (s : Int) (A : Option Addr) (n m : Nat) (o : Int) (t : TypeId) : LkAt (w.alloc (.cells #[.int .i64 s, .slice A n m, .int .i64 o] t)) w.heap.size s A n m o := by
  have h : ∀ k v, (#[.int .i64 s, .slice A n m, .int .i64 o] : Array Value)[k]? = some v → (w.alloc (.cells #[.int .i64 s, .slice A n m, .int .i64 o] t)).cell? ⟨w.heap.size, k, none⟩ = some v := fun k v hv => by
    unfold World.cell?
    rw [heap_alloc_new]
    exact hv
  exact ⟨alloc_lt w _, h 0 _ rfl, h 1 _ rfl, h 2 _ rfl⟩

/-- what stands while a link is looked at -/
structure LkS (w W : World) (c : Conf) (d : Ad) (s : Int) (A : Option Addr) (l : List Int) (m : Nat) (o : Int) : Prop where
  cf : CfS w W c d
  k : LkAt W (w.heap.size + 1) s A l.length m o
  i : Ints W A l
theorem LkS.below {w W W' : World} {c : Conf} {d : Ad} {s : Int} {A : Option Addr} {l : List Int} {m : Nat} {o : Int} (h : LkS w W c d s A l m o) (hb : Below W.heap.size W W') : LkS w W' c d s A l m o :=
  ⟨h.cf.below hb, h.k.below hb (Nat.le_refl _), h.i.of_below hb (Nat.le_refl _)⟩
theorem LkS.first {w : World} {c : Conf} {d : Ad} {s : Int} {A : Option Addr} {l : List Int} {m : Nat} {o : Int} (t u : TypeId) (hg : Glo w) (h : ConfAt w c d) (hi : Ints w A l) :
    LkS w ((w.alloc (.cells (c.cells d) t)).alloc (.cells #[.int .i64 s, .slice A l.length m, .int .i64 o] u)) c d s A l m o := by
  have h1 := CfS.first t hg h
  have h2 := (Below.refl (w.alloc (.cells (c.cells d) t)).heap.size (w.alloc (.cells (c.cells d) t))).alloc (Nat.le_refl _) (.cells #[.int .i64 s, .slice A l.length m, .int .i64 o] u)
  have h3 := lk_new (w.alloc (.cells (c.cells d) t)) s A l.length m o u
  rw [show (w.alloc (.cells (c.cells d) t)).heap.size = w.heap.size + 1 from Array.size_push _] at h3
  exact ⟨h1.below h2, h3, (hi.of_below h1.bel (Nat.le_refl _)).of_below h2 (Nat.le_refl _)⟩

theorem LkP.below {w W W' : World} {c : Conf} {d : Ad} {s : Int} {A : Option Addr} {l : List Int} {m : Nat} {o : Int} {b : Nat} {p : Po} (h : LkS w W c d s A l m o ∧ PoAt W b p) (hb : Below W.heap.size W W') : LkS w W' c d s A l m o ∧ PoAt W' b p :=
  ⟨h.1.below hb, h.2.below hb (Nat.le_refl _)⟩
theorem Ports.here {w : World} {b off : Nat} {l : List Po} (h : Ports w (some ⟨b, off, none⟩) l) {k : Nat} (hk : k < l.length) :
    w.cell? ⟨b, off + k * 6, none⟩ = some (.int .i64 (l.getD k default).part) ∧ w.cell? ⟨b, off + k * 6 + 1, none⟩ = some (.int .i64 (l.getD k default).kind) ∧ w.cell? ⟨b, off + k * 6 + 2, none⟩ = some (.int .i64 (l.getD k default).dir) ∧
      w.cell? ⟨b, off + k * 6 + 3, none⟩ = some (.int .i64 (l.getD k default).size) ∧ w.cell? ⟨b, off + k * 6 + 4, none⟩ = some (.int .i64 (l.getD k default).depth) ∧ w.cell? ⟨b, off + k * 6 + 5, none⟩ = some (.int .i64 (l.getD k default).fresh) := by
  obtain ⟨b', off', e, _, h⟩ := h.at hk
  cases e
  exact h
theorem lk_port {w : World} {c : Conf} {d : Ad} {s : Int} {A : Option Addr} {l : List Int} {m : Nat} {o : Int} {p : Po} {t u : TypeId} (v : TypeId) (h : LkS w ((w.alloc (.cells (c.cells d) t)).alloc (.cells #[.int .i64 s, .slice A l.length m, .int .i64 o] u)) c d s A l m o) :
    LkS w (((w.alloc (.cells (c.cells d) t)).alloc (.cells #[.int .i64 s, .slice A l.length m, .int .i64 o] u)).alloc (.cells p.cells v)) c d s A l m o ∧
      PoAt (((w.alloc (.cells (c.cells d) t)).alloc (.cells #[.int .i64 s, .slice A l.length m, .int .i64 o] u)).alloc (.cells p.cells v)) (w.heap.size + 2) p := by
  have h3 := po_new ((w.alloc (.cells (c.cells d) t)).alloc (.cells #[.int .i64 s, .slice A l.length m, .int .i64 o] u)) p v
  rw [show ((w.alloc (.cells (c.cells d) t)).alloc (.cells #[.int .i64 s, .slice A l.length m, .int .i64 o] u)).heap.size = w.heap.size + 2 from (Array.size_push _).trans (congrArg (· + 1) (Array.size_push _))] at h3
  exact ⟨h.below ((Below.refl _ _).alloc (Nat.le_refl _) _), h3⟩

set_option maxRecDepth 100000 in
set_option maxHeartbeats 16000000 in
theorem link_any (c : Conf) (d : Ad) (l : Lk) (Ai : Option Addr) (ci : Nat) (w : World) (hg : Glo w) (h : ConfAt w c d) (hi : Ints w Ai l.dests) (hci : l.dests.length ≤ ci) (hcm : ci ≤ maxLen) (hP : ∀ k, k < c.ports.length → PortB (c.ports.getD k default) = true) :
    Calls Tryd.prog 49 #[c.val d, .agg #[.int .i64 l.source, .slice Ai l.dests.length ci, .int .i64 l.offset]] w fun e w' => e = .returned (.bool (decide (LinkOk c l))) ∧ Below w.heap.size w w' := by
  have hS := LkS.first (s := l.source) (m := ci) (o := l.offset) 34 51 hg h hi
  clear hg h hi
  obtain ⟨oA, oC, pA, pC, wA, wC, qA, qC, lA, lC⟩ := d
  obtain ⟨source, dests, offset⟩ := l
  unfold Conf.val
  unfold Conf.cells at hS
  dsimp only at hS hci ⊢
  obtain ⟨⟨hb, ⟨hl, e0, e1, e2, e3, e4, e5, e6, e7, e8, e9, e10, e11⟩, hg, hc⟩, ⟨hkl, k0, k1, k2⟩, hi⟩ := id hS
  dsimp only at e1 e8 e9 e10 e11
  go_enter Tryd.func49, Tryd.ntmps49
  by_cases ho : ofB source c.ports.length = true
  · have ho2 := ho
    simp only [ofB, Bool.and_eq_true, decide_eq_true_eq] at ho2
    obtain ⟨u1, u2⟩ := ho2
    obtain ⟨s, rfl⟩ := Int.eq_ofNat_of_zero_le u1
    have hsl : s < c.ports.length := by omega
    obtain ⟨pb, po, hA, hpb, x0, x1, x2, x3, x4, x5⟩ := hc.ports.at hsl
    dsimp only at hA
    subst hA
    have hPs := hP s hsl
    obtain ⟨sp, hsp⟩ : ∃ p, c.ports.getD s default = p := ⟨_, rfl⟩
    rw [hsp] at x0 x1 x2 x3 x4 x5 hPs
    have HO := hide ho
    have HSP := hide hsp
    have HI := hide hi
    clear ho hsp hi hc hg
    by_cases hdir : sp.dir = 1
    · by_cases hne : dests.length = 0
      · have H : Hid (decide (LinkOk c ⟨s, dests, offset⟩) = false) := by
          show _ = _
          rw [decide_eq_false_iff_not]
          rintro ⟨_, _, a, _⟩
          exact a (List.eq_nil_of_length_eq_zero hne)
        have hnb : (((dests.length : Nat) : Int) == 0) = true := by simp; exact List.eq_nil_of_length_eq_zero hne
        have hdb : (sp.dir != 1) = false := by simp [hdir]
        clear hdir hne
        go_wp2_with (go_at_call 56; refine (of_ports _ _ _ _ _).mono ?_; rintro e w1 ⟨rfl, rfl⟩; rw [HO.out])
        go_ret
        exact ⟨by rw [H.out]; rfl, hb⟩
      · obtain ⟨spart, skind, sdir, ssize, sdepth, sfresh⟩ := sp
        dsimp only at hdir x0 x1 x2 x3 x4 x5
        subst hdir
        have hnb : (((dests.length : Nat) : Int) == 0) = false := by rw [beq_eq_false_iff_ne]; omega
        have HT1 := hide (show LkS w _ c ⟨oA, oC, pA, pC, wA, wC, some ⟨pb, po, none⟩, qC, lA, lC⟩ s Ai dests ci offset ∧ PoAt _ (w.heap.size + 2) ⟨spart, skind, 1, ssize, sdepth, sfresh⟩ from lk_port 49 hS)
        have HPS := hide hPs
        have hdm : dests.length ≤ 9223372036854775807 := Nat.le_trans hci hcm
        unfold Po.cells at HT1
        dsimp only at HT1
        clear hS hPs
        go_upto_region 5 with (go_at_call 56; refine (of_ports _ _ _ _ _).mono ?_; rintro e w1 ⟨rfl, rfl⟩; rw [HO.out])
        clear hb hl e0 e1 e2 e3 e4 e5 e6 e7 e8 e9 e10 e11 hkl k0 k1 k2 x0 x1 x2 x3 x4 x5
        (try simp only [hnb])
        go_loopw [39] (fun i W => ∃ j : Nat, j ≤ dests.length ∧ i = .int .i64 j ∧ (LkS w W c ⟨oA, oC, pA, pC, wA, wC, some ⟨pb, po, none⟩, qC, lA, lC⟩ s Ai dests ci offset ∧ PoAt W (w.heap.size + 2) ⟨spart, skind, 1, ssize, sdepth, sfresh⟩) ∧ Hid (∀ t, t < j → DestOk c ⟨spart, skind, 1, ssize, sdepth, sfresh⟩ (dests.getD t 0))) (fun i _ => dests.length - (intOf i).toNat)
        case atStart => exact ⟨0, by omega, rfl, HT1.out, fun t ht => by omega⟩
        case round =>
-- LOOP
            obtain ⟨j, hj, rfl, hT, H⟩ := hrel
            by_cases hjl : j < dests.length
            · obtain ⟨⟨⟨hb, ⟨hl, e0, e1, e2, e3, e4, e5, e6, e7, e8, e9, e10, e11⟩, hg, hc⟩, ⟨hkl, k0, k1, k2⟩, hi⟩, ⟨hpl, y0, y1, y2, y3, y4, y5⟩⟩ := id hT
              dsimp only at e1 e8 e9 e10 e11 y0 y1 y2 y3 y4 y5
              obtain ⟨ab, ao, hAi, hab, g0⟩ := hi.at hjl
              subst hAi
              obtain ⟨z, hz⟩ : ∃ z, dests.getD j 0 = z := ⟨_, rfl⟩
              rw [hz] at g0
              have HN : Hid (DestOk c ⟨spart, skind, 1, ssize, sdepth, sfresh⟩ z → ∀ t, t < j + 1 → DestOk c ⟨spart, skind, 1, ssize, sdepth, sfresh⟩ (dests.getD t 0)) := fun g t ht => by
                rcases Nat.lt_succ_iff_lt_or_eq.1 ht with h5 | rfl
                · exact H.out t h5
                · rw [hz]; exact g
              have HF : Hid (¬ DestOk c ⟨spart, skind, 1, ssize, sdepth, sfresh⟩ z → decide (LinkOk c ⟨s, dests, offset⟩) = false) := fun g => by
                rw [decide_eq_false_iff_not]
                rintro ⟨_, _, _, a, _⟩
                have a1 := a j hjl
                dsimp only at a1
                rw [show c.ports.getD ((s : Int)).toNat default = ⟨spart, skind, 1, ssize, sdepth, sfresh⟩ from HSP.out, hz] at a1
                exact g a1
              clear H hz
              by_cases hzo : ofB z c.ports.length = true
              · have HZ := hide hzo
                have hz2 := hzo
                simp only [ofB, Bool.and_eq_true, decide_eq_true_eq] at hz2
                obtain ⟨v1, v2⟩ := hz2
                obtain ⟨zn, rfl⟩ := Int.eq_ofNat_of_zero_le v1
                obtain ⟨t0, t1, t2, t3, t4, t5⟩ := hc.ports.here (k := zn) (by omega)
                obtain ⟨zp, hzp⟩ : ∃ p, c.ports.getD zn default = p := ⟨_, rfl⟩
                rw [hzp] at t0 t1 t2 t3 t4 t5
                obtain ⟨zpart, zkind, zdir, zsize, zdepth, zfresh⟩ := zp
                dsimp only at t0 t1 t2 t3 t4 t5
                have HZP := hide hzp
                have HD : Hid (DestOk c ⟨spart, skind, 1, ssize, sdepth, sfresh⟩ zn ↔ zdir = 2 ∧ zkind = skind ∧ zsize = ssize) := by
                  show _ ↔ _
                  unfold DestOk
                  rw [show c.ports.getD ((zn : Int)).toNat default = ⟨zpart, zkind, zdir, zsize, zdepth, zfresh⟩ from HZP.out]
                  exact ⟨fun g => g.2, fun g => ⟨HZ.out, g⟩⟩
                clear hzo hzp hc hg hi
                by_cases d1 : zdir = 2
                · subst d1
                  by_cases d2 : zkind = skind
                  · subst d2
                    by_cases d3 : zsize = ssize
                    · subst d3
                      have HK := hide (HN.out (HD.out.2 ⟨rfl, rfl, rfl⟩))
                      go_wp2_with fail
                      have hT' := hide (show LkS w wr.drew c ⟨oA, oC, pA, pC, wA, wC, some ⟨pb, po, none⟩, qC, lA, lC⟩ s (some ⟨ab, ao, none⟩) dests ci offset ∧ PoAt wr.drew (w.heap.size + 2) ⟨spart, zkind, 1, zsize, sdepth, sfresh⟩ from ⟨hT.1.below (Below.refl _ _).drew, hT.2.below (Below.refl _ _).drew (Nat.le_refl _)⟩)
                      refine wp_region_held_drew (S := fun w' => w'.cell? ⟨w.heap.size, 10, none⟩ = some (.slice (some ⟨pb, po, none⟩) c.ports.length qC) ∧ w'.cell? ⟨w.heap.size + 2, 1, none⟩ = some (.int .i64 zkind) ∧ w'.cell? ⟨w.heap.size + 2, 3, none⟩ = some (.int .i64 zsize) ∧ w'.cell? ⟨pb, po + zn * 6 + 2, none⟩ = some (.int .i64 2) ∧ w'.cell? ⟨pb, po + zn * 6 + 1, none⟩ = some (.int .i64 zkind) ∧ w'.cell? ⟨pb, po + zn * 6 + 3, none⟩ = some (.int .i64 zsize)) (by kernel_rfl) (⟨e10, y1, y3, t2, t1, t3⟩) (fun hHeld => ?_)
                      refine tkW 43 (i := 0) (v := ?v1_0) rfl rfl (by kernel_rfl) (fun _ _ _ h => h) ?y1_0 (by assumption) ?r1_0
                      case y1_0 => (intro W hSW; (try dsimp only at hSW); go_simp; (try with_reducible rfl))
                      (try simp only [Act.put, sA, sZ, sS])
                      refine tkW 44 (i := 1) (v := ?v1_1) rfl rfl (by kernel_rfl) (fun _ _ _ h => h) ?y1_1 (by assumption) ?r1_1
                      case y1_1 => (intro W hSW; (try dsimp only at hSW); go_simp; (try with_reducible rfl))
                      (try simp only [Act.put, sA, sZ, sS])
                      refine tkW 45 (i := 2) (v := ?v1_2) rfl rfl (by kernel_rfl) (fun _ _ _ h => h) ?y1_2 (by assumption) ?r1_2
                      case y1_2 => (intro W hSW; (try dsimp only at hSW); go_simp; (try with_reducible rfl))
                      (try simp only [Act.put, sA, sZ, sS])
                      refine wpAnyH_ready (rs := [3]) (by kernel_rfl) (by simp) ?_
                      refine AllReadyH.cons rfl (fun K hK => ?_) AllReadyH.nil
                      rw [if_pos (by rfl)]
                      go_simp
                      refine (of_ports _ _ _ _ _).mono ?_
                      rintro e w1 ⟨rfl, rfl⟩
                      rw [HZ.out]
                      go_wp2_with fail
                      refine hK.out _ _ (⟨e10, y1, y3, t2, t1, t3⟩) (fun hHeld => ?_)
                      clear hK K
                      (try simp only [Act.put, sA, sZ, sS])
                      refine tkW 47 (i := 4) (v := ?v1_4) rfl rfl (by kernel_rfl) (fun _ _ _ h => h) ?y1_4 (by assumption) ?r1_4
                      case y1_4 => (intro W hSW; (try dsimp only at hSW); go_simp; (try with_reducible rfl))
                      (try simp only [Act.put, sA, sZ, sS])
                      refine tkW 48 (i := 5) (v := ?v1_5) rfl rfl (by kernel_rfl) (fun _ _ _ h => h) ?y1_5 (by assumption) ?r1_5
                      case y1_5 => (intro W hSW; (try dsimp only at hSW); go_simp; (try with_reducible rfl))
                      (try simp only [Act.put, sA, sZ, sS])
                      refine tkW 49 (i := 6) (v := ?v1_6) rfl rfl (by kernel_rfl) (fun _ _ _ h => h) ?y1_6 (by assumption) ?r1_6
                      case y1_6 => (intro W hSW; (try dsimp only at hSW); go_simp; (try with_reducible rfl))
                      (try simp only [Act.put, sA, sZ, sS])
                      refine tkW 50 (i := 7) (v := ?v1_7) rfl rfl (by kernel_rfl) (fun _ _ _ h => h) ?y1_7 (by assumption) ?r1_7
                      case y1_7 => (intro W hSW; (try dsimp only at hSW); go_simp; (try with_reducible rfl))
                      (try simp only [Act.put, sA, sZ, sS])
                      refine tkW 51 (i := 8) (v := ?v1_8) rfl rfl (by kernel_rfl) (fun _ _ _ h => h) ?y1_8 (by assumption) ?r1_8
                      case y1_8 => (intro W hSW; (try dsimp only at hSW); go_simp; (try with_reducible rfl))
                      (try simp only [Act.put, sA, sZ, sS])
                      refine tkW 52 (i := 9) (v := ?v1_9) rfl rfl (by kernel_rfl) (fun _ _ _ h => h) ?y1_9 (by assumption) ?r1_9
                      case y1_9 => (intro W hSW; (try dsimp only at hSW); go_simp; (try with_reducible rfl))
                      (try simp only [Act.put, sA, sZ, sS])
                      refine tkW 53 (i := 10) (v := ?v1_10) rfl rfl (by kernel_rfl) (fun _ _ _ h => h) ?y1_10 (by assumption) ?r1_10
                      case y1_10 => (intro W hSW; (try dsimp only at hSW); go_simp; (try with_reducible rfl))
                      (try simp only [Act.put, sA, sZ, sS])
                      refine tkW 54 (i := 11) (v := ?v1_11) rfl rfl (by kernel_rfl) (fun _ _ _ h => h) ?y1_11 (by assumption) ?r1_11
                      case y1_11 => (intro W hSW; (try dsimp only at hSW); go_simp; (try with_reducible rfl))
                      (try simp only [Act.put, sA, sZ, sS])
                      refine tkW 55 (i := 12) (v := ?v1_12) rfl rfl (by kernel_rfl) (fun _ _ _ h => h) ?y1_12 (by assumption) ?r1_12
                      case y1_12 => (intro W hSW; (try dsimp only at hSW); go_simp; (try with_reducible rfl))
                      (try simp only [Act.put, sA, sZ, sS])
                      refine tkW 56 (i := 13) (v := ?v1_13) rfl rfl (by kernel_rfl) (fun _ _ _ h => h) ?y1_13 (by assumption) ?r1_13
                      case y1_13 => (intro W hSW; (try dsimp only at hSW); go_simp; (try with_reducible rfl))
                      (try simp only [Act.put, sA, sZ, sS])
                      refine tkW 57 (i := 14) (v := ?v1_14) rfl rfl (by kernel_rfl) (fun _ _ _ h => h) ?y1_14 (by assumption) ?r1_14
                      case y1_14 => (intro W hSW; (try dsimp only at hSW); go_simp; (try with_reducible rfl))
                      (try simp only [Act.put, sA, sZ, sS])
                      refine tkW 58 (i := 15) (v := ?v1_15) rfl rfl (by kernel_rfl) (fun _ _ _ h => h) ?y1_15 (by assumption) ?r1_15
                      case y1_15 => (intro W hSW; (try dsimp only at hSW); go_simp; (try with_reducible rfl))
                      (try simp only [Act.put, sA, sZ, sS])
                      refine tkW 59 (i := 16) (v := ?v1_16) rfl rfl (by kernel_rfl) (fun _ _ _ h => h) ?y1_16 (by assumption) ?r1_16
                      case y1_16 => (intro W hSW; (try dsimp only at hSW); go_simp; (try with_reducible rfl))
                      (try simp only [Act.put, sA, sZ, sS])
                      refine tkW 60 (i := 17) (v := ?v1_17) rfl rfl (by kernel_rfl) (fun _ _ _ h => h) ?y1_17 (by assumption) ?r1_17
                      case y1_17 => (intro W hSW; (try dsimp only at hSW); go_simp; (try with_reducible rfl))
                      (try simp only [Act.put, sA, sZ, sS])
                      refine tkW 61 (i := 18) (v := ?v1_18) rfl rfl (by kernel_rfl) (fun _ _ _ h => h) ?y1_18 (by assumption) ?r1_18
                      case y1_18 => (intro W hSW; (try dsimp only at hSW); go_simp; (try with_reducible rfl))
                      (try simp only [Act.put, sA, sZ, sS])
                      refine tkW 62 (i := 19) (v := ?v1_19) rfl rfl (by kernel_rfl) (fun _ _ _ h => h) ?y1_19 (by assumption) ?r1_19
                      case y1_19 => (intro W hSW; (try dsimp only at hSW); go_simp; (try with_reducible rfl))
                      (try simp only [Act.put, sA, sZ, sS])
                      refine tkW 63 (i := 20) (v := ?v1_20) rfl rfl (by kernel_rfl) (fun _ _ _ h => h) ?y1_20 (by assumption) ?r1_20
                      case y1_20 => (intro W hSW; (try dsimp only at hSW); go_simp; (try with_reducible rfl))
                      (try simp only [Act.put, sA, sZ, sS])
                      refine tkW 64 (i := 21) (v := ?v1_21) rfl rfl (by kernel_rfl) (fun _ _ _ h => h) ?y1_21 (by assumption) ?r1_21
                      case y1_21 => (intro W hSW; (try dsimp only at hSW); go_simp; (try with_reducible rfl))
                      (try simp only [Act.put, sA, sZ, sS])
                      refine tkW 65 (i := 22) (v := ?v1_22) rfl rfl (by kernel_rfl) (fun _ _ _ h => h) ?y1_22 (by assumption) ?r1_22
                      case y1_22 => (intro W hSW; (try dsimp only at hSW); go_simp; (try with_reducible rfl))
                      (try simp only [Act.put, sA, sZ, sS])
                      refine tkW 66 (i := 23) (v := ?v1_23) rfl rfl (by kernel_rfl) (fun _ _ _ h => h) ?y1_23 (by assumption) ?r1_23
                      case y1_23 => (intro W hSW; (try dsimp only at hSW); go_simp; (try with_reducible rfl))
                      (try simp only [Act.put, sA, sZ, sS])
                      refine tkW 67 (i := 24) (v := ?v1_24) rfl rfl (by kernel_rfl) (fun _ _ _ h => h) ?y1_24 (by assumption) ?r1_24
                      case y1_24 => (intro W hSW; (try dsimp only at hSW); go_simp; (try with_reducible rfl))
                      (try simp only [Act.put, sA, sZ, sS])
                      refine tkW 68 (i := 25) (v := ?v1_25) rfl rfl (by kernel_rfl) (fun _ _ _ h => h) ?y1_25 (by assumption) ?r1_25
                      case y1_25 => (intro W hSW; (try dsimp only at hSW); go_simp; (try with_reducible rfl))
                      (try simp only [Act.put, sA, sZ, sS])
                      refine tkW 69 (i := 26) (v := ?v1_26) rfl rfl (by kernel_rfl) (fun _ _ _ h => h) ?y1_26 (by assumption) ?r1_26
                      case y1_26 => (intro W hSW; (try dsimp only at hSW); go_simp; (try with_reducible rfl))
                      (try simp only [Act.put, sA, sZ, sS])
                      refine tkW 70 (i := 27) (v := ?v1_27) rfl rfl (by kernel_rfl) (fun _ _ _ h => h) ?y1_27 (by assumption) ?r1_27
                      case y1_27 => (intro W hSW; (try dsimp only at hSW); go_simp; (try with_reducible rfl))
                      (try simp only [Act.put, sA, sZ, sS])
                      refine tkW 71 (i := 28) (v := ?v1_28) rfl rfl (by kernel_rfl) (fun _ _ _ h => h) ?y1_28 (by assumption) ?r1_28
                      case y1_28 => (intro W hSW; (try dsimp only at hSW); go_simp; (try with_reducible rfl))
                      (try simp only [Act.put, sA, sZ, sS])
                      refine tkW 72 (i := 29) (v := ?v1_29) rfl rfl (by kernel_rfl) (fun _ _ _ h => h) ?y1_29 (by assumption) ?r1_29
                      case y1_29 => (intro W hSW; (try dsimp only at hSW); go_simp; (try with_reducible rfl))
                      (try simp only [Act.put, sA, sZ, sS])
                      refine tkW 73 (i := 30) (v := ?v1_30) rfl rfl (by kernel_rfl) (fun _ _ _ h => h) ?y1_30 (by assumption) ?r1_30
                      case y1_30 => (intro W hSW; (try dsimp only at hSW); go_simp; (try with_reducible rfl))
                      (try simp only [Act.put, sA, sZ, sS])
                      refine tkW 74 (i := 31) (v := ?v1_31) rfl rfl (by kernel_rfl) (fun _ _ _ h => h) ?y1_31 (by assumption) ?r1_31
                      case y1_31 => (intro W hSW; (try dsimp only at hSW); go_simp; (try with_reducible rfl))
                      (try simp only [Act.put, sA, sZ, sS])
                      refine tkW 75 (i := 32) (v := ?v1_32) rfl rfl (by kernel_rfl) (fun _ _ _ h => h) ?y1_32 (by assumption) ?r1_32
                      case y1_32 => (intro W hSW; (try dsimp only at hSW); go_simp; (try with_reducible rfl))
                      (try simp only [Act.put, sA, sZ, sS])
                      refine tkW 76 (i := 33) (v := ?v1_33) rfl rfl (by kernel_rfl) (fun _ _ _ h => h) ?y1_33 (by assumption) ?r1_33
                      case y1_33 => (intro W hSW; (try dsimp only at hSW); go_simp; (try with_reducible rfl))
                      (try simp only [Act.put, sA, sZ, sS])
                      refine tkW 77 (i := 34) (v := ?v1_34) rfl rfl (by kernel_rfl) (fun _ _ _ h => h) ?y1_34 (by assumption) ?r1_34
                      case y1_34 => (intro W hSW; (try dsimp only at hSW); go_simp; (try with_reducible rfl))
                      (try simp only [Act.put, sA, sZ, sS])
                      refine tkW 78 (i := 35) (v := ?v1_35) rfl rfl (by kernel_rfl) (fun _ _ _ h => h) ?y1_35 (by assumption) ?r1_35
                      case y1_35 => (intro W hSW; (try dsimp only at hSW); go_simp; (try with_reducible rfl))
                      (try simp only [Act.put, sA, sZ, sS])
                      refine wpAnyH_done (by kernel_rfl) ?_ _
                      go_wp2_with fail
                      go_roundw
                      case rel => exact ⟨j + 1, by omega, by go_num, hT'.out, HK⟩
                      case measure => simp [intOf]; omega
                    · have K : True := trivial
                      have HX := hide (HF.out (fun g => d3 (HD.out.1 g).2.2))
                      have n3 : (zsize != ssize) = true := by simpa using d3
                      go_wp2_with fail
                      refine wp_region_held_drew (S := fun w' => w'.cell? ⟨w.heap.size, 10, none⟩ = some (.slice (some ⟨pb, po, none⟩) c.ports.length qC) ∧ w'.cell? ⟨w.heap.size + 2, 1, none⟩ = some (.int .i64 zkind) ∧ w'.cell? ⟨w.heap.size + 2, 3, none⟩ = some (.int .i64 ssize) ∧ w'.cell? ⟨pb, po + zn * 6 + 2, none⟩ = some (.int .i64 2) ∧ w'.cell? ⟨pb, po + zn * 6 + 1, none⟩ = some (.int .i64 zkind) ∧ w'.cell? ⟨pb, po + zn * 6 + 3, none⟩ = some (.int .i64 zsize)) (by kernel_rfl) (⟨e10, y1, y3, t2, t1, t3⟩) (fun hHeld => ?_)
                      refine tkW 43 (i := 0) (v := ?v2_0) rfl rfl (by kernel_rfl) (fun _ _ _ h => h) ?y2_0 (by assumption) ?r2_0
                      case y2_0 => (intro W hSW; (try dsimp only at hSW); go_simp; (try with_reducible rfl))
                      (try simp only [Act.put, sA, sZ, sS])
                      refine tkW 44 (i := 1) (v := ?v2_1) rfl rfl (by kernel_rfl) (fun _ _ _ h => h) ?y2_1 (by assumption) ?r2_1
                      case y2_1 => (intro W hSW; (try dsimp only at hSW); go_simp; (try with_reducible rfl))
                      (try simp only [Act.put, sA, sZ, sS])
                      refine tkW 45 (i := 2) (v := ?v2_2) rfl rfl (by kernel_rfl) (fun _ _ _ h => h) ?y2_2 (by assumption) ?r2_2
                      case y2_2 => (intro W hSW; (try dsimp only at hSW); go_simp; (try with_reducible rfl))
                      (try simp only [Act.put, sA, sZ, sS])
                      refine wpAnyH_ready (rs := [3]) (by kernel_rfl) (by simp) ?_
                      refine AllReadyH.cons rfl (fun K hK => ?_) AllReadyH.nil
                      rw [if_pos (by rfl)]
                      go_simp
                      refine (of_ports _ _ _ _ _).mono ?_
                      rintro e w1 ⟨rfl, rfl⟩
                      rw [HZ.out]
                      go_wp2_with fail
                      refine hK.out _ _ (⟨e10, y1, y3, t2, t1, t3⟩) (fun hHeld => ?_)
                      clear hK K
                      (try simp only [Act.put, sA, sZ, sS])
                      refine tkW 47 (i := 4) (v := ?v2_4) rfl rfl (by kernel_rfl) (fun _ _ _ h => h) ?y2_4 (by assumption) ?r2_4
                      case y2_4 => (intro W hSW; (try dsimp only at hSW); go_simp; (try with_reducible rfl))
                      (try simp only [Act.put, sA, sZ, sS])
                      refine tkW 48 (i := 5) (v := ?v2_5) rfl rfl (by kernel_rfl) (fun _ _ _ h => h) ?y2_5 (by assumption) ?r2_5
                      case y2_5 => (intro W hSW; (try dsimp only at hSW); go_simp; (try with_reducible rfl))
                      (try simp only [Act.put, sA, sZ, sS])
                      refine tkW 49 (i := 6) (v := ?v2_6) rfl rfl (by kernel_rfl) (fun _ _ _ h => h) ?y2_6 (by assumption) ?r2_6
                      case y2_6 => (intro W hSW; (try dsimp only at hSW); go_simp; (try with_reducible rfl))
                      (try simp only [Act.put, sA, sZ, sS])
                      refine tkW 50 (i := 7) (v := ?v2_7) rfl rfl (by kernel_rfl) (fun _ _ _ h => h) ?y2_7 (by assumption) ?r2_7
                      case y2_7 => (intro W hSW; (try dsimp only at hSW); go_simp; (try with_reducible rfl))
                      (try simp only [Act.put, sA, sZ, sS])
                      refine tkW 51 (i := 8) (v := ?v2_8) rfl rfl (by kernel_rfl) (fun _ _ _ h => h) ?y2_8 (by assumption) ?r2_8
                      case y2_8 => (intro W hSW; (try dsimp only at hSW); go_simp; (try with_reducible rfl))
                      (try simp only [Act.put, sA, sZ, sS])
                      refine tkW 52 (i := 9) (v := ?v2_9) rfl rfl (by kernel_rfl) (fun _ _ _ h => h) ?y2_9 (by assumption) ?r2_9
                      case y2_9 => (intro W hSW; (try dsimp only at hSW); go_simp; (try with_reducible rfl))
                      (try simp only [Act.put, sA, sZ, sS])
                      refine tkW 53 (i := 10) (v := ?v2_10) rfl rfl (by kernel_rfl) (fun _ _ _ h => h) ?y2_10 (by assumption) ?r2_10
                      case y2_10 => (intro W hSW; (try dsimp only at hSW); go_simp; (try with_reducible rfl))
                      (try simp only [Act.put, sA, sZ, sS])
                      refine tkW 54 (i := 11) (v := ?v2_11) rfl rfl (by kernel_rfl) (fun _ _ _ h => h) ?y2_11 (by assumption) ?r2_11
                      case y2_11 => (intro W hSW; (try dsimp only at hSW); go_simp; (try with_reducible rfl))
                      (try simp only [Act.put, sA, sZ, sS])
                      refine tkW 55 (i := 12) (v := ?v2_12) rfl rfl (by kernel_rfl) (fun _ _ _ h => h) ?y2_12 (by assumption) ?r2_12
                      case y2_12 => (intro W hSW; (try dsimp only at hSW); go_simp; (try with_reducible rfl))
                      (try simp only [Act.put, sA, sZ, sS])
                      refine tkW 56 (i := 13) (v := ?v2_13) rfl rfl (by kernel_rfl) (fun _ _ _ h => h) ?y2_13 (by assumption) ?r2_13
                      case y2_13 => (intro W hSW; (try dsimp only at hSW); go_simp; (try with_reducible rfl))
                      (try simp only [Act.put, sA, sZ, sS])
                      refine tkW 57 (i := 14) (v := ?v2_14) rfl rfl (by kernel_rfl) (fun _ _ _ h => h) ?y2_14 (by assumption) ?r2_14
                      case y2_14 => (intro W hSW; (try dsimp only at hSW); go_simp; (try with_reducible rfl))
                      (try simp only [Act.put, sA, sZ, sS])
                      refine tkW 58 (i := 15) (v := ?v2_15) rfl rfl (by kernel_rfl) (fun _ _ _ h => h) ?y2_15 (by assumption) ?r2_15
                      case y2_15 => (intro W hSW; (try dsimp only at hSW); go_simp; (try with_reducible rfl))
                      (try simp only [Act.put, sA, sZ, sS])
                      refine tkW 59 (i := 16) (v := ?v2_16) rfl rfl (by kernel_rfl) (fun _ _ _ h => h) ?y2_16 (by assumption) ?r2_16
                      case y2_16 => (intro W hSW; (try dsimp only at hSW); go_simp; (try with_reducible rfl))
                      (try simp only [Act.put, sA, sZ, sS])
                      refine tkW 60 (i := 17) (v := ?v2_17) rfl rfl (by kernel_rfl) (fun _ _ _ h => h) ?y2_17 (by assumption) ?r2_17
                      case y2_17 => (intro W hSW; (try dsimp only at hSW); go_simp; (try with_reducible rfl))
                      (try simp only [Act.put, sA, sZ, sS])
                      refine tkW 61 (i := 18) (v := ?v2_18) rfl rfl (by kernel_rfl) (fun _ _ _ h => h) ?y2_18 (by assumption) ?r2_18
                      case y2_18 => (intro W hSW; (try dsimp only at hSW); go_simp; (try with_reducible rfl))
                      (try simp only [Act.put, sA, sZ, sS])
                      refine tkW 62 (i := 19) (v := ?v2_19) rfl rfl (by kernel_rfl) (fun _ _ _ h => h) ?y2_19 (by assumption) ?r2_19
                      case y2_19 => (intro W hSW; (try dsimp only at hSW); go_simp; (try with_reducible rfl))
                      (try simp only [Act.put, sA, sZ, sS])
                      refine tkW 63 (i := 20) (v := ?v2_20) rfl rfl (by kernel_rfl) (fun _ _ _ h => h) ?y2_20 (by assumption) ?r2_20
                      case y2_20 => (intro W hSW; (try dsimp only at hSW); go_simp; (try with_reducible rfl))
                      (try simp only [Act.put, sA, sZ, sS])
                      refine tkW 64 (i := 21) (v := ?v2_21) rfl rfl (by kernel_rfl) (fun _ _ _ h => h) ?y2_21 (by assumption) ?r2_21
                      case y2_21 => (intro W hSW; (try dsimp only at hSW); go_simp; (try with_reducible rfl))
                      (try simp only [Act.put, sA, sZ, sS])
                      refine tkW 65 (i := 22) (v := ?v2_22) rfl rfl (by kernel_rfl) (fun _ _ _ h => h) ?y2_22 (by assumption) ?r2_22
                      case y2_22 => (intro W hSW; (try dsimp only at hSW); go_simp; (try with_reducible rfl))
                      (try simp only [Act.put, sA, sZ, sS])
                      refine tkW 66 (i := 23) (v := ?v2_23) rfl rfl (by kernel_rfl) (fun _ _ _ h => h) ?y2_23 (by assumption) ?r2_23
                      case y2_23 => (intro W hSW; (try dsimp only at hSW); go_simp; (try with_reducible rfl))
                      (try simp only [Act.put, sA, sZ, sS])
                      refine tkW 67 (i := 24) (v := ?v2_24) rfl rfl (by kernel_rfl) (fun _ _ _ h => h) ?y2_24 (by assumption) ?r2_24
                      case y2_24 => (intro W hSW; (try dsimp only at hSW); go_simp; (try with_reducible rfl))
                      (try simp only [Act.put, sA, sZ, sS])
                      refine tkW 68 (i := 25) (v := ?v2_25) rfl rfl (by kernel_rfl) (fun _ _ _ h => h) ?y2_25 (by assumption) ?r2_25
                      case y2_25 => (intro W hSW; (try dsimp only at hSW); go_simp; (try with_reducible rfl))
                      (try simp only [Act.put, sA, sZ, sS])
                      refine tkW 69 (i := 26) (v := ?v2_26) rfl rfl (by kernel_rfl) (fun _ _ _ h => h) ?y2_26 (by assumption) ?r2_26
                      case y2_26 => (intro W hSW; (try dsimp only at hSW); go_simp; (try with_reducible rfl))
                      (try simp only [Act.put, sA, sZ, sS])
                      refine tkW 70 (i := 27) (v := ?v2_27) rfl rfl (by kernel_rfl) (fun _ _ _ h => h) ?y2_27 (by assumption) ?r2_27
                      case y2_27 => (intro W hSW; (try dsimp only at hSW); go_simp; (try with_reducible rfl))
                      (try simp only [Act.put, sA, sZ, sS])
                      refine tkW 71 (i := 28) (v := ?v2_28) rfl rfl (by kernel_rfl) (fun _ _ _ h => h) ?y2_28 (by assumption) ?r2_28
                      case y2_28 => (intro W hSW; (try dsimp only at hSW); go_simp; (try with_reducible rfl))
                      (try simp only [Act.put, sA, sZ, sS])
                      refine tkW 72 (i := 29) (v := ?v2_29) rfl rfl (by kernel_rfl) (fun _ _ _ h => h) ?y2_29 (by assumption) ?r2_29
                      case y2_29 => (intro W hSW; (try dsimp only at hSW); go_simp; (try with_reducible rfl))
                      (try simp only [Act.put, sA, sZ, sS])
                      refine tkW 73 (i := 30) (v := ?v2_30) rfl rfl (by kernel_rfl) (fun _ _ _ h => h) ?y2_30 (by assumption) ?r2_30
                      case y2_30 => (intro W hSW; (try dsimp only at hSW); go_simp; (try with_reducible rfl))
                      (try simp only [Act.put, sA, sZ, sS])
                      refine tkW 74 (i := 31) (v := ?v2_31) rfl rfl (by kernel_rfl) (fun _ _ _ h => h) ?y2_31 (by assumption) ?r2_31
                      case y2_31 => (intro W hSW; (try dsimp only at hSW); go_simp; (try with_reducible rfl))
                      (try simp only [Act.put, sA, sZ, sS])
                      refine tkW 75 (i := 32) (v := ?v2_32) rfl rfl (by kernel_rfl) (fun _ _ _ h => h) ?y2_32 (by assumption) ?r2_32
                      case y2_32 => (intro W hSW; (try dsimp only at hSW); go_simp; (try with_reducible rfl))
                      (try simp only [Act.put, sA, sZ, sS])
                      refine tkW 76 (i := 33) (v := ?v2_33) rfl rfl (by kernel_rfl) (fun _ _ _ h => h) ?y2_33 (by assumption) ?r2_33
                      case y2_33 => (intro W hSW; (try dsimp only at hSW); go_simp; (try with_reducible rfl))
                      (try simp only [Act.put, sA, sZ, sS])
                      refine tkW 77 (i := 34) (v := ?v2_34) rfl rfl (by kernel_rfl) (fun _ _ _ h => h) ?y2_34 (by assumption) ?r2_34
                      case y2_34 => (intro W hSW; (try dsimp only at hSW); go_simp; (try with_reducible rfl))
                      (try simp only [Act.put, sA, sZ, sS])
                      refine tkW 78 (i := 35) (v := ?v2_35) rfl rfl (by kernel_rfl) (fun _ _ _ h => h) ?y2_35 (by assumption) ?r2_35
                      case y2_35 => (intro W hSW; (try dsimp only at hSW); go_simp; (try with_reducible rfl))
                      (try simp only [Act.put, sA, sZ, sS])
                      refine wpAnyH_done (by kernel_rfl) ?_ _
                      go_wp2_with fail
                      go_ret
                      exact ⟨by rw [HX.out]; rfl, hT.1.cf.bel.drew⟩
                  · have K : True := trivial
                    have HX := hide (HF.out (fun g => d2 (HD.out.1 g).2.1))
                    have n2 : (zkind != skind) = true := by simpa using d2
                    go_wp2_with fail
                    refine wp_region_held_drew (S := fun w' => w'.cell? ⟨w.heap.size, 10, none⟩ = some (.slice (some ⟨pb, po, none⟩) c.ports.length qC) ∧ w'.cell? ⟨w.heap.size + 2, 1, none⟩ = some (.int .i64 skind) ∧ w'.cell? ⟨w.heap.size + 2, 3, none⟩ = some (.int .i64 ssize) ∧ w'.cell? ⟨pb, po + zn * 6 + 2, none⟩ = some (.int .i64 2) ∧ w'.cell? ⟨pb, po + zn * 6 + 1, none⟩ = some (.int .i64 zkind) ∧ w'.cell? ⟨pb, po + zn * 6 + 3, none⟩ = some (.int .i64 zsize)) (by kernel_rfl) (⟨e10, y1, y3, t2, t1, t3⟩) (fun hHeld => ?_)
                    refine tkW 43 (i := 0) (v := ?v3_0) rfl rfl (by kernel_rfl) (fun _ _ _ h => h) ?y3_0 (by assumption) ?r3_0
                    case y3_0 => (intro W hSW; (try dsimp only at hSW); go_simp; (try with_reducible rfl))
                    (try simp only [Act.put, sA, sZ, sS])
                    refine tkW 44 (i := 1) (v := ?v3_1) rfl rfl (by kernel_rfl) (fun _ _ _ h => h) ?y3_1 (by assumption) ?r3_1
                    case y3_1 => (intro W hSW; (try dsimp only at hSW); go_simp; (try with_reducible rfl))
                    (try simp only [Act.put, sA, sZ, sS])
                    refine tkW 45 (i := 2) (v := ?v3_2) rfl rfl (by kernel_rfl) (fun _ _ _ h => h) ?y3_2 (by assumption) ?r3_2
                    case y3_2 => (intro W hSW; (try dsimp only at hSW); go_simp; (try with_reducible rfl))
                    (try simp only [Act.put, sA, sZ, sS])
                    refine wpAnyH_ready (rs := [3]) (by kernel_rfl) (by simp) ?_
                    refine AllReadyH.cons rfl (fun K hK => ?_) AllReadyH.nil
                    rw [if_pos (by rfl)]
                    go_simp
                    refine (of_ports _ _ _ _ _).mono ?_
                    rintro e w1 ⟨rfl, rfl⟩
                    rw [HZ.out]
                    go_wp2_with fail
                    refine hK.out _ _ (⟨e10, y1, y3, t2, t1, t3⟩) (fun hHeld => ?_)
                    clear hK K
                    (try simp only [Act.put, sA, sZ, sS])
                    refine tkW 47 (i := 4) (v := ?v3_4) rfl rfl (by kernel_rfl) (fun _ _ _ h => h) ?y3_4 (by assumption) ?r3_4
                    case y3_4 => (intro W hSW; (try dsimp only at hSW); go_simp; (try with_reducible rfl))
                    (try simp only [Act.put, sA, sZ, sS])
                    refine tkW 48 (i := 5) (v := ?v3_5) rfl rfl (by kernel_rfl) (fun _ _ _ h => h) ?y3_5 (by assumption) ?r3_5
                    case y3_5 => (intro W hSW; (try dsimp only at hSW); go_simp; (try with_reducible rfl))
                    (try simp only [Act.put, sA, sZ, sS])
                    refine tkW 49 (i := 6) (v := ?v3_6) rfl rfl (by kernel_rfl) (fun _ _ _ h => h) ?y3_6 (by assumption) ?r3_6
                    case y3_6 => (intro W hSW; (try dsimp only at hSW); go_simp; (try with_reducible rfl))
                    (try simp only [Act.put, sA, sZ, sS])
                    refine tkW 50 (i := 7) (v := ?v3_7) rfl rfl (by kernel_rfl) (fun _ _ _ h => h) ?y3_7 (by assumption) ?r3_7
                    case y3_7 => (intro W hSW; (try dsimp only at hSW); go_simp; (try with_reducible rfl))
                    (try simp only [Act.put, sA, sZ, sS])
                    refine tkW 51 (i := 8) (v := ?v3_8) rfl rfl (by kernel_rfl) (fun _ _ _ h => h) ?y3_8 (by assumption) ?r3_8
                    case y3_8 => (intro W hSW; (try dsimp only at hSW); go_simp; (try with_reducible rfl))
                    (try simp only [Act.put, sA, sZ, sS])
                    refine tkW 52 (i := 9) (v := ?v3_9) rfl rfl (by kernel_rfl) (fun _ _ _ h => h) ?y3_9 (by assumption) ?r3_9
                    case y3_9 => (intro W hSW; (try dsimp only at hSW); go_simp; (try with_reducible rfl))
                    (try simp only [Act.put, sA, sZ, sS])
                    refine tkW 53 (i := 10) (v := ?v3_10) rfl rfl (by kernel_rfl) (fun _ _ _ h => h) ?y3_10 (by assumption) ?r3_10
                    case y3_10 => (intro W hSW; (try dsimp only at hSW); go_simp; (try with_reducible rfl))
                    (try simp only [Act.put, sA, sZ, sS])
                    refine tkW 54 (i := 11) (v := ?v3_11) rfl rfl (by kernel_rfl) (fun _ _ _ h => h) ?y3_11 (by assumption) ?r3_11
                    case y3_11 => (intro W hSW; (try dsimp only at hSW); go_simp; (try with_reducible rfl))
                    (try simp only [Act.put, sA, sZ, sS])
                    refine tkW 55 (i := 12) (v := ?v3_12) rfl rfl (by kernel_rfl) (fun _ _ _ h => h) ?y3_12 (by assumption) ?r3_12
                    case y3_12 => (intro W hSW; (try dsimp only at hSW); go_simp; (try with_reducible rfl))
                    (try simp only [Act.put, sA, sZ, sS])
                    refine tkW 56 (i := 13) (v := ?v3_13) rfl rfl (by kernel_rfl) (fun _ _ _ h => h) ?y3_13 (by assumption) ?r3_13
                    case y3_13 => (intro W hSW; (try dsimp only at hSW); go_simp; (try with_reducible rfl))
                    (try simp only [Act.put, sA, sZ, sS])
                    refine tkW 57 (i := 14) (v := ?v3_14) rfl rfl (by kernel_rfl) (fun _ _ _ h => h) ?y3_14 (by assumption) ?r3_14
                    case y3_14 => (intro W hSW; (try dsimp only at hSW); go_simp; (try with_reducible rfl))
                    (try simp only [Act.put, sA, sZ, sS])
                    refine tkW 58 (i := 15) (v := ?v3_15) rfl rfl (by kernel_rfl) (fun _ _ _ h => h) ?y3_15 (by assumption) ?r3_15
                    case y3_15 => (intro W hSW; (try dsimp only at hSW); go_simp; (try with_reducible rfl))
                    (try simp only [Act.put, sA, sZ, sS])
                    refine tkW 59 (i := 16) (v := ?v3_16) rfl rfl (by kernel_rfl) (fun _ _ _ h => h) ?y3_16 (by assumption) ?r3_16
                    case y3_16 => (intro W hSW; (try dsimp only at hSW); go_simp; (try with_reducible rfl))
                    (try simp only [Act.put, sA, sZ, sS])
                    refine tkW 60 (i := 17) (v := ?v3_17) rfl rfl (by kernel_rfl) (fun _ _ _ h => h) ?y3_17 (by assumption) ?r3_17
                    case y3_17 => (intro W hSW; (try dsimp only at hSW); go_simp; (try with_reducible rfl))
                    (try simp only [Act.put, sA, sZ, sS])
                    refine tkW 61 (i := 18) (v := ?v3_18) rfl rfl (by kernel_rfl) (fun _ _ _ h => h) ?y3_18 (by assumption) ?r3_18
                    case y3_18 => (intro W hSW; (try dsimp only at hSW); go_simp; (try with_reducible rfl))
                    (try simp only [Act.put, sA, sZ, sS])
                    refine tkW 62 (i := 19) (v := ?v3_19) rfl rfl (by kernel_rfl) (fun _ _ _ h => h) ?y3_19 (by assumption) ?r3_19
                    case y3_19 => (intro W hSW; (try dsimp only at hSW); go_simp; (try with_reducible rfl))
                    (try simp only [Act.put, sA, sZ, sS])
                    refine tkW 63 (i := 20) (v := ?v3_20) rfl rfl (by kernel_rfl) (fun _ _ _ h => h) ?y3_20 (by assumption) ?r3_20
                    case y3_20 => (intro W hSW; (try dsimp only at hSW); go_simp; (try with_reducible rfl))
                    (try simp only [Act.put, sA, sZ, sS])
                    refine tkW 64 (i := 21) (v := ?v3_21) rfl rfl (by kernel_rfl) (fun _ _ _ h => h) ?y3_21 (by assumption) ?r3_21
                    case y3_21 => (intro W hSW; (try dsimp only at hSW); go_simp; (try with_reducible rfl))
                    (try simp only [Act.put, sA, sZ, sS])
                    refine tkW 65 (i := 22) (v := ?v3_22) rfl rfl (by kernel_rfl) (fun _ _ _ h => h) ?y3_22 (by assumption) ?r3_22
                    case y3_22 => (intro W hSW; (try dsimp only at hSW); go_simp; (try with_reducible rfl))
                    (try simp only [Act.put, sA, sZ, sS])
                    refine tkW 66 (i := 23) (v := ?v3_23) rfl rfl (by kernel_rfl) (fun _ _ _ h => h) ?y3_23 (by assumption) ?r3_23
                    case y3_23 => (intro W hSW; (try dsimp only at hSW); go_simp; (try with_reducible rfl))
                    (try simp only [Act.put, sA, sZ, sS])
                    refine tkW 67 (i := 24) (v := ?v3_24) rfl rfl (by kernel_rfl) (fun _ _ _ h => h) ?y3_24 (by assumption) ?r3_24
                    case y3_24 => (intro W hSW; (try dsimp only at hSW); go_simp; (try with_reducible rfl))
                    (try simp only [Act.put, sA, sZ, sS])
                    refine tkW 68 (i := 25) (v := ?v3_25) rfl rfl (by kernel_rfl) (fun _ _ _ h => h) ?y3_25 (by assumption) ?r3_25
                    case y3_25 => (intro W hSW; (try dsimp only at hSW); go_simp; (try with_reducible rfl))
                    (try simp only [Act.put, sA, sZ, sS])
                    refine tkU 69 (i := 26) rfl rfl (by kernel_rfl) (fun _ _ _ h => h) (by assumption) ?_
                    (try simp only [Act.put, sA, sZ, sS])
                    refine tkU 70 (i := 27) rfl rfl (by kernel_rfl) (fun _ _ _ h => h) (by assumption) ?_
                    (try simp only [Act.put, sA, sZ, sS])
                    refine tkU 71 (i := 28) rfl rfl (by kernel_rfl) (fun _ _ _ h => h) (by assumption) ?_
                    (try simp only [Act.put, sA, sZ, sS])
                    refine tkU 72 (i := 29) rfl rfl (by kernel_rfl) (fun _ _ _ h => h) (by assumption) ?_
                    (try simp only [Act.put, sA, sZ, sS])
                    refine tkU 73 (i := 30) rfl rfl (by kernel_rfl) (fun _ _ _ h => h) (by assumption) ?_
                    (try simp only [Act.put, sA, sZ, sS])
                    refine tkU 74 (i := 31) rfl rfl (by kernel_rfl) (fun _ _ _ h => h) (by assumption) ?_
                    (try simp only [Act.put, sA, sZ, sS])
                    refine tkU 75 (i := 32) rfl rfl (by kernel_rfl) (fun _ _ _ h => h) (by assumption) ?_
                    (try simp only [Act.put, sA, sZ, sS])
                    refine tkU 76 (i := 33) rfl rfl (by kernel_rfl) (fun _ _ _ h => h) (by assumption) ?_
                    (try simp only [Act.put, sA, sZ, sS])
                    refine tkU 77 (i := 34) rfl rfl (by kernel_rfl) (fun _ _ _ h => h) (by assumption) ?_
                    (try simp only [Act.put, sA, sZ, sS])
                    refine tkW 78 (i := 35) (v := ?v3_35) rfl rfl (by kernel_rfl) (fun _ _ _ h => h) ?y3_35 (by assumption) ?r3_35
                    case y3_35 => (intro W hSW; (try dsimp only at hSW); go_simp; (try with_reducible rfl))
                    (try simp only [Act.put, sA, sZ, sS])
                    refine wpAnyH_done (by kernel_rfl) ?_ _
                    go_wp2_with fail
                    go_ret
                    exact ⟨by rw [HX.out]; rfl, hT.1.cf.bel.drew⟩
                · have K : True := trivial
                  have HX := hide (HF.out (fun g => d1 (HD.out.1 g).1))
                  have n1 : (zdir != 2) = true := by simpa using d1
                  go_wp2_with fail
                  refine wp_region_held_drew (S := fun w' => w'.cell? ⟨w.heap.size, 10, none⟩ = some (.slice (some ⟨pb, po, none⟩) c.ports.length qC) ∧ w'.cell? ⟨w.heap.size + 2, 1, none⟩ = some (.int .i64 skind) ∧ w'.cell? ⟨w.heap.size + 2, 3, none⟩ = some (.int .i64 ssize) ∧ w'.cell? ⟨pb, po + zn * 6 + 2, none⟩ = some (.int .i64 zdir) ∧ w'.cell? ⟨pb, po + zn * 6 + 1, none⟩ = some (.int .i64 zkind) ∧ w'.cell? ⟨pb, po + zn * 6 + 3, none⟩ = some (.int .i64 zsize)) (by kernel_rfl) (⟨e10, y1, y3, t2, t1, t3⟩) (fun hHeld => ?_)
                  refine tkW 43 (i := 0) (v := ?v4_0) rfl rfl (by kernel_rfl) (fun _ _ _ h => h) ?y4_0 (by assumption) ?r4_0
                  case y4_0 => (intro W hSW; (try dsimp only at hSW); go_simp; (try with_reducible rfl))
                  (try simp only [Act.put, sA, sZ, sS])
                  refine tkW 44 (i := 1) (v := ?v4_1) rfl rfl (by kernel_rfl) (fun _ _ _ h => h) ?y4_1 (by assumption) ?r4_1
                  case y4_1 => (intro W hSW; (try dsimp only at hSW); go_simp; (try with_reducible rfl))
                  (try simp only [Act.put, sA, sZ, sS])
                  refine tkW 45 (i := 2) (v := ?v4_2) rfl rfl (by kernel_rfl) (fun _ _ _ h => h) ?y4_2 (by assumption) ?r4_2
                  case y4_2 => (intro W hSW; (try dsimp only at hSW); go_simp; (try with_reducible rfl))
                  (try simp only [Act.put, sA, sZ, sS])
                  refine wpAnyH_ready (rs := [3]) (by kernel_rfl) (by simp) ?_
                  refine AllReadyH.cons rfl (fun K hK => ?_) AllReadyH.nil
                  rw [if_pos (by rfl)]
                  go_simp
                  refine (of_ports _ _ _ _ _).mono ?_
                  rintro e w1 ⟨rfl, rfl⟩
                  rw [HZ.out]
                  go_wp2_with fail
                  refine hK.out _ _ (⟨e10, y1, y3, t2, t1, t3⟩) (fun hHeld => ?_)
                  clear hK K
                  (try simp only [Act.put, sA, sZ, sS])
                  refine tkW 47 (i := 4) (v := ?v4_4) rfl rfl (by kernel_rfl) (fun _ _ _ h => h) ?y4_4 (by assumption) ?r4_4
                  case y4_4 => (intro W hSW; (try dsimp only at hSW); go_simp; (try with_reducible rfl))
                  (try simp only [Act.put, sA, sZ, sS])
                  refine tkW 48 (i := 5) (v := ?v4_5) rfl rfl (by kernel_rfl) (fun _ _ _ h => h) ?y4_5 (by assumption) ?r4_5
                  case y4_5 => (intro W hSW; (try dsimp only at hSW); go_simp; (try with_reducible rfl))
                  (try simp only [Act.put, sA, sZ, sS])
                  refine tkW 49 (i := 6) (v := ?v4_6) rfl rfl (by kernel_rfl) (fun _ _ _ h => h) ?y4_6 (by assumption) ?r4_6
                  case y4_6 => (intro W hSW; (try dsimp only at hSW); go_simp; (try with_reducible rfl))
                  (try simp only [Act.put, sA, sZ, sS])
                  refine tkW 50 (i := 7) (v := ?v4_7) rfl rfl (by kernel_rfl) (fun _ _ _ h => h) ?y4_7 (by assumption) ?r4_7
                  case y4_7 => (intro W hSW; (try dsimp only at hSW); go_simp; (try with_reducible rfl))
                  (try simp only [Act.put, sA, sZ, sS])
                  refine tkW 51 (i := 8) (v := ?v4_8) rfl rfl (by kernel_rfl) (fun _ _ _ h => h) ?y4_8 (by assumption) ?r4_8
                  case y4_8 => (intro W hSW; (try dsimp only at hSW); go_simp; (try with_reducible rfl))
                  (try simp only [Act.put, sA, sZ, sS])
                  refine tkW 52 (i := 9) (v := ?v4_9) rfl rfl (by kernel_rfl) (fun _ _ _ h => h) ?y4_9 (by assumption) ?r4_9
                  case y4_9 => (intro W hSW; (try dsimp only at hSW); go_simp; (try with_reducible rfl))
                  (try simp only [Act.put, sA, sZ, sS])
                  refine tkW 53 (i := 10) (v := ?v4_10) rfl rfl (by kernel_rfl) (fun _ _ _ h => h) ?y4_10 (by assumption) ?r4_10
                  case y4_10 => (intro W hSW; (try dsimp only at hSW); go_simp; (try with_reducible rfl))
                  (try simp only [Act.put, sA, sZ, sS])
                  refine tkW 54 (i := 11) (v := ?v4_11) rfl rfl (by kernel_rfl) (fun _ _ _ h => h) ?y4_11 (by assumption) ?r4_11
                  case y4_11 => (intro W hSW; (try dsimp only at hSW); go_simp; (try with_reducible rfl))
                  (try simp only [Act.put, sA, sZ, sS])
                  refine tkW 55 (i := 12) (v := ?v4_12) rfl rfl (by kernel_rfl) (fun _ _ _ h => h) ?y4_12 (by assumption) ?r4_12
                  case y4_12 => (intro W hSW; (try dsimp only at hSW); go_simp; (try with_reducible rfl))
                  (try simp only [Act.put, sA, sZ, sS])
                  refine tkW 56 (i := 13) (v := ?v4_13) rfl rfl (by kernel_rfl) (fun _ _ _ h => h) ?y4_13 (by assumption) ?r4_13
                  case y4_13 => (intro W hSW; (try dsimp only at hSW); go_simp; (try with_reducible rfl))
                  (try simp only [Act.put, sA, sZ, sS])
                  refine tkW 57 (i := 14) (v := ?v4_14) rfl rfl (by kernel_rfl) (fun _ _ _ h => h) ?y4_14 (by assumption) ?r4_14
                  case y4_14 => (intro W hSW; (try dsimp only at hSW); go_simp; (try with_reducible rfl))
                  (try simp only [Act.put, sA, sZ, sS])
                  refine tkU 58 (i := 15) rfl rfl (by kernel_rfl) (fun _ _ _ h => h) (by assumption) ?_
                  (try simp only [Act.put, sA, sZ, sS])
                  refine tkU 59 (i := 16) rfl rfl (by kernel_rfl) (fun _ _ _ h => h) (by assumption) ?_
                  (try simp only [Act.put, sA, sZ, sS])
                  refine tkU 60 (i := 17) rfl rfl (by kernel_rfl) (fun _ _ _ h => h) (by assumption) ?_
                  (try simp only [Act.put, sA, sZ, sS])
                  refine tkU 61 (i := 18) rfl rfl (by kernel_rfl) (fun _ _ _ h => h) (by assumption) ?_
                  (try simp only [Act.put, sA, sZ, sS])
                  refine tkU 62 (i := 19) rfl rfl (by kernel_rfl) (fun _ _ _ h => h) (by assumption) ?_
                  (try simp only [Act.put, sA, sZ, sS])
                  refine tkU 63 (i := 20) rfl rfl (by kernel_rfl) (fun _ _ _ h => h) (by assumption) ?_
                  (try simp only [Act.put, sA, sZ, sS])
                  refine tkU 64 (i := 21) rfl rfl (by kernel_rfl) (fun _ _ _ h => h) (by assumption) ?_
                  (try simp only [Act.put, sA, sZ, sS])
                  refine tkU 65 (i := 22) rfl rfl (by kernel_rfl) (fun _ _ _ h => h) (by assumption) ?_
                  (try simp only [Act.put, sA, sZ, sS])
                  refine tkU 66 (i := 23) rfl rfl (by kernel_rfl) (fun _ _ _ h => h) (by assumption) ?_
                  (try simp only [Act.put, sA, sZ, sS])
                  refine tkW 67 (i := 24) (v := ?v4_24) rfl rfl (by kernel_rfl) (fun _ _ _ h => h) ?y4_24 (by assumption) ?r4_24
                  case y4_24 => (intro W hSW; (try dsimp only at hSW); go_simp; (try with_reducible rfl))
                  (try simp only [Act.put, sA, sZ, sS])
                  refine tkW 68 (i := 25) (v := ?v4_25) rfl rfl (by kernel_rfl) (fun _ _ _ h => h) ?y4_25 (by assumption) ?r4_25
                  case y4_25 => (intro W hSW; (try dsimp only at hSW); go_simp; (try with_reducible rfl))
                  (try simp only [Act.put, sA, sZ, sS])
                  refine tkU 69 (i := 26) rfl rfl (by kernel_rfl) (fun _ _ _ h => h) (by assumption) ?_
                  (try simp only [Act.put, sA, sZ, sS])
                  refine tkU 70 (i := 27) rfl rfl (by kernel_rfl) (fun _ _ _ h => h) (by assumption) ?_
                  (try simp only [Act.put, sA, sZ, sS])
                  refine tkU 71 (i := 28) rfl rfl (by kernel_rfl) (fun _ _ _ h => h) (by assumption) ?_
                  (try simp only [Act.put, sA, sZ, sS])
                  refine tkU 72 (i := 29) rfl rfl (by kernel_rfl) (fun _ _ _ h => h) (by assumption) ?_
                  (try simp only [Act.put, sA, sZ, sS])
                  refine tkU 73 (i := 30) rfl rfl (by kernel_rfl) (fun _ _ _ h => h) (by assumption) ?_
                  (try simp only [Act.put, sA, sZ, sS])
                  refine tkU 74 (i := 31) rfl rfl (by kernel_rfl) (fun _ _ _ h => h) (by assumption) ?_
                  (try simp only [Act.put, sA, sZ, sS])
                  refine tkU 75 (i := 32) rfl rfl (by kernel_rfl) (fun _ _ _ h => h) (by assumption) ?_
                  (try simp only [Act.put, sA, sZ, sS])
                  refine tkU 76 (i := 33) rfl rfl (by kernel_rfl) (fun _ _ _ h => h) (by assumption) ?_
                  (try simp only [Act.put, sA, sZ, sS])
                  refine tkU 77 (i := 34) rfl rfl (by kernel_rfl) (fun _ _ _ h => h) (by assumption) ?_
                  (try simp only [Act.put, sA, sZ, sS])
                  refine tkW 78 (i := 35) (v := ?v4_35) rfl rfl (by kernel_rfl) (fun _ _ _ h => h) ?y4_35 (by assumption) ?r4_35
                  case y4_35 => (intro W hSW; (try dsimp only at hSW); go_simp; (try with_reducible rfl))
                  (try simp only [Act.put, sA, sZ, sS])
                  refine wpAnyH_done (by kernel_rfl) ?_ _
                  go_wp2_with fail
                  go_ret
                  exact ⟨by rw [HX.out]; rfl, hT.1.cf.bel.drew⟩
              · have HX := hide (HF.out (fun g => hzo g.1))
                have HZ : Hid (ofB z c.ports.length = false) := Bool.not_eq_true _ ▸ hzo
                clear hzo hc hg hi
                go_wp2_with fail
                refine wp_region_held_drew (S := fun w' => w'.cell? ⟨w.heap.size, 10, none⟩ = some (.slice (some ⟨pb, po, none⟩) c.ports.length qC)) (by kernel_rfl) (e10) (fun hHeld => ?_)
                refine tkW 43 (i := 0) (v := ?v5_0) rfl rfl (by kernel_rfl) (fun _ _ _ h => h) ?y5_0 (by assumption) ?r5_0
                case y5_0 => (intro W hSW; (try dsimp only at hSW); go_simp; (try with_reducible rfl))
                (try simp only [Act.put, sA, sZ, sS])
                refine tkW 44 (i := 1) (v := ?v5_1) rfl rfl (by kernel_rfl) (fun _ _ _ h => h) ?y5_1 (by assumption) ?r5_1
                case y5_1 => (intro W hSW; (try dsimp only at hSW); go_simp; (try with_reducible rfl))
                (try simp only [Act.put, sA, sZ, sS])
                refine tkW 45 (i := 2) (v := ?v5_2) rfl rfl (by kernel_rfl) (fun _ _ _ h => h) ?y5_2 (by assumption) ?r5_2
                case y5_2 => (intro W hSW; (try dsimp only at hSW); go_simp; (try with_reducible rfl))
                (try simp only [Act.put, sA, sZ, sS])
                refine wpAnyH_ready (rs := [3]) (by kernel_rfl) (by simp) ?_
                refine AllReadyH.cons rfl (fun K hK => ?_) AllReadyH.nil
                rw [if_pos (by rfl)]
                go_simp
                refine (of_ports _ _ _ _ _).mono ?_
                rintro e w1 ⟨rfl, rfl⟩
                rw [HZ.out]
                go_wp2_with fail
                refine hK.out _ _ (e10) (fun hHeld => ?_)
                clear hK K
                (try simp only [Act.put, sA, sZ, sS])
                refine tkW 47 (i := 4) (v := ?v5_4) rfl rfl (by kernel_rfl) (fun _ _ _ h => h) ?y5_4 (by assumption) ?r5_4
                case y5_4 => (intro W hSW; (try dsimp only at hSW); go_simp; (try with_reducible rfl))
                (try simp only [Act.put, sA, sZ, sS])
                refine tkW 48 (i := 5) (v := ?v5_5) rfl rfl (by kernel_rfl) (fun _ _ _ h => h) ?y5_5 (by assumption) ?r5_5
                case y5_5 => (intro W hSW; (try dsimp only at hSW); go_simp; (try with_reducible rfl))
                (try simp only [Act.put, sA, sZ, sS])
                refine tkU 49 (i := 6) rfl rfl (by kernel_rfl) (fun _ _ _ h => h) (by assumption) ?_
                (try simp only [Act.put, sA, sZ, sS])
                refine tkU 50 (i := 7) rfl rfl (by kernel_rfl) (fun _ _ _ h => h) (by assumption) ?_
                (try simp only [Act.put, sA, sZ, sS])
                refine tkU 51 (i := 8) rfl rfl (by kernel_rfl) (fun _ _ _ h => h) (by assumption) ?_
                (try simp only [Act.put, sA, sZ, sS])
                refine tkU 52 (i := 9) rfl rfl (by kernel_rfl) (fun _ _ _ h => h) (by assumption) ?_
                (try simp only [Act.put, sA, sZ, sS])
                refine tkU 53 (i := 10) rfl rfl (by kernel_rfl) (fun _ _ _ h => h) (by assumption) ?_
                (try simp only [Act.put, sA, sZ, sS])
                refine tkU 54 (i := 11) rfl rfl (by kernel_rfl) (fun _ _ _ h => h) (by assumption) ?_
                (try simp only [Act.put, sA, sZ, sS])
                refine tkU 55 (i := 12) rfl rfl (by kernel_rfl) (fun _ _ _ h => h) (by assumption) ?_
                (try simp only [Act.put, sA, sZ, sS])
                refine tkW 56 (i := 13) (v := ?v5_13) rfl rfl (by kernel_rfl) (fun _ _ _ h => h) ?y5_13 (by assumption) ?r5_13
                case y5_13 => (intro W hSW; (try dsimp only at hSW); go_simp; (try with_reducible rfl))
                (try simp only [Act.put, sA, sZ, sS])
                refine tkW 57 (i := 14) (v := ?v5_14) rfl rfl (by kernel_rfl) (fun _ _ _ h => h) ?y5_14 (by assumption) ?r5_14
                case y5_14 => (intro W hSW; (try dsimp only at hSW); go_simp; (try with_reducible rfl))
                (try simp only [Act.put, sA, sZ, sS])
                refine tkU 58 (i := 15) rfl rfl (by kernel_rfl) (fun _ _ _ h => h) (by assumption) ?_
                (try simp only [Act.put, sA, sZ, sS])
                refine tkU 59 (i := 16) rfl rfl (by kernel_rfl) (fun _ _ _ h => h) (by assumption) ?_
                (try simp only [Act.put, sA, sZ, sS])
                refine tkU 60 (i := 17) rfl rfl (by kernel_rfl) (fun _ _ _ h => h) (by assumption) ?_
                (try simp only [Act.put, sA, sZ, sS])
                refine tkU 61 (i := 18) rfl rfl (by kernel_rfl) (fun _ _ _ h => h) (by assumption) ?_
                (try simp only [Act.put, sA, sZ, sS])
                refine tkU 62 (i := 19) rfl rfl (by kernel_rfl) (fun _ _ _ h => h) (by assumption) ?_
                (try simp only [Act.put, sA, sZ, sS])
                refine tkU 63 (i := 20) rfl rfl (by kernel_rfl) (fun _ _ _ h => h) (by assumption) ?_
                (try simp only [Act.put, sA, sZ, sS])
                refine tkU 64 (i := 21) rfl rfl (by kernel_rfl) (fun _ _ _ h => h) (by assumption) ?_
                (try simp only [Act.put, sA, sZ, sS])
                refine tkU 65 (i := 22) rfl rfl (by kernel_rfl) (fun _ _ _ h => h) (by assumption) ?_
                (try simp only [Act.put, sA, sZ, sS])
                refine tkU 66 (i := 23) rfl rfl (by kernel_rfl) (fun _ _ _ h => h) (by assumption) ?_
                (try simp only [Act.put, sA, sZ, sS])
                refine tkW 67 (i := 24) (v := ?v5_24) rfl rfl (by kernel_rfl) (fun _ _ _ h => h) ?y5_24 (by assumption) ?r5_24
                case y5_24 => (intro W hSW; (try dsimp only at hSW); go_simp; (try with_reducible rfl))
                (try simp only [Act.put, sA, sZ, sS])
                refine tkW 68 (i := 25) (v := ?v5_25) rfl rfl (by kernel_rfl) (fun _ _ _ h => h) ?y5_25 (by assumption) ?r5_25
                case y5_25 => (intro W hSW; (try dsimp only at hSW); go_simp; (try with_reducible rfl))
                (try simp only [Act.put, sA, sZ, sS])
                refine tkU 69 (i := 26) rfl rfl (by kernel_rfl) (fun _ _ _ h => h) (by assumption) ?_
                (try simp only [Act.put, sA, sZ, sS])
                refine tkU 70 (i := 27) rfl rfl (by kernel_rfl) (fun _ _ _ h => h) (by assumption) ?_
                (try simp only [Act.put, sA, sZ, sS])
                refine tkU 71 (i := 28) rfl rfl (by kernel_rfl) (fun _ _ _ h => h) (by assumption) ?_
                (try simp only [Act.put, sA, sZ, sS])
                refine tkU 72 (i := 29) rfl rfl (by kernel_rfl) (fun _ _ _ h => h) (by assumption) ?_
                (try simp only [Act.put, sA, sZ, sS])
                refine tkU 73 (i := 30) rfl rfl (by kernel_rfl) (fun _ _ _ h => h) (by assumption) ?_
                (try simp only [Act.put, sA, sZ, sS])
                refine tkU 74 (i := 31) rfl rfl (by kernel_rfl) (fun _ _ _ h => h) (by assumption) ?_
                (try simp only [Act.put, sA, sZ, sS])
                refine tkU 75 (i := 32) rfl rfl (by kernel_rfl) (fun _ _ _ h => h) (by assumption) ?_
                (try simp only [Act.put, sA, sZ, sS])
                refine tkU 76 (i := 33) rfl rfl (by kernel_rfl) (fun _ _ _ h => h) (by assumption) ?_
                (try simp only [Act.put, sA, sZ, sS])
                refine tkU 77 (i := 34) rfl rfl (by kernel_rfl) (fun _ _ _ h => h) (by assumption) ?_
                (try simp only [Act.put, sA, sZ, sS])
                refine tkW 78 (i := 35) (v := ?v5_35) rfl rfl (by kernel_rfl) (fun _ _ _ h => h) ?y5_35 (by assumption) ?r5_35
                case y5_35 => (intro W hSW; (try dsimp only at hSW); go_simp; (try with_reducible rfl))
                (try simp only [Act.put, sA, sZ, sS])
                refine wpAnyH_done (by kernel_rfl) ?_ _
                go_wp2_with fail
                go_ret
                exact ⟨by rw [HX.out]; rfl, hT.1.cf.bel.drew⟩
-- ENDLOOP
            · obtain rfl : j = dests.length := by omega
              obtain ⟨n1, n2⟩ := portB_size HPS.out
              dsimp only at n1 n2
              obtain ⟨q, hq⟩ : ∃ q, inB offset 0 (64 - (1 + ssize)) = q := ⟨_, rfl⟩
              have HK : Hid (decide (LinkOk c ⟨s, dests, offset⟩) = q) := by
                show _ = _
                have e : LinkOk c ⟨s, dests, offset⟩ ↔ inB offset 0 (64 - (1 + ssize)) = true := by
                  unfold LinkOk
                  dsimp only
                  rw [show c.ports.getD ((s : Int)).toNat default = ⟨spart, skind, 1, ssize, sdepth, sfresh⟩ from HSP.out]
                  exact ⟨fun g => g.2.2.2.2, fun g => ⟨HO.out, rfl, fun e => hne (by rw [e]; rfl), H.out, g⟩⟩
                rw [← hq]
                simp only [e]
                cases inB offset 0 (64 - (1 + ssize)) <;> rfl
              have HQ := hide hq
              clear hq H
              obtain ⟨⟨⟨hb, ⟨hl, e0, e1, e2, e3, e4, e5, e6, e7, e8, e9, e10, e11⟩, hg, hc⟩, ⟨hkl, k0, k1, k2⟩, hi⟩, ⟨hpl, y0, y1, y2, y3, y4, y5⟩⟩ := id hT
              clear hg hc hi
              dsimp only at e1 e8 e9 e10 e11 y0 y1 y2 y3 y4 y5
              go_upto_region 10 with fail
              replace hT := LkP.below hT (Below.refl _ _).drew
              refine wp_region_held_drew (S := fun w' => w'.cell? ⟨w.heap.size + 1, 2, none⟩ = some (.int .i64 offset) ∧ w'.cell? ⟨w.heap.size + 2, 0, none⟩ = some (.int .i64 spart) ∧ w'.cell? ⟨w.heap.size + 2, 1, none⟩ = some (.int .i64 skind) ∧ w'.cell? ⟨w.heap.size + 2, 2, none⟩ = some (.int .i64 1) ∧ w'.cell? ⟨w.heap.size + 2, 3, none⟩ = some (.int .i64 ssize) ∧ w'.cell? ⟨w.heap.size + 2, 4, none⟩ = some (.int .i64 sdepth) ∧ w'.cell? ⟨w.heap.size + 2, 5, none⟩ = some (.int .i64 sfresh)) (by kernel_rfl) (⟨k2, y0, y1, y2, y3, y4, y5⟩) (fun hHeld => ?_)
              refine tkW 80 (i := 0) (v := ?v91_0) rfl rfl (by kernel_rfl) (fun _ _ _ h => h) ?y91_0 (by assumption) ?r91_0
              case y91_0 => (intro W hSW; (try dsimp only at hSW); go_simp; (try with_reducible rfl))
              (try simp only [Act.put, sA, sZ, sS])
              refine tkW 81 (i := 1) (v := ?v91_1) rfl rfl (by kernel_rfl) (fun _ _ _ h => h) ?y91_1 (by assumption) ?r91_1
              case y91_1 => (intro W hSW; (try dsimp only at hSW); go_simp; (try with_reducible rfl))
              (try simp only [Act.put, sA, sZ, sS])
              refine tkW 82 (i := 2) (v := ?v91_2) rfl rfl (by kernel_rfl) (fun _ _ _ h => h) ?y91_2 (by assumption) ?r91_2
              case y91_2 => (intro W hSW; (try dsimp only at hSW); go_simp; (try with_reducible rfl))
              (try simp only [Act.put, sA, sZ, sS])
              refine wpAnyH_ready (rs := [3]) (by kernel_rfl) (by simp) ?_
              refine AllReadyH.cons rfl (fun K hK => ?_) AllReadyH.nil
              rw [if_pos (by rfl)]
              go_simp
              (first
                | (go_at_call 51; refine (taken_any ⟨spart, skind, 1, ssize, sdepth, sfresh⟩ _ n1 n2).mono ?_; rintro e w1 ⟨rfl, hb1⟩; clear hb hl e0 e1 e2 e3 e4 e5 e6 e7 e8 e9 e10 e11 hkl k0 k1 k2 hpl y0 y1 y2 y3 y4 y5 hHeld; replace hT := LkP.below hT hb1; clear hb1; obtain ⟨⟨⟨hb, ⟨hl, e0, e1, e2, e3, e4, e5, e6, e7, e8, e9, e10, e11⟩, hg, hc⟩, ⟨hkl, k0, k1, k2⟩, hi⟩, ⟨hpl, y0, y1, y2, y3, y4, y5⟩⟩ := id hT; clear hg hc hi; dsimp only at e1 e8 e9 e10 e11 y0 y1 y2 y3 y4 y5)
                | (go_at_call 43; refine (within_any _ _ _ _).mono ?_; rintro e w1 ⟨rfl, hb1⟩; clear hb hl e0 e1 e2 e3 e4 e5 e6 e7 e8 e9 e10 e11 hkl k0 k1 k2 hpl y0 y1 y2 y3 y4 y5 hHeld; replace hT := LkP.below hT hb1; clear hb1; obtain ⟨⟨⟨hb, ⟨hl, e0, e1, e2, e3, e4, e5, e6, e7, e8, e9, e10, e11⟩, hg, hc⟩, ⟨hkl, k0, k1, k2⟩, hi⟩, ⟨hpl, y0, y1, y2, y3, y4, y5⟩⟩ := id hT; clear hg hc hi; dsimp only at e1 e8 e9 e10 e11 y0 y1 y2 y3 y4 y5))
              go_wp2_with fail
              refine hK.out _ _ (⟨k2, y0, y1, y2, y3, y4, y5⟩) (fun hHeld => ?_)
              clear hK K
              (try simp only [Act.put, sA, sZ, sS])
              refine tkW 84 (i := 4) (v := ?v91_4) rfl rfl (by kernel_rfl) (fun _ _ _ h => h) ?y91_4 (by assumption) ?r91_4
              case y91_4 => (intro W hSW; (try dsimp only at hSW); go_simp; (try with_reducible rfl))
              (try simp only [Act.put, sA, sZ, sS])
              refine tkW 85 (i := 5) (v := ?v91_5) rfl rfl (by kernel_rfl) (fun _ _ _ h => h) ?y91_5 (by assumption) ?r91_5
              case y91_5 => (intro W hSW; (try dsimp only at hSW); go_simp; (try with_reducible rfl))
              (try simp only [Act.put, sA, sZ, sS])
              refine wpAnyH_ready (rs := [6]) (by kernel_rfl) (by simp) ?_
              refine AllReadyH.cons rfl (fun K hK => ?_) AllReadyH.nil
              rw [if_pos (by rfl)]
              go_simp
              (first
                | (go_at_call 51; refine (taken_any ⟨spart, skind, 1, ssize, sdepth, sfresh⟩ _ n1 n2).mono ?_; rintro e w1 ⟨rfl, hb1⟩; clear hb hl e0 e1 e2 e3 e4 e5 e6 e7 e8 e9 e10 e11 hkl k0 k1 k2 hpl y0 y1 y2 y3 y4 y5 hHeld; replace hT := LkP.below hT hb1; clear hb1; obtain ⟨⟨⟨hb, ⟨hl, e0, e1, e2, e3, e4, e5, e6, e7, e8, e9, e10, e11⟩, hg, hc⟩, ⟨hkl, k0, k1, k2⟩, hi⟩, ⟨hpl, y0, y1, y2, y3, y4, y5⟩⟩ := id hT; clear hg hc hi; dsimp only at e1 e8 e9 e10 e11 y0 y1 y2 y3 y4 y5)
                | (go_at_call 43; refine (within_any _ _ _ _).mono ?_; rintro e w1 ⟨rfl, hb1⟩; clear hb hl e0 e1 e2 e3 e4 e5 e6 e7 e8 e9 e10 e11 hkl k0 k1 k2 hpl y0 y1 y2 y3 y4 y5 hHeld; replace hT := LkP.below hT hb1; clear hb1; obtain ⟨⟨⟨hb, ⟨hl, e0, e1, e2, e3, e4, e5, e6, e7, e8, e9, e10, e11⟩, hg, hc⟩, ⟨hkl, k0, k1, k2⟩, hi⟩, ⟨hpl, y0, y1, y2, y3, y4, y5⟩⟩ := id hT; clear hg hc hi; dsimp only at e1 e8 e9 e10 e11 y0 y1 y2 y3 y4 y5))
              go_wp2_with fail
              refine hK.out _ _ (⟨k2, y0, y1, y2, y3, y4, y5⟩) (fun hHeld => ?_)
              clear hK K
              (try simp only [Act.put, sA, sZ, sS])
              refine tkW 4 (i := 7) (v := ?v91_7) rfl rfl (by kernel_rfl) (fun _ _ _ h => h) ?y91_7 (by assumption) ?r91_7
              case y91_7 => (intro W hSW; (try dsimp only at hSW); go_simp; (try with_reducible rfl))
              (try simp only [Act.put, sA, sZ, sS])
              refine wpAnyH_done (by kernel_rfl) ?_ _
              go_wp2_with fail
              go_ret
              refine ⟨?_, hT.1.cf.bel⟩
              rw [HK.out]
              show Ending.returned (.bool (inB offset 0 (IntKind.i64.wrap (64 - (1 + ssize))))) = _
              rw [IntWalk.i64_in _ (by omega), HQ.out]
    · have H : Hid (decide (LinkOk c ⟨s, dests, offset⟩) = false) := by
        show _ = _
        rw [decide_eq_false_iff_not]
        rintro ⟨_, a, _⟩
        exact hdir (by rw [← show c.ports.getD ((s : Int)).toNat default = sp from HSP.out]; exact a)
      have hdb : (sp.dir != 1) = true := by simpa using hdir
      clear hdir
      go_wp2_with (go_at_call 56; refine (of_ports _ _ _ _ _).mono ?_; rintro e w1 ⟨rfl, rfl⟩; rw [HO.out])
      go_ret
      exact ⟨by rw [H.out]; rfl, hb⟩
  · have H : Hid (decide (LinkOk c ⟨source, dests, offset⟩) = false) := by
      show _ = _
      rw [decide_eq_false_iff_not]
      exact fun a => ho a.1
    have HO : Hid (ofB source c.ports.length = false) := Bool.not_eq_true _ ▸ ho
    clear ho hg hc hi
    go_wp2_with (go_at_call 56; refine (of_ports _ _ _ _ _).mono ?_; rintro e w1 ⟨rfl, rfl⟩; rw [HO.out])
    go_ret
    exact ⟨by rw [H.out]; rfl, hb⟩
end Go.Proofs.YtdennekkbdlhdaaDoor
namespace Go.Proofs.YtdennekkbdlhdaaDoor
open Go.RowKit Go.Deep
set_option linter.unusedVariables false

set_option maxRecDepth 100000 in
theorem rules_any (w : World) : Calls Tryd.prog 21 #[] w fun e w' =>
    e = .returned (.agg #[.int .i64 21, .func (.func 30) #[] #[], .int .i64 22, .func (.func 31) #[] #[], .int .i64 23, .func (.func 32) #[] #[],
      .int .i64 24, .func (.func 33) #[] #[], .int .i64 25, .func (.func 34) #[] #[], .int .i64 26, .func (.func 35) #[] #[]]) ∧ Below w.heap.size w w' := by
  go_enter Tryd.func21, Tryd.ntmps21
  go_wp2
  exact bodyPost_ret (results_cell_row (fn := Tryd.f21) rfl _ _ w.heap.size _ _ (0, 0) _ rfl (heap_alloc_new _ _) Tryd.underlying66 rfl (by kernel_rfl)) rfl ⟨rfl, (Below.refl _ _).alloc (Nat.le_refl _) _⟩
end Go.Proofs.YtdennekkbdlhdaaDoor
namespace Go.Proofs.YtdennekkbdlhdaaDoor
open Go.RowKit Go.Deep
attribute [local go_sem] Oper.semAt_some
set_option linter.unusedVariables false

structure Sp where
  lo : Int
  hi : Int
deriving Inhabited, DecidableEq
def Spans (w : World) (A : Option Addr) (l : List Sp) : Prop :=
  Lies w A l.length 2 fun i b o => w.cell? ⟨b, o, none⟩ = some (.int .i64 (l.getD i default).lo) ∧ w.cell? ⟨b, o + 1, none⟩ = some (.int .i64 (l.getD i default).hi)
theorem Spans.of_below {w w' : World} {A : Option Addr} {l : List Sp} {B : Nat} (h : Spans w A l) (hb : Below B w w') (hB : w.heap.size ≤ B) : Spans w' A l :=
  Lies.of_below h hb hB fun _ _ _ _ hlt ⟨h0, h1⟩ => ⟨cell_below hb hB hlt h0, cell_below hb hB hlt h1⟩
theorem Spans.at {w : World} {A : Option Addr} {l : List Sp} (h : Spans w A l) {k : Nat} (hk : k < l.length) :
    ∃ b off, A = some ⟨b, off, none⟩ ∧ b < w.heap.size ∧ w.cell? ⟨b, off + k * 2, none⟩ = some (.int .i64 (l.getD k default).lo) ∧ w.cell? ⟨b, off + k * 2 + 1, none⟩ = some (.int .i64 (l.getD k default).hi) := by
  rcases h with h0 | ⟨b, off, rfl, hlt, hc⟩
  · omega
  · exact ⟨b, off, rfl, hlt, hc k hk⟩
theorem Spans.here {w : World} {b off : Nat} {l : List Sp} (h : Spans w (some ⟨b, off, none⟩) l) {k : Nat} (hk : k < l.length) :
    w.cell? ⟨b, off + k * 2, none⟩ = some (.int .i64 (l.getD k default).lo) ∧ w.cell? ⟨b, off + k * 2 + 1, none⟩ = some (.int .i64 (l.getD k default).hi) := by
  obtain ⟨b', off', e, _, h⟩ := h.at hk
  cases e
  exact h

theorem pairs_any (A : Option Addr) (n m : Nat) (w : World) : Calls Tryd.prog 55 #[.slice A n m] w fun e w' =>
    e = .returned (.func (.func 60) #[] #[.pointer (some ⟨w.heap.size, 0, none⟩)]) ∧ w' = w.alloc (.cells #[.slice A n m] 74) := by
  go_enter Tryd.func55, Tryd.ntmps55
  go_wp2
  go_ret
  exact ⟨rfl, rfl⟩

set_option maxRecDepth 100000 in
set_option maxHeartbeats 2000000 in
theorem pairs1_all (l : List Sp) (A : Option Addr) (m : Nat) (d lr Bb : Nat) (W : World) (R : Ending → World → Prop) (I : Nat → Nat → World → Prop) (hZ : ∀ i j W', I i j W' → W.heap.size ≤ W'.heap.size) (hn : l.length ≤ m) (hm : m ≤ maxLen) (h0 : I 0 0 W)
    (hX : ∀ i j W', I i j W' → W'.cell? ⟨Bb, 0, none⟩ = some (.slice A l.length m) ∧ Spans W' A l)
    (hK : ∀ i j W1 W2, I i j W1 → Below W1.heap.size W1 W2 → I i j W2) (hN : ∀ i W', i < l.length → I i i W' → I (i + 1) 0 W')
    (hY : ∀ i j W1, j < i → i < l.length → I i j W1 → YieldAt Fence.wide (d - 1) Tryd.prog lr #[.agg #[.int .i64 (l.getD j default).lo, .int .i64 (l.getD j default).hi], .agg #[.int .i64 (l.getD i default).lo, .int .i64 (l.getD i default).hi]] W1 fun e W' =>
      (e = .returned (.bool true) ∧ I i (j + 1) W' ∧ W1.heap.size ≤ W'.heap.size ∧ ∀ q, W.heap.size ≤ q → q < W1.heap.size → W'.heap[q]? = W1.heap[q]?) ∨ (e = .returned (.bool false) ∧ ∀ v, R (.returned v) W'))
    (hR : ∀ W' v, I l.length 0 W' → R (.returned v) W') :
    CallsIn Fence.wide d Tryd.prog 60 (#[.func (.yield lr) #[] #[]] ++ #[.pointer (some ⟨Bb, 0, none⟩)]) W R := by
  have hm2 : m ≤ 9223372036854775807 := hm
  obtain ⟨hB, hS⟩ := hX 0 0 W h0
  have HZ := hide hZ; have H0 := hide h0; have HX := hide hX; have HK := hide hK; have HN := hide hN; have HY := hide hY
  clear hZ h0 hX hK hN hY hS
  refine callsIn_of_wp Tryd.func60 rfl trivial ?_ rfl
  simp only [Tryd.ntmps60, List.size_toArray, List.length_cons, List.length_nil, Nat.reduceAdd, Nat.reduceSub, Array.replicate_succ, Array.replicate_zero, List.push_toArray, List.append_toArray, List.nil_append, List.cons_append]
  gi_wp2
  gi_loopw [9] (fun i wr => ∃ k : Nat, k ≤ l.length ∧ i = .int .i64 k ∧ I k 0 wr) (fun i _ => l.length - (intOf i).toNat)
  case atStart => exact ⟨0, by omega, rfl, H0.out⟩
  case round =>
    obtain ⟨k, hk, rfl, hi⟩ := hrel
    rename World => wo
    have HI := hide hi
    clear hi H0 hB
    by_cases hlt : k < l.length
    · obtain ⟨hB, hS⟩ := HX.out k 0 wo HI.out
      obtain ⟨b, off, hA, hbl, x0, x1⟩ := hS.at hlt
      subst hA
      obtain ⟨lo, hlo⟩ : ∃ z, (l.getD k default).lo = z := ⟨_, rfl⟩
      obtain ⟨hh, hhi⟩ : ∃ z, (l.getD k default).hi = z := ⟨_, rfl⟩
      rw [hlo] at x0
      rw [hhi] at x1
      have HLO := hide hlo; have HHI := hide hhi
      clear hS hlo hhi
      have hbx := (Below.refl wo.heap.size wo).alloc (Nat.le_refl _) (.cells #[.int .i64 lo, .int .i64 hh] 78)
      have HI1 := hide (HK.out k 0 wo _ HI.out hbx)
      have hB1 := (HX.out k 0 _ HI1.out).1
      have hkm : (k : Int) ≤ (m : Int) := by omega
      gi_wp2
      have hzw := HZ.out k 0 wo HI.out
      have hnew := heap_alloc_new wo (.cells #[.int .i64 lo, .int .i64 hh] 78)
      clear hB hB1 x0 x1 hbx
      gi_loopw [18] (fun i wq => ∃ j : Nat, j ≤ k ∧ i = .int .i64 j ∧ I k j wq ∧ wo.heap.size < wq.heap.size ∧ wq.heap[wo.heap.size]? = some (.cells #[.int .i64 lo, .int .i64 hh] 78 (0, 0))) (fun i _ => k - (intOf i).toNat)
      case atStart => exact ⟨0, by omega, rfl, HI1.out, alloc_lt _ _, hnew⟩
      case round =>
        obtain ⟨j, hj, rfl, hi2, hsz, hbox⟩ := hrel
        have HI2 := hide hi2
        clear hi2 hnew HI1
        by_cases hjk : j < k
        · obtain ⟨hB2, hS2⟩ := HX.out k j wr HI2.out
          obtain ⟨y0, y1⟩ := hS2.here (k := j) (by omega)
          obtain ⟨lo2, hlo2⟩ : ∃ z, (l.getD j default).lo = z := ⟨_, rfl⟩
          obtain ⟨hh2, hhi2⟩ : ∃ z, (l.getD j default).hi = z := ⟨_, rfl⟩
          rw [hlo2] at y0
          rw [hhi2] at y1
          have hbq := (Below.refl wr.heap.size wr).alloc (Nat.le_refl _) (.cells #[.int .i64 lo2, .int .i64 hh2] 78)
          have hbox2 := (hbq.block _ hsz).trans hbox
          have z0 : (wr.alloc (.cells #[.int .i64 lo2, .int .i64 hh2] 78)).cell? ⟨wo.heap.size, 0, none⟩ = some (.int .i64 lo) := by simp [World.cell?, hbox2]
          have z1 : (wr.alloc (.cells #[.int .i64 lo2, .int .i64 hh2] 78)).cell? ⟨wo.heap.size, 1, none⟩ = some (.int .i64 hh) := by simp [World.cell?, hbox2]
          obtain ⟨fn, tmps, assign, body, hy, hRR⟩ := HY.out k j _ hjk hlt (HK.out k j wr _ HI2.out hbq)
          rw [HLO.out, HHI.out, hlo2, hhi2] at hy
          have HBX := hide hbox2
          have hgr := alloc_lt wr (.cells #[.int .i64 lo2, .int .i64 hh2] 78)
          have HGR := hide hgr
          clear hB2 hS2 hbq hbox2 hbox hlo2 hhi2 hgr
          gi_wp2
          refine ⟨(fun h => by cases h), hRR.mono ?_⟩
          rintro e W3 (⟨rfl, hi3, hs3, hk3⟩ | ⟨rfl, hr3⟩)
          · have HI3 := hide hi3
            have HB3 := hide ((hk3 wo.heap.size hzw (by have := HGR.out; omega)).trans HBX.out)
            have HS3 : Hid (wo.heap.size < W3.heap.size) := by
              show _ < _
              have := HGR.out
              omega
            clear hi3 hk3 hs3 hy hRR z0 z1 y0 y1
            gi_wp2
            go_roundw
            case rel => exact ⟨j + 1, by omega, by go_num, HI3.out, HS3.out, HB3.out⟩
            case measure => simp [intOf]; omega
          · have HR3 := hide hr3
            clear hr3 hy hRR z0 z1 y0 y1
            gi_wp2
            refine bodyPost_ret (results_none rfl _ _ _) rfl ?_
            exact HR3.out _
        · obtain rfl : j = k := by omega
          have HI3 := hide (HN.out j wr hlt HI2.out)
          gi_wp2
          go_roundw
          case rel => exact ⟨j + 1, by omega, by go_num, HI3.out⟩
          case measure => simp [intOf]; omega
    · obtain rfl : k = l.length := by omega
      gi_wp2
      go_end0
      exact hR _ _ HI.out
end Go.Proofs.YtdennekkbdlhdaaDoor
namespace Go.Proofs.YtdennekkbdlhdaaDoor
open Go.RowKit Go.Deep
attribute [local go_sem] Oper.semAt_some
set_option linter.unusedVariables false

def SpRows (w : World) (A : Option Addr) (L : List (List Sp)) : Prop :=
  Lies w A L.length 1 fun i b o => ∃ Ai ci, w.cell? ⟨b, o, none⟩ = some (.slice Ai (L.getD i []).length ci) ∧ (L.getD i []).length ≤ ci ∧ ci ≤ maxLen ∧ Spans w Ai (L.getD i [])
theorem SpRows.of_below {w w' : World} {A : Option Addr} {L : List (List Sp)} {B : Nat} (h : SpRows w A L) (hb : Below B w w') (hB : w.heap.size ≤ B) : SpRows w' A L :=
  Lies.of_below h hb hB fun _ _ _ _ hlt ⟨Ai, ci, h0, h1, h2, h3⟩ => ⟨Ai, ci, cell_below hb hB hlt h0, h1, h2, h3.of_below hb hB⟩
theorem SpRows.at {w : World} {A : Option Addr} {L : List (List Sp)} (h : SpRows w A L) {k : Nat} (hk : k < L.length) :
    ∃ b off Ai ci, A = some ⟨b, off, none⟩ ∧ b < w.heap.size ∧ w.cell? ⟨b, off + k, none⟩ = some (.slice Ai (L.getD k []).length ci) ∧ (L.getD k []).length ≤ ci ∧ ci ≤ maxLen ∧ Spans w Ai (L.getD k []) := by
  rcases h with h0 | ⟨b, off, rfl, hlt, hc⟩
  · omega
  · obtain ⟨Ai, ci, h1⟩ := hc k hk
    exact ⟨b, off, Ai, ci, rfl, hlt, by simpa using h1⟩

def meetS (a b : Sp) : Bool := decide (max a.lo b.lo < min a.hi b.hi)
theorem meetS_iff (a b c d : Int) : meetS ⟨a, b⟩ ⟨c, d⟩ = true ↔ (if a < c then c else a) < (if d < b then d else b) := by
  unfold meetS
  rw [decide_eq_true_eq]
  dsimp only
  rw [Int.max_def, Int.min_def]
  repeat' split
  all_goals omega
/-- do any two of a list meet? -/
def MeetL (l : List Sp) : Prop := ∃ i j, j < i ∧ i < l.length ∧ meetS (l.getD j default) (l.getD i default) = true

/-- what stands while lists are searched -/
structure SM (w W : World) (v : Bool) (Ds : List Nat) : Prop where
  bel : Below w.heap.size w W
  fc : W.heap[w.heap.size]? = some (.cells #[.bool v] 4 (0, 0))
  ds : ∀ D ∈ Ds, w.heap.size < D ∧ W.heap[D]? = some (.deferred (some []))
  nd : Ds.Nodup

theorem below_putO {B D : Nat} {w W : World} (h : Below B w W) (hD : B ≤ D) (hL : D < W.heap.size) (o : Obj) : Below B w (W.putObj D o) :=
  h.trans ((Below.refl B W).grown (grownBy_putObj' W D o) (by omega) (fun k e => by cases e; omega))
theorem SM.below {w W W' : World} {v : Bool} {Ds : List Nat} (h : SM w W v Ds) (hb : Below W.heap.size W W') : SM w W' v Ds :=
  ⟨h.bel.trans (hb.mono h.bel.size), (hb.block _ (Array.getElem?_eq_some_iff.1 h.fc).1).trans h.fc, fun D hD => ⟨(h.ds D hD).1, (hb.block _ (Array.getElem?_eq_some_iff.1 (h.ds D hD).2).1).trans (h.ds D hD).2⟩, h.nd⟩
theorem SM.put {w W : World} {v : Bool} {Ds : List Nat} (h : SM w W v Ds) {l : Nat} {r : Loop} (hl : W.heap[l]? = some (.loop r)) (hw : w.heap.size ≤ l) (r' : Loop) : SM w (W.putObj l (.loop r')) v Ds := by
  have hlt := (Array.getElem?_eq_some_iff.1 hl).1
  refine ⟨below_putO h.bel hw hlt _, ?_, fun D hD => ⟨(h.ds D hD).1, ?_⟩, h.nd⟩
  · rw [World.putObj_heap_other (fun e => by rw [← e, h.fc] at hl; cases hl)]; exact h.fc
  · rw [World.putObj_heap_other (fun e => by rw [← e, (h.ds D hD).2] at hl; cases hl)]; exact (h.ds D hD).2
theorem SM.found {w W : World} {v : Bool} {Ds : List Nat} (h : SM w W v Ds) : SM w (W.setCell ⟨w.heap.size, 0, none⟩ (.bool true)) true Ds := by
  refine ⟨h.bel.setCell (p := ⟨w.heap.size, 0, none⟩) (Nat.le_refl _) _, ?_, fun D hD => ⟨(h.ds D hD).1, ?_⟩, h.nd⟩
  · simp only [World.setCell, Array.getElem?_modify, if_true, h.fc, Option.map_some]
    rfl
  · simp only [World.setCell, Array.getElem?_modify]
    rw [if_neg (by have := (h.ds D hD).1; show w.heap.size ≠ D; omega)]
    exact (h.ds D hD).2
theorem SM.more {w W : World} {v : Bool} {Ds : List Nat} (h : SM w W v Ds) {D : Nat} (hD : W.heap[D]? = some (.deferred (some []))) (hw : w.heap.size < D) (hn : D ∉ Ds) : SM w W v (D :: Ds) :=
  ⟨h.bel, h.fc, fun E hE => by
    rcases List.mem_cons.1 hE with rfl | hE
    · exact ⟨hw, hD⟩
    · exact h.ds E hE, List.nodup_cons.2 ⟨hn, h.nd⟩⟩

/-- what stands while a list's pairs are told -/
structure MJ (w wr w2 W0 : World) (rec : Loop) (Ai : Option Addr) (ci : Nat) (l : List Sp) (Ds : List Nat) (p q : Nat) (W : World) : Prop where
  sm : SM w W false Ds
  lp : W.heap[w2.heap.size + 1]? = some (.loop rec)
  df : W.heap[w2.heap.size]? = some (.deferred (some []))
  sz : W0.heap.size ≤ W.heap.size
  bx : W.heap[wr.heap.size]? = some (.cells #[.slice Ai l.length ci] 74 (0, 0))
  old : ∀ i j, j < i → i < p → meetS (l.getD j default) (l.getD i default) = false
  now : ∀ j, j < q → meetS (l.getD j default) (l.getD p default) = false
theorem MJ.below {w wr w2 W0 : World} {rec : Loop} {Ai : Option Addr} {ci : Nat} {l : List Sp} {Ds : List Nat} {p q : Nat} {W W' : World} (h : MJ w wr w2 W0 rec Ai ci l Ds p q W) (hb : Below W.heap.size W W') : MJ w wr w2 W0 rec Ai ci l Ds p q W' :=
  ⟨h.sm.below hb, (hb.block _ (Array.getElem?_eq_some_iff.1 h.lp).1).trans h.lp, (hb.block _ (Array.getElem?_eq_some_iff.1 h.df).1).trans h.df, Nat.le_trans h.sz hb.size, (hb.block _ (Array.getElem?_eq_some_iff.1 h.bx).1).trans h.bx, h.old, h.now⟩
theorem MJ.next {w wr w2 W0 : World} {rec : Loop} {Ai : Option Addr} {ci : Nat} {l : List Sp} {Ds : List Nat} {p : Nat} {W : World} (h : MJ w wr w2 W0 rec Ai ci l Ds p p W) : MJ w wr w2 W0 rec Ai ci l Ds (p + 1) 0 W :=
  ⟨h.sm, h.lp, h.df, h.sz, h.bx, fun i j hj hi => by
      rcases Nat.lt_succ_iff_lt_or_eq.1 hi with h5 | rfl
      · exact h.old i j hj h5
      · exact h.now j hj, fun j hj => by omega⟩

set_option maxRecDepth 100000 in
set_option maxHeartbeats 4000000 in
theorem meet_any (L : List (List Sp)) (A : Option Addr) (m : Nat) (w : World) (hL : SpRows w A L) (hn : L.length ≤ 64) :
    Calls Tryd.prog 46 #[.slice A L.length m] w fun e w' => ∃ v : Bool, e = .returned (.bool v) ∧ (v = true ↔ ∃ l ∈ L, MeetL l) ∧ Below w.heap.size w w' := by
  refine calls_of_wp_marks Tryd.func46 rfl ?_
  simp only [Tryd.ntmps46, List.size_toArray, List.length_cons, List.length_nil, Nat.reduceAdd, Nat.reduceSub, Array.replicate_succ, Array.replicate_zero, List.push_toArray, List.append_toArray, List.nil_append, List.cons_append]
  go_wp2_with fail
  go_step3
  go_wp2_with fail
  have F1 := hide (show SM w (w.alloc (.cells #[.bool false] 4)) false [] from ⟨bal w _, heap_alloc_new w _, by simp, by simp⟩)
  go_step3
  go_wp2_with fail
  generalize w.alloc (.cells #[.bool false] 4) = w1 at F1 ⊢
  refine wp_loop (fun a W => ∃ (i : Nat) (Ds : List Nat) (u5 u11 u12 u13 u14 u15 u29 : Value), i ≤ L.length ∧ a = { tmps := #[.slice A L.length m, undef, .bool false, .pointer (some ⟨w.heap.size, 0, none⟩), undef, u5, undef, undef, .slice A L.length m, .int .i64 (L.length : Nat), .int .i64 (i : Nat), u11, u12, u13, u14, u15, undef, undef, undef, undef, undef, undef, undef, undef, undef, undef, undef, undef, undef, u29, undef], defers := marked Ds } ∧
    SM w W false Ds ∧ Hid (∀ t, t < i → ¬ MeetL (L.getD t []))) (fun a _ => L.length - (intOf (a.tmps.getD 10 undef)).toNat) ⟨0, [], undef, undef, undef, undef, undef, undef, undef, by omega, rfl, F1.out, fun t ht => by omega⟩ ?_
  rintro a wr ⟨i, Ds, u5, u11, u12, u13, u14, u15, u29, hi, rfl, hS, H⟩
  by_cases hlt : i < L.length
  · obtain ⟨b, off, Ai, ci, hA, hbl, q0, q1, q2, q3⟩ := hL.at hlt
    subst hA
    obtain ⟨l, hl⟩ : ∃ x, L.getD i [] = x := ⟨_, rfl⟩
    rw [hl] at q0 q1 q3
    have c0 := cell_below hS.bel (Nat.le_refl _) hbl q0
    have HS := hide hS; have HL := hide hl; have HQ := hide q3
    clear q0 hS hl q3 F1
    go_wp2_with (
                    go_at_call 55
                    refine (pairs_any _ _ _ _).mono ?_
                    rintro e w2 ⟨rfl, hw2⟩
                    have S2 := hide (show SM w w2 false Ds from hw2 ▸ HS.out.below (bal wr (.cells #[.slice Ai l.length ci] 74)))
                    have HB2 := hide (show w2.heap[wr.heap.size]? = some (.cells #[.slice Ai l.length ci] 74 (0, 0)) by rw [hw2]; exact heap_alloc_new wr _)
                    have HZ2 := hide (show w2.heap.size = wr.heap.size + 1 by rw [hw2]; exact Array.size_push _)
                    clear hw2)
    have hz2 := HZ2.out
    have hzr := HS.out.bel.size
    have hfl := (Array.getElem?_eq_some_iff.1 HS.out.fc).1
    have hDn : Hid (w2.heap.size ∉ Ds) := fun h => by
      have := (Array.getElem?_eq_some_iff.1 (HS.out.ds _ h).2).1
      omega
    refine wp_range2 (g := .tmp 15) rfl (enters_of Tryd.func60 (by kernel_rfl) rfl) ?_
    rintro W0 rec hl hD hb0 hz0 hst hpe htm hps has hbo
    have J0 : MJ w wr w2 W0 rec Ai ci l Ds 0 0 W0 := ⟨S2.out.below hb0, hl, hD, Nat.le_refl _, (hb0.block _ (by omega)).trans HB2.out, fun i j hj hi => by omega, fun j hj => by omega⟩
    refine pairs1_all l Ai ci 1 (w2.heap.size + 1) wr.heap.size W0 _ (fun p q W => MJ w wr w2 W0 rec Ai ci l Ds p q W) (fun p q W h => h.sz) q1 q2 J0 (fun p q W h => ⟨by simp [World.cell?, h.bx], HQ.out.of_below h.sm.bel (Nat.le_refl _)⟩) (fun p q W W' h hb => h.below hb) (fun p W _ h => h.next) ?hY ?hR
    case hR =>
      intro W v hJ
      refine ⟨⟨v, rfl⟩, rec, hJ.lp, by rw [hst]; simp, ?_⟩
      have H4 := hide (show ∀ r' : Loop, SM w (W.putObj (w2.heap.size + 1) (.loop r')) false (w2.heap.size :: Ds) from fun r' => (hJ.sm.put hJ.lp (by omega) r').more ((World.putObj_heap_other (by omega)).trans hJ.df) (by omega) hDn.out)
      have HN : Hid (∀ t, t < i + 1 → ¬ MeetL (L.getD t [])) := fun t ht => by
        rcases Nat.lt_succ_iff_lt_or_eq.1 ht with h5 | rfl
        · exact H.out t h5
        · rw [HL.out]
          rintro ⟨x, y, h1, h2, h3⟩
          rw [hJ.old x y h1 h2] at h3
          cases h3
      rw [hpe]
      clear J0 hl hD hb0 hst hpe htm hps has hbo hJ c0 H hz2 hz0 hzr
      go_wp2_with fail
      refine ⟨⟨i + 1, w2.heap.size :: Ds, _, _, _, _, _, _, _, by omega, rfl, H4.out _, HN⟩, ?_⟩
      simp [intOf]
      omega
    case hY =>
      intro p q W1 hq hp hJ
      obtain ⟨⟨alo, ahi⟩, hsa⟩ : ∃ x, l.getD q default = x := ⟨_, rfl⟩
      obtain ⟨⟨blo, bhi⟩, hsb⟩ : ∃ x, l.getD p default = x := ⟨_, rfl⟩
      rw [hsa, hsb]
      dsimp only
      refine yield_at hJ.lp (by rw [hps]; rfl) ?_
      rw [has, hps, htm]
      have HJ := hide hJ; have HST := hide hst; have HPE := hide hpe; have HBO := hide hbo; have HSA := hide hsa; have HSB := hide hsb
      clear J0 hl hD hb0 hst hpe htm hps has hbo hJ c0 hsa hsb
      gi_wp2
      have J2 := (HJ.out.below (bal W1 (.cells #[.int .i64 alo, .int .i64 ahi] 78))).below (bal _ (.cells #[.int .i64 blo, .int .i64 bhi] 78))
      refine ⟨rec, J2.lp, HST.out, ?_⟩
      have hn1 := heap_alloc_new W1 (.cells #[.int .i64 alo, .int .i64 ahi] 78)
      have hn2 := heap_alloc_new (W1.alloc (.cells #[.int .i64 alo, .int .i64 ahi] 78)) (.cells #[.int .i64 blo, .int .i64 bhi] 78)
      have hn1' := ((bal (W1.alloc (.cells #[.int .i64 alo, .int .i64 ahi] 78)) (.cells #[.int .i64 blo, .int .i64 bhi] 78)).block W1.heap.size (alloc_lt _ _)).trans hn1
      rw [show (W1.alloc (.cells #[.int .i64 alo, .int .i64 ahi] 78)).heap.size = W1.heap.size + 1 from Array.size_push _] at hn2
      have hk0 : ∀ k, k < W1.heap.size → ((W1.alloc (.cells #[.int .i64 alo, .int .i64 ahi] 78)).alloc (.cells #[.int .i64 blo, .int .i64 bhi] 78)).heap[k]? = W1.heap[k]? := fun k hk => (heap_alloc_old _ _ (Nat.lt_of_lt_of_le hk (Nat.le_of_lt (alloc_lt _ _)))).trans (heap_alloc_old _ _ hk)
      have hz1 : W1.heap.size ≤ ((W1.alloc (.cells #[.int .i64 alo, .int .i64 ahi] 78)).alloc (.cells #[.int .i64 blo, .int .i64 bhi] 78)).heap.size := Nat.le_trans (Nat.le_of_lt (alloc_lt _ _)) (Nat.le_of_lt (alloc_lt _ _))
      have hlr : w2.heap.size + 1 < W1.heap.size := (Array.getElem?_eq_some_iff.1 HJ.out.lp).1
      generalize ((W1.alloc (.cells #[.int .i64 alo, .int .i64 ahi] 78)).alloc (.cells #[.int .i64 blo, .int .i64 bhi] 78)) = W2 at J2 hn1' hn2 hk0 hz1 ⊢
      clear hn1
      have HSB3 := hide (J2.sm.put J2.lp (by omega) { rec with state := .busy })
      have HLP3 := hide (World.putObj_heap_same (w := W2) (r := w2.heap.size + 1) (o := .loop { rec with state := .busy }) (by omega))
      have ho3 : ∀ k, k ≠ w2.heap.size + 1 → (W2.putObj (w2.heap.size + 1) (.loop { rec with state := .busy })).heap[k]? = W2.heap[k]? := fun k hk => World.putObj_heap_other hk
      have hz3 : (W2.putObj (w2.heap.size + 1) (.loop { rec with state := .busy })).heap.size = W2.heap.size := by simp
      generalize W2.putObj (w2.heap.size + 1) (.loop { rec with state := .busy }) = W3 at HSB3 HLP3 ho3 hz3 ⊢
      have hna := (ho3 W1.heap.size (by omega)).trans hn1'
      have hnb := (ho3 (W1.heap.size + 1) (by omega)).trans hn2
      have a0 : W3.cell? ⟨W1.heap.size, 0, none⟩ = some (.int .i64 alo) := by simp [World.cell?, hna]
      have a1 : W3.cell? ⟨W1.heap.size, 1, none⟩ = some (.int .i64 ahi) := by simp [World.cell?, hna]
      have b0 : W3.cell? ⟨W1.heap.size + 1, 0, none⟩ = some (.int .i64 blo) := by simp [World.cell?, hnb]
      have b1 : W3.cell? ⟨W1.heap.size + 1, 1, none⟩ = some (.int .i64 bhi) := by simp [World.cell?, hnb]
      rw [HBO.out]
      clear hna hnb hn1' hn2
      have fc := HSB3.out.fc
      have f0 : W3.cell? ⟨w.heap.size, 0, none⟩ = some (.bool false) := by simp [World.cell?, fc]
      have f1 : W3.frozen? ⟨w.heap.size, 0, none⟩ = false := by simp [World.frozen?, fc]
      clear fc
      have hlw : w.heap.size ≠ w2.heap.size + 1 := by omega
      gi_wp2
      rotate_left
      · rename_i hno
        have hnm : meetS ⟨alo, ahi⟩ ⟨blo, bhi⟩ = false := by
          unfold meetS
          exact decide_eq_false (by simp only at hno ⊢; omega)
        refine ⟨none, { rec with state := .busy }, rfl, HLP3.out, .inl ⟨rfl, ?_, ?_, ?_⟩⟩
        · refine ⟨HSB3.out.put HLP3.out (by omega) _, ?_, (World.putObj_heap_other (by omega)).trans ((ho3 _ (by omega)).trans J2.df), ?_, (World.putObj_heap_other (by omega)).trans ((ho3 _ (by omega)).trans J2.bx), J2.old, fun j hj => ?_⟩
          · rw [World.putObj_heap_same (by omega)]
            have h1 := HST.out; have h2 := HPE.out
            cases rec
            simp only at h1 h2
            subst h1 h2
            rfl
          · have := J2.sz
            simp only [World.putObj_size]
            omega
          · rcases Nat.lt_succ_iff_lt_or_eq.1 hj with h5 | rfl
            · exact J2.now j h5
            · rw [HSA.out, HSB.out]; exact hnm
        · simp only [World.putObj_size]
          omega
        · intro k hk1 hk2
          exact (World.putObj_heap_other (by omega)).trans ((ho3 k (by omega)).trans (hk0 k hk2))
      · rename_i hyes
        have hm : meetS ⟨alo, ahi⟩ ⟨blo, bhi⟩ = true := (by unfold meetS; exact decide_eq_true (by simp only at hyes ⊢; omega))
        have hlp4 : (W3.setCell ⟨w.heap.size, 0, none⟩ (.bool true)).heap[w2.heap.size + 1]? = some (.loop { rec with state := .busy }) := by
          simp only [World.setCell, Array.getElem?_modify]
          rw [if_neg hlw]
          exact HLP3.out
        have hdf4 : (W3.setCell ⟨w.heap.size, 0, none⟩ (.bool true)).heap[w2.heap.size]? = some (.deferred (some [])) := by
          simp only [World.setCell, Array.getElem?_modify]
          rw [if_neg (by show w.heap.size ≠ w2.heap.size; omega)]
          exact (ho3 _ (by omega)).trans J2.df
        have S4 := HSB3.out.found
        generalize W3.setCell ⟨w.heap.size, 0, none⟩ (.bool true) = W4 at hlp4 hdf4 S4 ⊢
        have hl4 := (Array.getElem?_eq_some_iff.1 hlp4).1
        refine ⟨some (.exit 0), { rec with state := .busy }, rfl, hlp4, .inr ⟨rfl, fun v => ⟨⟨v, rfl⟩, { rec with state := .done, pending := some (.exit 0) }, World.putObj_heap_same hl4, by simp, ?_⟩⟩⟩
        have hwL : (∃ l ∈ L, MeetL l) := ⟨l, by rw [← HL.out, List.getD_eq_getElem?_getD, List.getElem?_eq_getElem hlt]; exact List.getElem_mem hlt, p, q, hq, hp, by rw [HSA.out, HSB.out]; exact hm⟩
        have S5 := hide (show ∀ r1 r2 : Loop, SM w ((W4.putObj (w2.heap.size + 1) (.loop r1)).putObj (w2.heap.size + 1) (.loop r2)) true (w2.heap.size :: Ds) from fun r1 r2 => ((S4.put hlp4 (by omega) r1).put (World.putObj_heap_same hl4) (by omega) r2).more ((World.putObj_heap_other (by omega)).trans ((World.putObj_heap_other (by omega)).trans hdf4)) (by omega) hDn.out)
        have HW := hide hwL
        have S6 := S5.out { rec with state := .done, pending := some (.exit 0) } { rec with state := .exhausted, pending := some (.exit 0) }
        have f6 := show (((W4.putObj (w2.heap.size + 1) (.loop { rec with state := .done, pending := some (.exit 0) })).putObj (w2.heap.size + 1) (.loop { rec with state := .exhausted, pending := some (.exit 0) }))).cell? ⟨w.heap.size, 0, none⟩ = some (.bool true) by unfold World.cell?; rw [S6.fc]; rfl
        have HS6 := hide S6
        clear S6 S5 hwL hm hyes S4 hlp4 hdf4 hl4 a0 a1 b0 b1 f0 f1 J2 hk0 ho3 HLP3 HSB3 hz1 hz2 hz3 hz0 hzr
        go_wp2
        rw [Exit.noGoto_ret]
        refine leaves_marked (w2.heap.size :: Ds) _ (fun D hD => (HS6.out.ds D hD).2) HS6.out.nd ?_
        intro W' o1 o2 o3 o4 o5
        refine ⟨.bool true, by simp [results, Tryd.results46, go_sem], true, rfl, by simp; exact HW.out, ?_⟩
        have hS6 := HS6.out
        exact hS6.bel.trans ⟨o1, o2, o3, by rw [o4]; exact Nat.le_refl _, fun k hk => o5 k (fun h => by have := (hS6.ds k h).1; omega)⟩
  · obtain rfl : i = L.length := by omega
    have f0 : wr.cell? ⟨w.heap.size, 0, none⟩ = some (.bool false) := by simp [World.cell?, hS.fc]
    have HS := hide hS
    clear hS
    go_wp2
    rw [Exit.noGoto_ret]
    refine leaves_marked Ds wr (fun D hD => (HS.out.ds D hD).2) HS.out.nd ?_
    intro W' o1 o2 o3 o4 o5
    have hS6 := HS.out
    refine ⟨.bool false, by simp [results, Tryd.results46, go_sem], false, rfl, ?_, hS6.bel.trans ⟨o1, o2, o3, by rw [o4]; exact Nat.le_refl _, fun k hk => o5 k (fun h => by have := (hS6.ds k h).1; omega)⟩⟩
    refine ⟨fun h => (by cases h), fun h => ?_⟩
    obtain ⟨x, hx, hm⟩ := h
    obtain ⟨t, ht, rfl⟩ := List.getElem_of_mem hx
    have := H.out t ht
    rw [List.getD_eq_getElem?_getD, List.getElem?_eq_getElem ht] at this
    exact absurd hm this
end Go.Proofs.YtdennekkbdlhdaaDoor
namespace Go.Proofs.YtdennekkbdlhdaaDoor
open Go.RowKit Go.Deep
set_option linter.unusedVariables false

def spCells (l : List Sp) : List Value := l.flatMap fun s => [.int .i64 s.lo, .int .i64 s.hi]
theorem spCells_len (l : List Sp) : (spCells l).length = l.length * 2 := by
  induction l with
  | nil => rfl
  | cons s l ih => simp only [spCells, List.flatMap_cons, List.length_append, List.length_cons, List.length_nil]; unfold spCells at ih; omega
theorem spCells_at (l : List Sp) : ∀ k, k < l.length → (spCells l)[k * 2]? = some (.int .i64 (l.getD k default).lo) ∧ (spCells l)[k * 2 + 1]? = some (.int .i64 (l.getD k default).hi) := by
  induction l with
  | nil => intro k h; simp at h
  | cons s l ih =>
    intro k h
    unfold spCells at ih ⊢
    rw [List.flatMap_cons]
    cases k with
    | zero => exact ⟨rfl, rfl⟩
    | succ k =>
      have := ih k (by simpa using h)
      rw [show (k + 1) * 2 = k * 2 + 2 by omega, show (s :: l).getD (k + 1) default = l.getD k default by simp]
      exact this
/-- a list of spans in memory of one's own -/
def RowV (W : World) (base : Nat) (v : Value) (l : List Sp) : Prop := W.ownsRow base 78 2 v l.length (spCells l)

structure RowsS (W : World) (base rb : Nat) (vs : List Value) (L : List (List Sp)) : Prop where
  blk : W.heap[rb]? = some (.cells vs.toArray 74 (0, 0))
  len : vs.length = L.length
  own : ∀ i, i < L.length → RowV W base (vs.getD i undef) (L.getD i [])
  apart : ∀ i j, i < L.length → j < L.length → i ≠ j → ∀ g, (vs.getD i undef).ownBlock = some g → (vs.getD j undef).ownBlock ≠ some g
  off : rb < base

theorem RowV.blk {W : World} {base : Nat} {v : Value} {l : List Sp} (h : RowV W base v l) {g : Nat} (hg : v.ownBlock = some g) : base ≤ g ∧ ∃ cur, W.heap[g]? = some (.cells cur 78 (0, 0)) := by
  rcases h.2 with ⟨rfl, _⟩ | ⟨g', cap, cur, rfl, h1, h2, _⟩
  · cases hg
  · simp [Value.ownBlock] at hg
    subst hg
    exact ⟨h1, cur, h2⟩
theorem RowV.kept {W W' : World} {base : Nat} {v : Value} {l : List Sp} (h : RowV W base v l) (hb : ∀ g, v.ownBlock = some g → W'.heap[g]? = W.heap[g]?) : RowV W' base v l := by
  refine ⟨h.1, ?_⟩
  rcases h.2 with h1 | ⟨g, cap, cur, rfl, h2, h3, h4⟩
  · exact .inl h1
  · exact .inr ⟨g, cap, cur, rfl, h2, (hb g rfl).trans h3, h4⟩
theorem RowV.spans {W : World} {base : Nat} {v : Value} {l : List Sp} (h : RowV W base v l) : ∃ A ci, v = .slice A l.length ci ∧ l.length ≤ ci ∧ ci ≤ maxLen ∧ Spans W A l := by
  rcases h.2 with ⟨rfl, h1⟩ | ⟨g, cap, cur, rfl, h2, h3, h4, h5, h6, h7⟩
  · exact ⟨none, 0, by rw [h1], by omega, Nat.zero_le _, .inl h1⟩
  · refine ⟨_, cap, rfl, h4, h5, .inr ⟨g, 0, rfl, (Array.getElem?_eq_some_iff.1 h3).1, fun i hi => ?_⟩⟩
    obtain ⟨a, b⟩ := spCells_at l i hi
    rw [← h7, List.getElem?_take] at a b
    rw [if_pos (by omega)] at a b
    have hc : ∀ o, W.cell? ⟨g, o, none⟩ = cur[o]? := fun o => by simp [World.cell?, h3]
    rw [hc, hc, Nat.zero_add]
    exact ⟨by simpa using a, by simpa using b⟩
theorem RowsS.rows {W : World} {base rb : Nat} {vs : List Value} {L : List (List Sp)} (h : RowsS W base rb vs L) : SpRows W (some ⟨rb, 0, none⟩) L := by
  refine .inr ⟨rb, 0, rfl, (Array.getElem?_eq_some_iff.1 h.blk).1, fun i hi => ?_⟩
  obtain ⟨A, ci, h1, h2, h3, h4⟩ := (h.own i hi).spans
  refine ⟨A, ci, ?_, h2, h3, h4⟩
  have hi' : i < vs.length := by rw [h.len]; exact hi
  have hv : vs[i]? = some (vs.getD i undef) := by rw [List.getD_eq_getElem?_getD, List.getElem?_eq_getElem hi']; rfl
  simp only [Nat.zero_add, Nat.mul_one, World.cell?, h.blk]
  rw [← h1]
  simpa using hv
theorem RowsS.below {W W' : World} {base rb : Nat} {vs : List Value} {L : List (List Sp)} (h : RowsS W base rb vs L) (hb : Below W.heap.size W W') : RowsS W' base rb vs L :=
  ⟨(hb.block _ (Array.getElem?_eq_some_iff.1 h.blk).1).trans h.blk, h.len, fun i hi => (h.own i hi).kept fun g hg => by
    obtain ⟨_, cur, h2⟩ := (h.own i hi).blk hg
    exact hb.block g (Array.getElem?_eq_some_iff.1 h2).1, h.apart, h.off⟩
theorem RowsS.cell {W : World} {base rb : Nat} {vs : List Value} {L : List (List Sp)} (h : RowsS W base rb vs L) {i : Nat} (hi : i < L.length) : W.cell? ⟨rb, i, none⟩ = some (vs.getD i undef) ∧ W.frozen? ⟨rb, i, none⟩ = false := by
  have hi' : i < vs.length := by rw [h.len]; exact hi
  refine ⟨?_, by simp [World.frozen?, h.blk]⟩
  simp only [World.cell?, h.blk]
  rw [List.getD_eq_getElem?_getD, List.getElem?_eq_getElem hi']
  simp [hi']

/-- one of them longer: its new slice, and the world behind the append and the store -/
theorem RowsS.add {W W1 : World} {base rb : Nat} {vs : List Value} {L : List (List Sp)} (h : RowsS W base rb vs L) {i : Nat} (hi : i < L.length) (s : Sp) {v' : Value} (hr : RowV W1 base v' (L.getD i [] ++ [s]))
    (hg : W.grownBy W1 (vs.getD i undef).ownBlock) (hnew : ∀ g, v'.ownBlock = some g → (vs.getD i undef).ownBlock = some g ∨ W.heap.size ≤ g) :
    RowsS (W1.setCell ⟨rb, i, none⟩ v') base rb (vs.set i v') (L.set i (L.getD i [] ++ [s])) := by
  have hi' : i < vs.length := by rw [h.len]; exact hi
  have hrb := (Array.getElem?_eq_some_iff.1 h.blk).1
  have hold : ∀ k, k < W.heap.size → (vs.getD i undef).ownBlock ≠ some k → W1.heap[k]? = W.heap[k]? := fun k hk hne => hg.block k hk fun e => hne e.symm
  have hrb1 : W1.heap[rb]? = some (.cells vs.toArray 74 (0, 0)) := (hold rb hrb fun e => by have := ((h.own i hi).blk e).1; have := h.off; omega).trans h.blk
  have hset : ∀ k, k ≠ rb → (W1.setCell ⟨rb, i, none⟩ v').heap[k]? = W1.heap[k]? := fun k hk => by
    simp only [World.setCell, Array.getElem?_modify]
    rw [if_neg (fun e => hk e.symm)]
  have vget : ∀ j, (vs.set i v').getD j undef = if j = i then v' else vs.getD j undef := fun j => by
    simp only [List.getD_eq_getElem?_getD, List.getElem?_set]
    by_cases e : i = j
    · subst e; simp [hi']
    · rw [if_neg e, if_neg (fun x => e x.symm)]
  have lget : ∀ j, (L.set i (L.getD i [] ++ [s])).getD j [] = if j = i then L.getD i [] ++ [s] else L.getD j [] := fun j => by
    simp only [List.getD_eq_getElem?_getD, List.getElem?_set]
    by_cases e : i = j
    · subst e; simp [hi]
    · rw [if_neg e, if_neg (fun x => e x.symm)]
  refine ⟨?_, by simp [h.len], fun j hj => ?_, fun j k hj hk hjk g h1 h2 => ?_, h.off⟩
  · simp only [World.setCell, Array.getElem?_modify, if_true, hrb1, Option.map_some]
    congr 2
    apply Array.ext'
    simp
  · simp only [List.length_set] at hj
    rw [vget, lget]
    by_cases e : j = i
    · rw [if_pos e, if_pos e]
      exact hr.kept fun g hg' => hset g fun e' => by have := (hr.blk hg').1; have := h.off; omega
    · rw [if_neg e, if_neg e]
      refine (h.own j hj).kept fun g hg' => ?_
      obtain ⟨b1, cur, b2⟩ := (h.own j hj).blk hg'
      rw [hset g (by have := h.off; omega)]
      exact hold g (Array.getElem?_eq_some_iff.1 b2).1 fun e' => h.apart i j hi hj (fun x => e x.symm) g e' hg'
  · simp only [List.length_set] at hj hk
    rw [vget] at h1 h2
    by_cases e1 : j = i <;> by_cases e2 : k = i
    · exact hjk (e1.trans e2.symm)
    · rw [if_pos e1] at h1
      rw [if_neg e2] at h2
      obtain ⟨_, cur, b2⟩ := (h.own k hk).blk h2
      rcases hnew g h1 with a | a
      · exact h.apart i k hi hk (fun x => e2 x.symm) g a h2
      · have := (Array.getElem?_eq_some_iff.1 b2).1; omega
    · rw [if_neg e1] at h1
      rw [if_pos e2] at h2
      obtain ⟨_, cur, b2⟩ := (h.own j hj).blk h1
      rcases hnew g h2 with a | a
      · exact h.apart i j hi hj (fun x => e1 x.symm) g a h1
      · have := (Array.getElem?_eq_some_iff.1 b2).1; omega
    · rw [if_neg e1] at h1
      rw [if_neg e2] at h2
      exact h.apart j k hj hk hjk g h1 h2
end Go.Proofs.YtdennekkbdlhdaaDoor
