/-
  The bus: its state, whose send is the owner's first, and what passes.
-/
import Derived.Test.YtbeggdahbhfhpaaDoorCorC
import Derived.Test.YtbeggdahbhfhpaaDoorAtom
import Derived.Test.YtbeggdahbhfhpaaDoorTurns
import Derived.LaidEqlPtr
import Derived.BigQuiet
import Derived.StillTailTactics
namespace Go.Proofs.YtbeggdahbhfhpaaDoor
open Go.RowKit Go.Deep
set_option linter.unusedVariables false
set_option linter.unusedSimpArgs false

/-! ### A list of one's own -/
set_option maxRecDepth 100000 in
theorem ownList_at (l : List Nat) (A : Option Addr) (n c : Nat) (w : World) (hn : l.length = n) (hm : n ≤ 1000000) (hB : Bytes w A l) :
    Calls Tryd.prog 99 #[.slice A n c] w fun e w' => ∃ g c', e = .returned (.slice (some ⟨g, 0, none⟩) n c') ∧ OwnS w' w.heap.size g n c' l ∧ Below w.heap.size w w' := by
  have hE := OwnS.made (w := w) (base := w.heap.size) [] (by simp) (by simp [maxLen]) (Nat.le_refl _)
  have hb0 : bys [] = #[] := rfl
  rw [hb0] at hE
  have HE := hide hE
  have HB := hide (hB.of_below (bal w (.cells #[] 5)) (Nat.le_refl _))
  have HZ := hide (bal w (.cells #[] 5)).size
  have HB0 := hide (bal w (.cells #[] 5))
  have hnm : 0 + n ≤ 2000000 := by omega
  clear hE hB hb0
  go_enter Tryd.func99, Tryd.ntmps99
  go_wp2_with (refine wpList_ontoS rfl (.tmp 3) (.tmp 4) rfl w.heap.size w.heap.size 0 0 [] rfl HE.out A n c l rfl hn HB.out hnm HZ.out ?_; intro g1 c1 w2 h1 hb1; rw [Nat.zero_add] at h1 ⊢; rw [List.nil_append] at h1)
  go_ret
  exact ⟨g1, c1, rfl, h1, HB0.out.trans (grown_below hb1 (Nat.le_refl _) HZ.out)⟩

/-! ### The bus's own block -/
structure Bu where
  N : Nat
  ow : List Int
  bl : Nat
  pa : Nat
def turnsC (k : Bu) : Conf := ⟨k.N, k.ow, 0, 0, 0, 0, 0, 0, [], [], [], []⟩
def turnsA (ob oc : Nat) : Ad := ⟨some ⟨ob, 0, none⟩, oc, none, 0, none, 0, none, 0, none, 0⟩
structure BuAt (W : World) (g ob oc : Nat) (k : Bu) : Prop where
  lt : g < W.heap.size
  c0 : W.cell? ⟨g, 0, none⟩ = some (.pointer (some ⟨g, 0, none⟩))
  cs : ∀ j v, ((turnsC k).val (turnsA ob oc)).cells[j]? = some v → W.cell? ⟨g, 1 + j, none⟩ = some v
  c13 : W.cell? ⟨g, 13, none⟩ = some (.int .u64 (k.bl : Int))
  c14 : W.cell? ⟨g, 14, none⟩ = some (.int .u64 (k.pa : Int))
  free : ∀ j, W.frozen? ⟨g, j, none⟩ = false
  cf : ConfAt W (turnsC k) (turnsA ob oc)
  ol : ob < W.heap.size
  ne : ob ≠ g
section
variable {W W' : World} {g ob oc : Nat} {k : Bu}
theorem bcell_kept {w w' : World} {b o : Nat} (h : w'.heap[b]? = w.heap[b]?) : w'.cell? ⟨b, o, none⟩ = w.cell? ⟨b, o, none⟩ := by unfold World.cell?; rw [h]
theorem bfree_kept {w w' : World} {b o : Nat} (h : w'.heap[b]? = w.heap[b]?) : w'.frozen? ⟨b, o, none⟩ = w.frozen? ⟨b, o, none⟩ := by unfold World.frozen?; rw [h]
theorem BuAt.below (x : BuAt W g ob oc k) (h : Below W.heap.size W W') : BuAt W' g ob oc k :=
  ⟨Nat.lt_of_lt_of_le x.lt h.size, (bcell_kept (h.block _ x.lt)).trans x.c0, fun j v hv => (bcell_kept (h.block _ x.lt)).trans (x.cs j v hv), (bcell_kept (h.block _ x.lt)).trans x.c13, (bcell_kept (h.block _ x.lt)).trans x.c14, fun j => (bfree_kept (h.block _ x.lt)).trans (x.free j), x.cf.of_below h (Nat.le_refl _), Nat.lt_of_lt_of_le x.ol h.size, x.ne⟩
theorem bset_other {W : World} {g k j : Nat} {v : Value} (h : k ≠ g) : (W.setCell ⟨g, j, none⟩ v).heap[k]? = W.heap[k]? := by
  show (W.heap.modify g _)[k]? = _
  rw [Array.getElem?_modify, if_neg (fun e => h e.symm)]
theorem bset_size (W : World) (a : Addr) (v : Value) : (W.setCell a v).heap.size = W.heap.size := by
  show (W.heap.modify _ _).size = _
  rw [Array.size_modify]
theorem bcell_other {w : World} {b j o : Nat} {v : Value} (h : o ≠ j) : (w.setCell ⟨b, j, none⟩ v).cell? ⟨b, o, none⟩ = w.cell? ⟨b, o, none⟩ := World.cell?_setCell_other _ _ _ _ (fun e => h (by injection e with _ e2 _; first | exact e2 | exact e2.symm))
/-- the configuration of turns: its owners lie elsewhere -/
theorem conf_kept {k : Bu} (h : ConfAt W (turnsC k) (turnsA ob oc)) (hs : ob < W.heap.size) (hz : W.heap.size ≤ W'.heap.size) (ho : W'.heap[ob]? = W.heap[ob]?) : ConfAt W' (turnsC k) (turnsA ob oc) :=
  { h with
    owners := ⟨h.owners.1, by
      rcases h.owners.2 with h0 | ⟨b, off, e, hlt, hc⟩
      · exact .inl h0
      · refine .inr ⟨b, off, e, Nat.lt_of_lt_of_le hlt hz, fun i hi => ?_⟩
        have e1 : b = ob := by injection (Option.some.inj e) with e1 _ _; exact e1.symm
        subst e1
        exact (bcell_kept ho).trans (hc i hi)⟩
    parts := ⟨fun z hz => (by cases hz), .inl rfl⟩
    windows := .inl rfl
    ports := ⟨fun z hz => (by cases hz), .inl rfl⟩
    links := ⟨fun z hz => (by cases hz), .inl rfl⟩ }
theorem BuAt.put (x : BuAt W g ob oc k) {j : Nat} (hj : j = 13 ∨ j = 14) (z : Nat) : BuAt (W.setCell ⟨g, j, none⟩ (.int .u64 (z : Int))) g ob oc (if j = 13 then { k with bl := z } else { k with pa := z }) := by
  have hcf := conf_kept (W' := W.setCell ⟨g, j, none⟩ (.int .u64 (z : Int))) x.cf x.ol (by rw [bset_size]; exact Nat.le_refl _) (bset_other x.ne)
  have hcs : ∀ i v, ((turnsC k).val (turnsA ob oc)).cells[i]? = some v → (W.setCell ⟨g, j, none⟩ (.int .u64 (z : Int))).cell? ⟨g, 1 + i, none⟩ = some v := fun i v hv => by
    have hi : i < 12 := by
      rcases Nat.lt_or_ge i 12 with h | h
      · exact h
      · have : ((turnsC k).val (turnsA ob oc)).cells.size = 12 := rfl
        rw [Array.getElem?_eq_none (by omega)] at hv; cases hv
    exact (bcell_other (by omega)).trans (x.cs i v hv)
  rcases hj with rfl | rfl
  · exact ⟨by rw [bset_size]; exact x.lt, (bcell_other (by omega)).trans x.c0, hcs, World.cell?_setCell_same _ _ _ x.c13, (bcell_other (by omega)).trans x.c14, fun j => by rw [World.frozen?_setCell]; exact x.free j, hcf, by rw [bset_size]; exact x.ol, x.ne⟩
  · exact ⟨by rw [bset_size]; exact x.lt, (bcell_other (by omega)).trans x.c0, hcs, (bcell_other (by omega)).trans x.c13, World.cell?_setCell_same _ _ _ x.c14, fun j => by rw [World.frozen?_setCell]; exact x.free j, hcf, by rw [bset_size]; exact x.ol, x.ne⟩
end
set_option maxRecDepth 100000 in
set_option maxHeartbeats 400000 in
theorem bmade_at (b : Nat) (w : World) (h : w.cell? ⟨b, 0, none⟩ = some (.pointer (some ⟨b, 0, none⟩))) : Calls Tryd.prog 53 #[.pointer (some ⟨b, 0, none⟩)] w fun e w' => e = .returned (.bool true) ∧ w = w' := by
  obtain ⟨j, hj⟩ := Option.isSome_iff_exists.1 (show (Tryd.prog.info? 154).isSome = true by kernel_rfl)
  have he := fun W => run_eql_ptr_same (P := Tryd.prog) (w := W) (tp := 59) ⟨b, 0, none⟩ Tryd.underlying59 hj
  clear hj
  go_enter Tryd.func53, Tryd.ntmps53
  go_wp2
  go_ret
  exact ⟨rfl, rfl⟩
theorem bpassed_at {g ob oc : Nat} {k : Bu} {w : World} (x : BuAt w g ob oc k) : Calls Tryd.prog 20 #[.pointer (some ⟨g, 0, none⟩)] w fun e w' => e = .returned (.int .u64 (k.pa : Int)) ∧ w = w' := by
  have hmade := bmade_at g w x.c0
  have HL := hide (uload ⟨g, 14, none⟩ _ w x.c14)
  clear x
  go_enter Tryd.func20, Tryd.ntmps20
  go_wp2_with fail
  refine hmade.mono ?_
  rintro e w' ⟨rfl, rfl⟩
  go_wp2_with fail
  refine HL.out.mono ?_
  rintro e w' ⟨rfl, rfl⟩
  go_wp2
  go_ret
  exact ⟨rfl, rfl⟩
theorem bblocked_at {g ob oc : Nat} {k : Bu} {w : World} (x : BuAt w g ob oc k) : Calls Tryd.prog 21 #[.pointer (some ⟨g, 0, none⟩)] w fun e w' => e = .returned (.int .u64 (k.bl : Int)) ∧ w = w' := by
  have hmade := bmade_at g w x.c0
  have HL := hide (uload ⟨g, 13, none⟩ _ w x.c13)
  clear x
  go_enter Tryd.func21, Tryd.ntmps21
  go_wp2_with fail
  refine hmade.mono ?_
  rintro e w' ⟨rfl, rfl⟩
  go_wp2_with fail
  refine HL.out.mono ?_
  rintro e w' ⟨rfl, rfl⟩
  go_wp2
  go_ret
  exact ⟨rfl, rfl⟩

/-! ### Sends -/
structure SnD where
  node : Int
  l : List Nat
instance : Inhabited SnD := ⟨⟨0, []⟩⟩
def SnAt (W : World) (A : Option Addr) (L : List SnD) : Prop :=
  Lies W A L.length 2 fun i b o => W.cell? ⟨b, o, none⟩ = some (.int .i64 (L.getD i default).node) ∧ ∃ Ai ci, W.cell? ⟨b, o + 1, none⟩ = some (.slice Ai (L.getD i default).l.length ci) ∧ Bytes W Ai (L.getD i default).l
theorem SnAt.below {w w' : World} {A : Option Addr} {L : List SnD} (h : SnAt w A L) (hb : Below w.heap.size w w') : SnAt w' A L :=
  h.of_below hb (Nat.le_refl _) fun i b o _ hlt ⟨a, Ai, ci, c, d⟩ => ⟨cell_below hb (Nat.le_refl _) hlt a, Ai, ci, cell_below hb (Nat.le_refl _) hlt c, d.of_below hb (Nat.le_refl _)⟩
theorem SnAt.at {w : World} {A : Option Addr} {L : List SnD} (h : SnAt w A L) {i : Nat} (hi : i < L.length) : ∃ b o Ai ci, A = some ⟨b, o, none⟩ ∧ b < w.heap.size ∧ w.cell? ⟨b, o + i * 2, none⟩ = some (.int .i64 (L.getD i default).node) ∧ w.cell? ⟨b, o + i * 2 + 1, none⟩ = some (.slice Ai (L.getD i default).l.length ci) ∧ Bytes w Ai (L.getD i default).l := by
  rcases h with h0 | ⟨b, o, e, hlt, hc⟩
  · omega
  · obtain ⟨h1, Ai, ci, h2, h3⟩ := hc i hi
    exact ⟨b, o, Ai, ci, e, hlt, h1, h2, h3⟩

set_option maxRecDepth 100000 in
theorem isof_at (node : Int) (sv : Value) (h1 : sv.oneCell' = true) (cb : Nat) (owner : Int) (w : World) (hc : w.cell? ⟨cb, 0, none⟩ = some (.int .i64 owner)) (hl : cb < w.heap.size) :
    Calls Tryd.prog 134 #[.agg #[.int .i64 node, sv], .pointer (some ⟨cb, 0, none⟩)] w fun e w' => e = .returned (.bool (node == owner)) ∧ Below w.heap.size w w' := by
  have hb1 := bal w (.cells #[.int .i64 node, sv] 65)
  have c0 : (w.alloc (.cells #[.int .i64 node, sv] 65)).cell? ⟨cb, 0, none⟩ = some (.int .i64 owner) := cell_below hb1 (Nat.le_refl _) hl hc
  have HB := hide hb1
  clear hb1
  go_enter Tryd.func134, Tryd.ntmps134
  go_wp2
  go_ret
  exact ⟨rfl, HB.out⟩

set_option maxRecDepth 100000 in
set_option maxHeartbeats 1000000 in
theorem index_first (L : List SnD) (A : Option Addr) (c : Nat) (cb : Nat) (owner : Int) (p : Nat) (w : World) (hL : SnAt w A L) (hl : L.length ≤ 9223372036854775807) (hp : p < L.length) (h1 : (L.getD p default).node = owner) (h2 : ∀ j, j < p → (L.getD j default).node ≠ owner)
    (hc : w.cell? ⟨cb, 0, none⟩ = some (.int .i64 owner)) (hcb : cb < w.heap.size) :
    Calls Tryd.prog 133 #[.slice A L.length c, .func (.func 134) #[] #[.pointer (some ⟨cb, 0, none⟩)]] w fun e w' => e = .returned (.int .i64 (p : Int)) ∧ Below w.heap.size w w' := by
  have HL := hide (fun W (hb : Below w.heap.size w W) => hL.below hb)
  have HC := hide (fun W (hb : Below w.heap.size w W) => (cell_below hb (Nat.le_refl _) hcb hc))
  have H1 := hide h1; have H2 := hide h2
  clear hL hc h1 h2
  go_enter Tryd.func133, Tryd.ntmps133
  go_wp2_with fail
  go_loopw [8, 5, 4] (fun s8 s5 s4 W => ∃ i : Nat, i ≤ p ∧ s8 = .int .i64 i ∧ Below w.heap.size w W) (fun s8 _ _ _ => L.length - (intOf s8).toNat)
  case atStart => exact ⟨0, Nat.zero_le _, rfl, Below.refl _ _⟩
  case round =>
    obtain ⟨i, hi, rfl, hbw⟩ := hrel
    have hlt : i < L.length := by omega
    obtain ⟨b, o, Ai, ci, rfl, hbl, e0, e1, hB⟩ := (HL.out wr hbw).at hlt
    have HI := hide (isof_at (L.getD i default).node (.slice Ai (L.getD i default).l.length ci) rfl cb owner wr (HC.out wr hbw) (Nat.lt_of_lt_of_le hcb hbw.size))
    have HBW := hide hbw
    have hip : i + 1 ≤ 9223372036854775807 := by omega
    clear hB hbw
    by_cases he : i = p
    · subst he
      have hb : ((L.getD i default).node == owner) = true := by simpa using H1.out
      rw [hb] at HI
      generalize (L.getD i default).node = nd at e0 HI
      generalize (L.getD i default).l.length = nl at e1 HI
      clear H1 H2 hb
      go_wp2_with fail
      refine HI.out.mono ?_
      rintro e w1 ⟨rfl, hb1⟩
      have HBf := hide (HBW.out.trans (hb1.mono HBW.out.size))
      clear hb1
      go_wp2
      go_ret
      exact ⟨rfl, HBf.out⟩
    · have hb : ((L.getD i default).node == owner) = false := by simpa using H2.out i (by omega)
      rw [hb] at HI
      generalize (L.getD i default).node = nd at e0 HI
      generalize (L.getD i default).l.length = nl at e1 HI
      have HIP := hide (show i + 1 ≤ p by omega)
      clear hb he
      go_wp2_with fail
      refine HI.out.mono ?_
      rintro e w1 ⟨rfl, hb1⟩
      have HBf := hide (HBW.out.trans (hb1.mono HBW.out.size))
      clear hb1
      go_wp2_with fail
      go_roundw
      case rel => exact ⟨i + 1, HIP.out, by go_num, HBf.out⟩
      case measure => simp [intOf]; omega
end Go.Proofs.YtbeggdahbhfhpaaDoor
