/-
  What is refused; a link's room in a payload, and the message that stands there.
-/
import Derived.Test.YtdfpeilflinmhaaDoorVlA
import Derived.Test.YtdfpeilflinmhaaDoorFactsC
namespace Go.Proofs.YtdfpeilflinmhaaDoor
open Go.RowKit Go.Deep
set_option linter.unusedVariables false
set_option linter.unusedSimpArgs false

def okN (c : Conf) (z : Int) : Prop := 0 ≤ z ∧ z < c.nodes
instance (c : Conf) (z : Int) : Decidable (okN c z) := by unfold okN; infer_instance
/-- the error of a configuration, or of the nodes that are named -/
noncomputable def refF (c : Conf) (l : List Int) : Int := if checkF c = 0 then (if ∀ z ∈ l, okN c z then 0 else 2) else checkF c
theorem refF_bad {c : Conf} {l : List Int} (h : checkF c ≠ 0) : refF c l = checkF c := by unfold refF; rw [if_neg h]
theorem refF_ok {c : Conf} {l : List Int} (h : checkF c = 0) (hl : ∀ z ∈ l, okN c z) : refF c l = 0 := by unfold refF; rw [if_pos h, if_pos hl]
theorem refF_no {c : Conf} {l : List Int} (h : checkF c = 0) {z : Int} (hz : z ∈ l) (hn : ¬ okN c z) : refF c l = 2 := by unfold refF; rw [if_pos h, if_neg (fun a => hn (a z hz))]

set_option maxRecDepth 100000 in
set_option maxHeartbeats 1000000 in
theorem refusal_at (c : Conf) (d : Ad) (l : List Int) (A : Option Addr) (m : Nat) (w : World) (hg : Glo w) (h : ConfAt w c d) (hI : Ints w A l) (hn : l.length ≤ 10) :
    Calls Tryd.prog 48 #[c.val d, .slice A l.length m] w fun e w' => e = .returned (.int .i64 (refF c l)) ∧ Below w.heap.size w w' := by
  have hS := CfS.first 28 hg h
  have HC := hide (fun W (H : CfS w W c d) => check_any c d W H.g H.cf)
  have HI := hide (fun W (H : CfS w W c d) => Ints.of_below hI H.bel (Nat.le_refl _))
  have R0 := hide (fun h => refF_bad (c := c) (l := l) h)
  have R1 : Hid (checkF c = 0 → (∀ j, j < l.length → 0 ≤ l.getD j 0 ∧ l.getD j 0 < c.nodes) → refF c l = 0) := fun h0 h1 => refF_ok h0 fun z hz => by
    obtain ⟨j, hj, rfl⟩ := List.getElem_of_mem hz
    have := h1 j hj
    rwa [List.getD_eq_getElem?_getD, List.getElem?_eq_getElem hj, Option.getD_some] at this
  have R2 : Hid (checkF c = 0 → ∀ j, j < l.length → ¬ (0 ≤ l.getD j 0 ∧ l.getD j 0 < c.nodes) → refF c l = 2) := fun h0 j hj h1 => refF_no h0 (z := l.getD j 0) (by
    rw [List.getD_eq_getElem?_getD, List.getElem?_eq_getElem hj]; exact List.getElem_mem hj) h1
  generalize refF c l = r at R0 R1 R2 ⊢
  generalize checkF c = f at HC R0 R1 R2
  clear hg h hI
  obtain ⟨oA, oC, pA, pC, wA, wC, qA, qC, lA, lC⟩ := d
  unfold Conf.val at HC ⊢
  unfold Conf.cells at hS
  dsimp only at hS HC ⊢
  obtain ⟨hb, ⟨hl, e0, e1, e2, e3, e4, e5, e6, e7, e8, e9, e10, e11⟩, _, _⟩ := id hS
  dsimp only at e0 e1 e2 e3 e4 e5 e6 e7 e8 e9 e10 e11
  have HS := hide hS
  clear hS hb
  go_enter Tryd.func48, Tryd.ntmps48
  go_wp2_with fail
  refine (HC.out _ HS.out).mono ?_
  rintro e w1 ⟨rfl, hb1⟩
  have HT := hide (HS.out.below hb1)
  clear hb1 hl e0 e1 e2 e3 e4 e5 e6 e7 e8 e9 e10 e11 HS HC
  by_cases hf : f = 0
  · subst hf
    replace R1 := hide (R1.out rfl)
    replace R2 := hide (R2.out rfl)
    clear R0
    go_wp2_with fail
    go_loopw [15, 7, 4] (fun i s7 s4 W => ∃ k : Nat, k ≤ l.length ∧ i = .int .i64 k ∧ CfS w W c ⟨oA, oC, pA, pC, wA, wC, qA, qC, lA, lC⟩ ∧ Hid (∀ j, j < k → 0 ≤ l.getD j 0 ∧ l.getD j 0 < c.nodes)) (fun i _ _ _ => l.length - (intOf i).toNat)
    case atStart => exact ⟨0, by omega, rfl, HT.out, fun j hj => by omega⟩
    case round =>
      obtain ⟨k, hk, rfl, hT, H⟩ := hrel
      have HU := hide hT
      clear hT HT
      by_cases hlt : k < l.length
      · obtain ⟨b, off, hA, hbl, hc⟩ := (HI.out _ HU.out).at hlt
        subst hA
        obtain ⟨_, ⟨hl, e0, _⟩, _, _⟩ := HU.out
        have HK := hide (R2.out k hlt)
        have HJ : Hid (0 ≤ l.getD k 0 ∧ l.getD k 0 < c.nodes → ∀ j, j < k + 1 → 0 ≤ l.getD j 0 ∧ l.getD j 0 < c.nodes) := fun h j hj => by
          rcases Nat.lt_succ_iff_lt_or_eq.1 hj with h5 | rfl
          · exact H.out j h5
          · exact h
        generalize l.getD k 0 = z at hc HK HJ
        clear H HI R1 R2
        by_cases h0 : z < 0
        · have HR := hide (HK.out (by omega))
          go_wp2
          go_ret
          exact ⟨by rw [HR.out]; rfl, HU.out.bel⟩
        · by_cases h1 : z < c.nodes
          · have HN := hide (HJ.out ⟨by omega, h1⟩)
            go_wp2
            go_roundw
            case rel => exact ⟨k + 1, by omega, by go_num, HU.out, HN.out⟩
            case measure => simp [intOf]; omega
          · have HR := hide (HK.out (by omega))
            go_wp2
            go_ret
            exact ⟨by rw [HR.out]; rfl, HU.out.bel⟩
      · obtain rfl : k = l.length := by omega
        have HR := hide (R1.out H.out)
        go_wp2
        go_ret
        exact ⟨by rw [HR.out]; rfl, HU.out.bel⟩
  · have hne : (f != 0) = true := by simpa using hf
    have HR := hide (R0.out hf)
    go_wp2
    go_ret
    exact ⟨by rw [HR.out]; rfl, HT.out.bel⟩

theorem lr_new (w : World) (a b c d : Int) (v : Value) (t : TypeId) : (w.alloc (.cells #[.int .i64 a, .int .i64 b, .int .i64 c, .int .i64 d, v] t)).cell? ⟨w.heap.size, 2, none⟩ = some (.int .i64 c) ∧ (w.alloc (.cells #[.int .i64 a, .int .i64 b, .int .i64 c, .int .i64 d, v] t)).cell? ⟨w.heap.size, 3, none⟩ = some (.int .i64 d) := by
  have h := heap_alloc_new w (.cells #[.int .i64 a, .int .i64 b, .int .i64 c, .int .i64 d, v] t)
  constructor
  · rw [cell_of_row _ _ _ _ _ _ h]; rfl
  · rw [cell_of_row _ _ _ _ _ _ h]; rfl

set_option maxRecDepth 100000 in
theorem room_at (num src : Int) (v : Value) (g o s : Nat) (h : o + 1 + s ≤ 64) (h1 : 1 ≤ s) (w : World) :
    Calls Tryd.prog 80 #[.agg #[.int .i64 num, .int .i64 src, .int .i64 o, .int .i64 s, v], .pointer (some ⟨g, 0, none⟩)] w fun e w' => e = .returned (.slice (some ⟨g, o + 1, none⟩) s (63 - o)) ∧ Below w.heap.size w w' := by
  have hsl : ∀ W : World, (Instr.sliceAt 38 (.pointer (some ⟨g, 0, none⟩)) (some (.int .i64 ((o : Int) + 1))) (some (.int .i64 ((o : Int) + 1 + (s : Int)))) none).run Tryd.prog W = .ok (.slice (some ⟨g, o + 1, none⟩) s (63 - o)) W := by
    intro W
    rw [run_sliceAt_array_lh W 38 ⟨g, 0, none⟩ (by kernel_rfl) .i64 .i64 _ _ (by omega) (by omega) (by rw [show Tryd.prog.arrayLen 38 = 64 by kernel_rfl]; omega)]
    rw [show ((o : Int) + 1 + (s : Int)).toNat = o + 1 + s by omega, show ((o : Int) + 1).toNat = o + 1 by omega]
    simp [slicedAt, show Tryd.prog.arrayLen 38 = 64 by kernel_rfl, show Tryd.prog.elem 38 = 5 by kernel_rfl, Tryd.sizeOf5]
    rw [if_neg (by omega), plain_add, Nat.zero_add]
  have w1 : IntKind.i64.wrap ((o : Int) + 1) = (o : Int) + 1 := by rw [IntKind.wrap_i64]; omega
  have w2 : IntKind.i64.wrap ((o : Int) + 1 + (s : Int)) = (o : Int) + 1 + (s : Int) := by rw [IntKind.wrap_i64]; omega
  obtain ⟨c2, c3⟩ := lr_new w num src o s v 134
  have HB := hide (bal w (.cells #[.int .i64 num, .int .i64 src, .int .i64 o, .int .i64 s, v] 134))
  go_enter Tryd.func80, Tryd.ntmps80
  go_wp2_with fail
  go_quiet (fail)
  go_wp2
  go_ret
  exact ⟨rfl, vdrewN HB.out _⟩
end Go.Proofs.YtdfpeilflinmhaaDoor
