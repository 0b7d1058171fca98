/-
  What the program asks of a port.
-/
import Derived.Test.YtmckidepbibpgaaGreatDoorChkA
import Derived.Deep.RegionHeld3
import Derived.Deep.LoopGhost
import Derived.Deep.DeepCutAuto
import Derived.Deep.CutBlock
import Derived.Deep.RegionWith
namespace Go.Proofs.YtmckidepbibpgaaGreatDoor
open Go.RowKit Go.Deep
set_option linter.unusedVariables false
set_option linter.unusedSimpArgs false

/-- the tables that stand from the beginning on -/
structure Glo (w : World) : Prop where
  lt : 1 < w.heap.size
  d : ∀ (k : Nat) (z : Int), ([0, 0, 0, 0, 1, 8] : List Int)[k]? = some z → w.cell? ⟨0, k, none⟩ = some (.int .i64 z)
  f : ∀ (k : Nat) (z : Int), ([0, 0, 0, 0, 0, 0, 0, 0, 0, 0, 1, 65535, 0, 0, 0, 0, 0, 0] : List Int)[k]? = some z → w.cell? ⟨1, k, none⟩ = some (.int .i64 z)
theorem Glo.below {w w' : World} {B : Nat} (h : Glo w) (hb : Below B w w') (hB : w.heap.size ≤ B) : Glo w' :=
  ⟨Nat.lt_of_lt_of_le h.lt hb.size, fun k z hz => cell_below hb hB (by have := h.lt; omega) (h.d k z hz), fun k z hz => cell_below hb hB h.lt (h.f k z hz)⟩

def Po.cells (p : Po) : Array Value := #[.int .i64 p.part, .int .i64 p.kind, .int .i64 p.dir, .int .i64 p.size, .int .i64 p.depth, .int .i64 p.fresh]
/-- a port in a block of a function's own -/
structure PoAt (W : World) (b : Nat) (p : Po) : Prop where
  lt : b < W.heap.size
  c0 : W.cell? ⟨b, 0, none⟩ = some (.int .i64 p.part)
  c1 : W.cell? ⟨b, 1, none⟩ = some (.int .i64 p.kind)
  c2 : W.cell? ⟨b, 2, none⟩ = some (.int .i64 p.dir)
  c3 : W.cell? ⟨b, 3, none⟩ = some (.int .i64 p.size)
  c4 : W.cell? ⟨b, 4, none⟩ = some (.int .i64 p.depth)
  c5 : W.cell? ⟨b, 5, none⟩ = some (.int .i64 p.fresh)
theorem PoAt.below {w w' : World} {b B : Nat} {p : Po} (h : PoAt w b p) (hb : Below B w w') (hB : w.heap.size ≤ B) : PoAt w' b p :=
  ⟨Nat.lt_of_lt_of_le h.lt hb.size, cell_below hb hB h.lt h.c0, cell_below hb hB h.lt h.c1, cell_below hb hB h.lt h.c2, cell_below hb hB h.lt h.c3, cell_below hb hB h.lt h.c4, cell_below hb hB h.lt h.c5⟩
theorem po_new (w : World) (p : Po) (t : TypeId) : PoAt (w.alloc (.cells p.cells t)) w.heap.size p := by
  have h : ∀ k v, p.cells[k]? = some v → (w.alloc (.cells p.cells t)).cell? ⟨w.heap.size, k, none⟩ = some v := fun k v hv => by
    unfold World.cell?
    rw [heap_alloc_new]
    exact hv
  exact ⟨alloc_lt w _, h 0 _ rfl, h 1 _ rfl, h 2 _ rfl, h 3 _ rfl, h 4 _ rfl, h 5 _ rfl⟩

/-- what stands while a port is looked at -/
structure PoS (w W : World) (b : Nat) (p : Po) : Prop where
  bel : Below w.heap.size w W
  p : PoAt W b p
  g : Glo W
theorem PoS.below {w W W' : World} {b : Nat} {p : Po} (h : PoS w W b p) (hb : Below W.heap.size W W') : PoS w W' b p :=
  ⟨h.bel.trans (hb.mono h.bel.size), h.p.below hb (Nat.le_refl _), h.g.below hb (Nat.le_refl _)⟩
theorem PoS.drew {w W : World} {b : Nat} {p : Po} (h : PoS w W b p) : PoS w W.drew b p := h.below (Below.refl _ _).drew

/-- may a port be, but for its partition? -/
def PortB (p : Po) : Bool := (decide (p.kind = 1) || decide (p.kind = 2)) && (decide (p.dir = 1) || decide (p.dir = 2)) && inB p.size 1 32 &&
  (if p.kind = 1 then inB p.depth 0 0 else inB p.depth 1 8) && (if p.kind = 1 ∧ p.dir = 2 then inB p.fresh 1 65535 else inB p.fresh 0 0)

set_option maxRecDepth 100000 in
set_option maxHeartbeats 8000000 in
theorem port_any (p : Po) (w : World) (hg : Glo w) :
    Calls Tryz.prog 226 #[.agg p.cells] w fun e w' => e = .returned (.bool (PortB p)) ∧ Below w.heap.size w w' := by
  have ha := (Below.refl w.heap.size w).alloc (Nat.le_refl _) (.cells p.cells 47)
  have hS : PoS w (w.alloc (.cells p.cells 47)) w.heap.size p := ⟨ha, po_new w p _, hg.below ha (Nat.le_refl _)⟩
  clear hg ha
  obtain ⟨part, kind, dir, size, depth, fresh⟩ := p
  unfold Po.cells at hS ⊢
  dsimp only at hS ⊢
  go_enter Tryz.func226, Tryz.ntmps226
  by_cases hk : kind = 1 ∨ kind = 2
  · by_cases hd : dir = 1 ∨ dir = 2
    · rcases hk with rfl | rfl <;> rcases hd with rfl | rfl <;> (obtain ⟨hb, ⟨hl, c0, c1, c2, c3, c4, c5⟩, hg⟩ := id hS) <;> dsimp only at c0 c1 c2 c3 c4 c5
      · have d0 := hg.d 2 0 rfl
        have d1 := hg.d 3 0 rfl
        have f0 := hg.f 8 0 rfl
        have f1 := hg.f 9 0 rfl
        obtain ⟨q1, h1⟩ : ∃ q, inB size 1 32 = q := ⟨_, rfl⟩
        obtain ⟨q2, h2⟩ : ∃ q, inB depth 0 0 = q := ⟨_, rfl⟩
        obtain ⟨q3, h3⟩ : ∃ q, inB fresh 0 0 = q := ⟨_, rfl⟩
        have HK : Hid (PortB ⟨part, 1, 1, size, depth, fresh⟩ = (q1 && q2 && q3)) := by
          show _ = _
          unfold PortB
          simp [h1, h2, h3]
        replace h1 := hide h1
        replace h2 := hide h2
        replace h3 := hide h3
        cases q1
        · go_upto_region 3 with fail
          replace hS := hS.drew
          refine wp_region_held_drew (S := fun w' => w'.cell? ⟨w.heap.size, 1, none⟩ = some (.int .i64 1) ∧ w'.cell? ⟨w.heap.size, 2, none⟩ = some (.int .i64 1) ∧ w'.cell? ⟨w.heap.size, 3, none⟩ = some (.int .i64 size) ∧ w'.cell? ⟨w.heap.size, 4, none⟩ = some (.int .i64 depth) ∧ w'.cell? ⟨w.heap.size, 5, none⟩ = some (.int .i64 fresh) ∧ w'.cell? ⟨0, 2, none⟩ = some (.int .i64 0) ∧ w'.cell? ⟨0, 3, none⟩ = some (.int .i64 0) ∧ w'.cell? ⟨1, 8, none⟩ = some (.int .i64 0) ∧ w'.cell? ⟨1, 9, none⟩ = some (.int .i64 0)) (by kernel_rfl) (⟨c1, c2, c3, c4, c5, d0, d1, f0, f1⟩) (fun hHeld => ?_)
          refine wpAnyH_take (i := 0) (v := ?v1_0) rfl (by kernel_rfl) (by kernel_rfl) (by kernel_rfl) (fun _ _ _ h => h) (Or.inl ⟨by kernel_rfl, ?y1_0⟩) (by assumption) ?r1_0
          case y1_0 => (intro W hSW; (try dsimp only at hSW); go_simp; (try with_reducible rfl))
          change wpAnyH _ _ _ _ _ _ _ (Act.put _ (some 21) _) _
          (try simp only [Act.put, List.setIfInBounds_toArray, List.set_cons_zero, List.set_cons_succ])
          refine wpAnyH_take (i := 1) (v := ?v1_1) rfl (by kernel_rfl) (by kernel_rfl) (by kernel_rfl) (fun _ _ _ h => h) (Or.inl ⟨by kernel_rfl, ?y1_1⟩) (by assumption) ?r1_1
          case y1_1 => (intro W hSW; (try dsimp only at hSW); go_simp; (try with_reducible rfl))
          change wpAnyH _ _ _ _ _ _ _ (Act.put _ (some 22) _) _
          (try simp only [Act.put, List.setIfInBounds_toArray, List.set_cons_zero, List.set_cons_succ])
          refine wpAnyH_take (i := 2) (v := ?v1_2) rfl (by kernel_rfl) (by kernel_rfl) (by kernel_rfl) (fun _ _ _ h => h) (Or.inl ⟨by kernel_rfl, ?y1_2⟩) (by assumption) ?r1_2
          case y1_2 => (intro W hSW; (try dsimp only at hSW); go_simp; (try with_reducible rfl))
          change wpAnyH _ _ _ _ _ _ _ (Act.put _ (some 23) _) _
          (try simp only [Act.put, List.setIfInBounds_toArray, List.set_cons_zero, List.set_cons_succ])
          refine wpAnyH_ready (rs := [3]) (by kernel_rfl) (by simp) ?_
          refine AllReadyH.cons rfl (fun K hK => ?_) AllReadyH.nil
          rw [if_pos (by rfl)]
          go_simp
          refine (within_any _ _ _ _).mono ?_
          rintro e w1 ⟨rfl, hb1⟩
          clear hb hl c0 c1 c2 c3 c4 c5 d0 d1 f0 f1 hg hHeld
          replace hS := hS.below hb1
          clear hb1
          obtain ⟨hb, ⟨hl, c0, c1, c2, c3, c4, c5⟩, hg⟩ := id hS
          dsimp only at c0 c1 c2 c3 c4 c5
          have d0 := hg.d 2 0 rfl
          have d1 := hg.d 3 0 rfl
          have f0 := hg.f 8 0 rfl
          have f1 := hg.f 9 0 rfl
          (first | rw [h1.out] | rw [h2.out] | rw [h3.out])
          go_wp2_with fail
          refine hK.out _ _ (⟨c1, c2, c3, c4, c5, d0, d1, f0, f1⟩) (fun hHeld => ?_)
          clear hK K
          (try simp only [Act.put, List.setIfInBounds_toArray, List.set_cons_zero, List.set_cons_succ])
          refine wpAnyH_take (i := 4) (v := ?v1_4) rfl (by kernel_rfl) (by kernel_rfl) (by kernel_rfl) (fun _ _ _ h => h) (Or.inl ⟨by kernel_rfl, ?y1_4⟩) (by assumption) ?r1_4
          case y1_4 => (intro W hSW; (try dsimp only at hSW); go_simp; (try with_reducible rfl))
          change wpAnyH _ _ _ _ _ _ _ (Act.put _ (some 25) _) _
          (try simp only [Act.put, List.setIfInBounds_toArray, List.set_cons_zero, List.set_cons_succ])
          refine wpAnyH_take (i := 5) (v := undef) rfl (by kernel_rfl) (by kernel_rfl) (by kernel_rfl) (fun _ _ _ h => h) (Or.inr ⟨by kernel_rfl, rfl⟩) (by assumption) ?_
          change wpAnyH _ _ _ _ _ _ _ (Act.put _ (some 26) _) _
          (try simp only [Act.put, List.setIfInBounds_toArray, List.set_cons_zero, List.set_cons_succ])
          refine wpAnyH_take (i := 6) (v := undef) rfl (by kernel_rfl) (by kernel_rfl) (by kernel_rfl) (fun _ _ _ h => h) (Or.inr ⟨by kernel_rfl, rfl⟩) (by assumption) ?_
          change wpAnyH _ _ _ _ _ _ _ (Act.put _ (some 27) _) _
          (try simp only [Act.put, List.setIfInBounds_toArray, List.set_cons_zero, List.set_cons_succ])
          refine wpAnyH_take (i := 7) (v := undef) rfl (by kernel_rfl) (by kernel_rfl) (by kernel_rfl) (fun _ _ _ h => h) (Or.inr ⟨by kernel_rfl, rfl⟩) (by assumption) ?_
          change wpAnyH _ _ _ _ _ _ _ (Act.put _ (some 28) _) _
          (try simp only [Act.put, List.setIfInBounds_toArray, List.set_cons_zero, List.set_cons_succ])
          refine wpAnyH_take (i := 8) (v := undef) rfl (by kernel_rfl) (by kernel_rfl) (by kernel_rfl) (fun _ _ _ h => h) (Or.inr ⟨by kernel_rfl, rfl⟩) (by assumption) ?_
          change wpAnyH _ _ _ _ _ _ _ (Act.put _ (some 29) _) _
          (try simp only [Act.put, List.setIfInBounds_toArray, List.set_cons_zero, List.set_cons_succ])
          refine wpAnyH_take (i := 9) (v := undef) rfl (by kernel_rfl) (by kernel_rfl) (by kernel_rfl) (fun _ _ _ h => h) (Or.inr ⟨by kernel_rfl, rfl⟩) (by assumption) ?_
          change wpAnyH _ _ _ _ _ _ _ (Act.put _ (some 30) _) _
          (try simp only [Act.put, List.setIfInBounds_toArray, List.set_cons_zero, List.set_cons_succ])
          refine wpAnyH_take (i := 10) (v := undef) rfl (by kernel_rfl) (by kernel_rfl) (by kernel_rfl) (fun _ _ _ h => h) (Or.inr ⟨by kernel_rfl, rfl⟩) (by assumption) ?_
          change wpAnyH _ _ _ _ _ _ _ (Act.put _ (some 31) _) _
          (try simp only [Act.put, List.setIfInBounds_toArray, List.set_cons_zero, List.set_cons_succ])
          refine wpAnyH_take (i := 11) (v := undef) rfl (by kernel_rfl) (by kernel_rfl) (by kernel_rfl) (fun _ _ _ h => h) (Or.inr ⟨by kernel_rfl, rfl⟩) (by assumption) ?_
          change wpAnyH _ _ _ _ _ _ _ (Act.put _ (some 32) _) _
          (try simp only [Act.put, List.setIfInBounds_toArray, List.set_cons_zero, List.set_cons_succ])
          refine wpAnyH_take (i := 12) (v := ?v1_12) rfl (by kernel_rfl) (by kernel_rfl) (by kernel_rfl) (fun _ _ _ h => h) (Or.inl ⟨by kernel_rfl, ?y1_12⟩) (by assumption) ?r1_12
          case y1_12 => (intro W hSW; (try dsimp only at hSW); go_simp; (try with_reducible rfl))
          change wpAnyH _ _ _ _ _ _ _ (Act.put _ (some 33) _) _
          (try simp only [Act.put, List.setIfInBounds_toArray, List.set_cons_zero, List.set_cons_succ])
          refine wpAnyH_take (i := 13) (v := ?v1_13) rfl (by kernel_rfl) (by kernel_rfl) (by kernel_rfl) (fun _ _ _ h => h) (Or.inl ⟨by kernel_rfl, ?y1_13⟩) (by assumption) ?r1_13
          case y1_13 => (intro W hSW; (try dsimp only at hSW); go_simp; (try with_reducible rfl))
          change wpAnyH _ _ _ _ _ _ _ (Act.put _ (some 34) _) _
          (try simp only [Act.put, List.setIfInBounds_toArray, List.set_cons_zero, List.set_cons_succ])
          refine wpAnyH_take (i := 14) (v := undef) rfl (by kernel_rfl) (by kernel_rfl) (by kernel_rfl) (fun _ _ _ h => h) (Or.inr ⟨by kernel_rfl, rfl⟩) (by assumption) ?_
          change wpAnyH _ _ _ _ _ _ _ (Act.put _ (some 35) _) _
          (try simp only [Act.put, List.setIfInBounds_toArray, List.set_cons_zero, List.set_cons_succ])
          refine wpAnyH_take (i := 15) (v := undef) rfl (by kernel_rfl) (by kernel_rfl) (by kernel_rfl) (fun _ _ _ h => h) (Or.inr ⟨by kernel_rfl, rfl⟩) (by assumption) ?_
          change wpAnyH _ _ _ _ _ _ _ (Act.put _ (some 36) _) _
          (try simp only [Act.put, List.setIfInBounds_toArray, List.set_cons_zero, List.set_cons_succ])
          refine wpAnyH_take (i := 16) (v := undef) rfl (by kernel_rfl) (by kernel_rfl) (by kernel_rfl) (fun _ _ _ h => h) (Or.inr ⟨by kernel_rfl, rfl⟩) (by assumption) ?_
          change wpAnyH _ _ _ _ _ _ _ (Act.put _ (some 37) _) _
          (try simp only [Act.put, List.setIfInBounds_toArray, List.set_cons_zero, List.set_cons_succ])
          refine wpAnyH_take (i := 17) (v := undef) rfl (by kernel_rfl) (by kernel_rfl) (by kernel_rfl) (fun _ _ _ h => h) (Or.inr ⟨by kernel_rfl, rfl⟩) (by assumption) ?_
          change wpAnyH _ _ _ _ _ _ _ (Act.put _ (some 38) _) _
          (try simp only [Act.put, List.setIfInBounds_toArray, List.set_cons_zero, List.set_cons_succ])
          refine wpAnyH_take (i := 18) (v := undef) rfl (by kernel_rfl) (by kernel_rfl) (by kernel_rfl) (fun _ _ _ h => h) (Or.inr ⟨by kernel_rfl, rfl⟩) (by assumption) ?_
          change wpAnyH _ _ _ _ _ _ _ (Act.put _ (some 39) _) _
          (try simp only [Act.put, List.setIfInBounds_toArray, List.set_cons_zero, List.set_cons_succ])
          refine wpAnyH_take (i := 19) (v := undef) rfl (by kernel_rfl) (by kernel_rfl) (by kernel_rfl) (fun _ _ _ h => h) (Or.inr ⟨by kernel_rfl, rfl⟩) (by assumption) ?_
          change wpAnyH _ _ _ _ _ _ _ (Act.put _ (some 40) _) _
          (try simp only [Act.put, List.setIfInBounds_toArray, List.set_cons_zero, List.set_cons_succ])
          refine wpAnyH_take (i := 20) (v := undef) rfl (by kernel_rfl) (by kernel_rfl) (by kernel_rfl) (fun _ _ _ h => h) (Or.inr ⟨by kernel_rfl, rfl⟩) (by assumption) ?_
          change wpAnyH _ _ _ _ _ _ _ (Act.put _ (some 41) _) _
          (try simp only [Act.put, List.setIfInBounds_toArray, List.set_cons_zero, List.set_cons_succ])
          refine wpAnyH_take (i := 21) (v := undef) rfl (by kernel_rfl) (by kernel_rfl) (by kernel_rfl) (fun _ _ _ h => h) (Or.inr ⟨by kernel_rfl, rfl⟩) (by assumption) ?_
          change wpAnyH _ _ _ _ _ _ _ (Act.put _ (some 42) _) _
          (try simp only [Act.put, List.setIfInBounds_toArray, List.set_cons_zero, List.set_cons_succ])
          refine wpAnyH_take (i := 22) (v := undef) rfl (by kernel_rfl) (by kernel_rfl) (by kernel_rfl) (fun _ _ _ h => h) (Or.inr ⟨by kernel_rfl, rfl⟩) (by assumption) ?_
          change wpAnyH _ _ _ _ _ _ _ (Act.put _ (some 43) _) _
          (try simp only [Act.put, List.setIfInBounds_toArray, List.set_cons_zero, List.set_cons_succ])
          refine wpAnyH_take (i := 23) (v := undef) rfl (by kernel_rfl) (by kernel_rfl) (by kernel_rfl) (fun _ _ _ h => h) (Or.inr ⟨by kernel_rfl, rfl⟩) (by assumption) ?_
          change wpAnyH _ _ _ _ _ _ _ (Act.put _ (some 44) _) _
          (try simp only [Act.put, List.setIfInBounds_toArray, List.set_cons_zero, List.set_cons_succ])
          refine wpAnyH_take (i := 24) (v := ?v1_24) rfl (by kernel_rfl) (by kernel_rfl) (by kernel_rfl) (fun _ _ _ h => h) (Or.inl ⟨by kernel_rfl, ?y1_24⟩) (by assumption) ?r1_24
          case y1_24 => (intro W hSW; (try dsimp only at hSW); go_simp; (try with_reducible rfl))
          change wpAnyH _ _ _ _ _ _ _ (Act.put _ (some 45) _) _
          (try simp only [Act.put, List.setIfInBounds_toArray, List.set_cons_zero, List.set_cons_succ])
          refine wpAnyH_take (i := 25) (v := ?v1_25) rfl (by kernel_rfl) (by kernel_rfl) (by kernel_rfl) (fun _ _ _ h => h) (Or.inl ⟨by kernel_rfl, ?y1_25⟩) (by assumption) ?r1_25
          case y1_25 => (intro W hSW; (try dsimp only at hSW); go_simp; (try with_reducible rfl))
          change wpAnyH _ _ _ _ _ _ _ (Act.put _ (some 2) _) _
          (try simp only [Act.put, List.setIfInBounds_toArray, List.set_cons_zero, List.set_cons_succ])
          refine wpAnyH_done (by kernel_rfl) ?_ _
          go_wp2_with fail
          go_ret
          exact ⟨by rw [HK.out]; rfl, hb⟩
        · cases q2
          · go_upto_region 3 with fail
            replace hS := hS.drew
            refine wp_region_held_drew (S := fun w' => w'.cell? ⟨w.heap.size, 1, none⟩ = some (.int .i64 1) ∧ w'.cell? ⟨w.heap.size, 2, none⟩ = some (.int .i64 1) ∧ w'.cell? ⟨w.heap.size, 3, none⟩ = some (.int .i64 size) ∧ w'.cell? ⟨w.heap.size, 4, none⟩ = some (.int .i64 depth) ∧ w'.cell? ⟨w.heap.size, 5, none⟩ = some (.int .i64 fresh) ∧ w'.cell? ⟨0, 2, none⟩ = some (.int .i64 0) ∧ w'.cell? ⟨0, 3, none⟩ = some (.int .i64 0) ∧ w'.cell? ⟨1, 8, none⟩ = some (.int .i64 0) ∧ w'.cell? ⟨1, 9, none⟩ = some (.int .i64 0)) (by kernel_rfl) (⟨c1, c2, c3, c4, c5, d0, d1, f0, f1⟩) (fun hHeld => ?_)
            refine wpAnyH_take (i := 0) (v := ?v2_0) rfl (by kernel_rfl) (by kernel_rfl) (by kernel_rfl) (fun _ _ _ h => h) (Or.inl ⟨by kernel_rfl, ?y2_0⟩) (by assumption) ?r2_0
            case y2_0 => (intro W hSW; (try dsimp only at hSW); go_simp; (try with_reducible rfl))
            change wpAnyH _ _ _ _ _ _ _ (Act.put _ (some 21) _) _
            (try simp only [Act.put, List.setIfInBounds_toArray, List.set_cons_zero, List.set_cons_succ])
            refine wpAnyH_take (i := 1) (v := ?v2_1) rfl (by kernel_rfl) (by kernel_rfl) (by kernel_rfl) (fun _ _ _ h => h) (Or.inl ⟨by kernel_rfl, ?y2_1⟩) (by assumption) ?r2_1
            case y2_1 => (intro W hSW; (try dsimp only at hSW); go_simp; (try with_reducible rfl))
            change wpAnyH _ _ _ _ _ _ _ (Act.put _ (some 22) _) _
            (try simp only [Act.put, List.setIfInBounds_toArray, List.set_cons_zero, List.set_cons_succ])
            refine wpAnyH_take (i := 2) (v := ?v2_2) rfl (by kernel_rfl) (by kernel_rfl) (by kernel_rfl) (fun _ _ _ h => h) (Or.inl ⟨by kernel_rfl, ?y2_2⟩) (by assumption) ?r2_2
            case y2_2 => (intro W hSW; (try dsimp only at hSW); go_simp; (try with_reducible rfl))
            change wpAnyH _ _ _ _ _ _ _ (Act.put _ (some 23) _) _
            (try simp only [Act.put, List.setIfInBounds_toArray, List.set_cons_zero, List.set_cons_succ])
            refine wpAnyH_ready (rs := [3]) (by kernel_rfl) (by simp) ?_
            refine AllReadyH.cons rfl (fun K hK => ?_) AllReadyH.nil
            rw [if_pos (by rfl)]
            go_simp
            refine (within_any _ _ _ _).mono ?_
            rintro e w1 ⟨rfl, hb1⟩
            clear hb hl c0 c1 c2 c3 c4 c5 d0 d1 f0 f1 hg hHeld
            replace hS := hS.below hb1
            clear hb1
            obtain ⟨hb, ⟨hl, c0, c1, c2, c3, c4, c5⟩, hg⟩ := id hS
            dsimp only at c0 c1 c2 c3 c4 c5
            have d0 := hg.d 2 0 rfl
            have d1 := hg.d 3 0 rfl
            have f0 := hg.f 8 0 rfl
            have f1 := hg.f 9 0 rfl
            (first | rw [h1.out] | rw [h2.out] | rw [h3.out])
            go_wp2_with fail
            refine hK.out _ _ (⟨c1, c2, c3, c4, c5, d0, d1, f0, f1⟩) (fun hHeld => ?_)
            clear hK K
            (try simp only [Act.put, List.setIfInBounds_toArray, List.set_cons_zero, List.set_cons_succ])
            refine wpAnyH_take (i := 4) (v := ?v2_4) rfl (by kernel_rfl) (by kernel_rfl) (by kernel_rfl) (fun _ _ _ h => h) (Or.inl ⟨by kernel_rfl, ?y2_4⟩) (by assumption) ?r2_4
            case y2_4 => (intro W hSW; (try dsimp only at hSW); go_simp; (try with_reducible rfl))
            change wpAnyH _ _ _ _ _ _ _ (Act.put _ (some 25) _) _
            (try simp only [Act.put, List.setIfInBounds_toArray, List.set_cons_zero, List.set_cons_succ])
            refine wpAnyH_take (i := 5) (v := ?v2_5) rfl (by kernel_rfl) (by kernel_rfl) (by kernel_rfl) (fun _ _ _ h => h) (Or.inl ⟨by kernel_rfl, ?y2_5⟩) (by assumption) ?r2_5
            case y2_5 => (intro W hSW; (try dsimp only at hSW); go_simp; (try with_reducible rfl))
            change wpAnyH _ _ _ _ _ _ _ (Act.put _ (some 26) _) _
            (try simp only [Act.put, List.setIfInBounds_toArray, List.set_cons_zero, List.set_cons_succ])
            refine wpAnyH_take (i := 6) (v := ?v2_6) rfl (by kernel_rfl) (by kernel_rfl) (by kernel_rfl) (fun _ _ _ h => h) (Or.inl ⟨by kernel_rfl, ?y2_6⟩) (by assumption) ?r2_6
            case y2_6 => (intro W hSW; (try dsimp only at hSW); go_simp; (try with_reducible rfl))
            change wpAnyH _ _ _ _ _ _ _ (Act.put _ (some 27) _) _
            (try simp only [Act.put, List.setIfInBounds_toArray, List.set_cons_zero, List.set_cons_succ])
            refine wpAnyH_take (i := 7) (v := ?v2_7) rfl (by kernel_rfl) (by kernel_rfl) (by kernel_rfl) (fun _ _ _ h => h) (Or.inl ⟨by kernel_rfl, ?y2_7⟩) (by assumption) ?r2_7
            case y2_7 => (intro W hSW; (try dsimp only at hSW); go_simp; (try with_reducible rfl))
            change wpAnyH _ _ _ _ _ _ _ (Act.put _ (some 28) _) _
            (try simp only [Act.put, List.setIfInBounds_toArray, List.set_cons_zero, List.set_cons_succ])
            refine wpAnyH_take (i := 8) (v := ?v2_8) rfl (by kernel_rfl) (by kernel_rfl) (by kernel_rfl) (fun _ _ _ h => h) (Or.inl ⟨by kernel_rfl, ?y2_8⟩) (by assumption) ?r2_8
            case y2_8 => (intro W hSW; (try dsimp only at hSW); go_simp; (try with_reducible rfl))
            change wpAnyH _ _ _ _ _ _ _ (Act.put _ (some 29) _) _
            (try simp only [Act.put, List.setIfInBounds_toArray, List.set_cons_zero, List.set_cons_succ])
            refine wpAnyH_take (i := 9) (v := ?v2_9) rfl (by kernel_rfl) (by kernel_rfl) (by kernel_rfl) (fun _ _ _ h => h) (Or.inl ⟨by kernel_rfl, ?y2_9⟩) (by assumption) ?r2_9
            case y2_9 => (intro W hSW; (try dsimp only at hSW); go_simp; (try with_reducible rfl))
            change wpAnyH _ _ _ _ _ _ _ (Act.put _ (some 30) _) _
            (try simp only [Act.put, List.setIfInBounds_toArray, List.set_cons_zero, List.set_cons_succ])
            refine wpAnyH_take (i := 10) (v := ?v2_10) rfl (by kernel_rfl) (by kernel_rfl) (by kernel_rfl) (fun _ _ _ h => h) (Or.inl ⟨by kernel_rfl, ?y2_10⟩) (by assumption) ?r2_10
            case y2_10 => (intro W hSW; (try dsimp only at hSW); go_simp; (try with_reducible rfl))
            change wpAnyH _ _ _ _ _ _ _ (Act.put _ (some 31) _) _
            (try simp only [Act.put, List.setIfInBounds_toArray, List.set_cons_zero, List.set_cons_succ])
            refine wpAnyH_ready (rs := [11]) (by kernel_rfl) (by simp) ?_
            refine AllReadyH.cons rfl (fun K hK => ?_) AllReadyH.nil
            rw [if_pos (by rfl)]
            go_simp
            refine (within_any _ _ _ _).mono ?_
            rintro e w1 ⟨rfl, hb1⟩
            clear hb hl c0 c1 c2 c3 c4 c5 d0 d1 f0 f1 hg hHeld
            replace hS := hS.below hb1
            clear hb1
            obtain ⟨hb, ⟨hl, c0, c1, c2, c3, c4, c5⟩, hg⟩ := id hS
            dsimp only at c0 c1 c2 c3 c4 c5
            have d0 := hg.d 2 0 rfl
            have d1 := hg.d 3 0 rfl
            have f0 := hg.f 8 0 rfl
            have f1 := hg.f 9 0 rfl
            (first | rw [h1.out] | rw [h2.out] | rw [h3.out])
            go_wp2_with fail
            refine hK.out _ _ (⟨c1, c2, c3, c4, c5, d0, d1, f0, f1⟩) (fun hHeld => ?_)
            clear hK K
            (try simp only [Act.put, List.setIfInBounds_toArray, List.set_cons_zero, List.set_cons_succ])
            refine wpAnyH_take (i := 12) (v := ?v2_12) rfl (by kernel_rfl) (by kernel_rfl) (by kernel_rfl) (fun _ _ _ h => h) (Or.inl ⟨by kernel_rfl, ?y2_12⟩) (by assumption) ?r2_12
            case y2_12 => (intro W hSW; (try dsimp only at hSW); go_simp; (try with_reducible rfl))
            change wpAnyH _ _ _ _ _ _ _ (Act.put _ (some 33) _) _
            (try simp only [Act.put, List.setIfInBounds_toArray, List.set_cons_zero, List.set_cons_succ])
            refine wpAnyH_take (i := 13) (v := ?v2_13) rfl (by kernel_rfl) (by kernel_rfl) (by kernel_rfl) (fun _ _ _ h => h) (Or.inl ⟨by kernel_rfl, ?y2_13⟩) (by assumption) ?r2_13
            case y2_13 => (intro W hSW; (try dsimp only at hSW); go_simp; (try with_reducible rfl))
            change wpAnyH _ _ _ _ _ _ _ (Act.put _ (some 34) _) _
            (try simp only [Act.put, List.setIfInBounds_toArray, List.set_cons_zero, List.set_cons_succ])
            refine wpAnyH_take (i := 14) (v := undef) rfl (by kernel_rfl) (by kernel_rfl) (by kernel_rfl) (fun _ _ _ h => h) (Or.inr ⟨by kernel_rfl, rfl⟩) (by assumption) ?_
            change wpAnyH _ _ _ _ _ _ _ (Act.put _ (some 35) _) _
            (try simp only [Act.put, List.setIfInBounds_toArray, List.set_cons_zero, List.set_cons_succ])
            refine wpAnyH_take (i := 15) (v := undef) rfl (by kernel_rfl) (by kernel_rfl) (by kernel_rfl) (fun _ _ _ h => h) (Or.inr ⟨by kernel_rfl, rfl⟩) (by assumption) ?_
            change wpAnyH _ _ _ _ _ _ _ (Act.put _ (some 36) _) _
            (try simp only [Act.put, List.setIfInBounds_toArray, List.set_cons_zero, List.set_cons_succ])
            refine wpAnyH_take (i := 16) (v := undef) rfl (by kernel_rfl) (by kernel_rfl) (by kernel_rfl) (fun _ _ _ h => h) (Or.inr ⟨by kernel_rfl, rfl⟩) (by assumption) ?_
            change wpAnyH _ _ _ _ _ _ _ (Act.put _ (some 37) _) _
            (try simp only [Act.put, List.setIfInBounds_toArray, List.set_cons_zero, List.set_cons_succ])
            refine wpAnyH_take (i := 17) (v := undef) rfl (by kernel_rfl) (by kernel_rfl) (by kernel_rfl) (fun _ _ _ h => h) (Or.inr ⟨by kernel_rfl, rfl⟩) (by assumption) ?_
            change wpAnyH _ _ _ _ _ _ _ (Act.put _ (some 38) _) _
            (try simp only [Act.put, List.setIfInBounds_toArray, List.set_cons_zero, List.set_cons_succ])
            refine wpAnyH_take (i := 18) (v := undef) rfl (by kernel_rfl) (by kernel_rfl) (by kernel_rfl) (fun _ _ _ h => h) (Or.inr ⟨by kernel_rfl, rfl⟩) (by assumption) ?_
            change wpAnyH _ _ _ _ _ _ _ (Act.put _ (some 39) _) _
            (try simp only [Act.put, List.setIfInBounds_toArray, List.set_cons_zero, List.set_cons_succ])
            refine wpAnyH_take (i := 19) (v := undef) rfl (by kernel_rfl) (by kernel_rfl) (by kernel_rfl) (fun _ _ _ h => h) (Or.inr ⟨by kernel_rfl, rfl⟩) (by assumption) ?_
            change wpAnyH _ _ _ _ _ _ _ (Act.put _ (some 40) _) _
            (try simp only [Act.put, List.setIfInBounds_toArray, List.set_cons_zero, List.set_cons_succ])
            refine wpAnyH_take (i := 20) (v := undef) rfl (by kernel_rfl) (by kernel_rfl) (by kernel_rfl) (fun _ _ _ h => h) (Or.inr ⟨by kernel_rfl, rfl⟩) (by assumption) ?_
            change wpAnyH _ _ _ _ _ _ _ (Act.put _ (some 41) _) _
            (try simp only [Act.put, List.setIfInBounds_toArray, List.set_cons_zero, List.set_cons_succ])
            refine wpAnyH_take (i := 21) (v := undef) rfl (by kernel_rfl) (by kernel_rfl) (by kernel_rfl) (fun _ _ _ h => h) (Or.inr ⟨by kernel_rfl, rfl⟩) (by assumption) ?_
            change wpAnyH _ _ _ _ _ _ _ (Act.put _ (some 42) _) _
            (try simp only [Act.put, List.setIfInBounds_toArray, List.set_cons_zero, List.set_cons_succ])
            refine wpAnyH_take (i := 22) (v := undef) rfl (by kernel_rfl) (by kernel_rfl) (by kernel_rfl) (fun _ _ _ h => h) (Or.inr ⟨by kernel_rfl, rfl⟩) (by assumption) ?_
            change wpAnyH _ _ _ _ _ _ _ (Act.put _ (some 43) _) _
            (try simp only [Act.put, List.setIfInBounds_toArray, List.set_cons_zero, List.set_cons_succ])
            refine wpAnyH_take (i := 23) (v := undef) rfl (by kernel_rfl) (by kernel_rfl) (by kernel_rfl) (fun _ _ _ h => h) (Or.inr ⟨by kernel_rfl, rfl⟩) (by assumption) ?_
            change wpAnyH _ _ _ _ _ _ _ (Act.put _ (some 44) _) _
            (try simp only [Act.put, List.setIfInBounds_toArray, List.set_cons_zero, List.set_cons_succ])
            refine wpAnyH_take (i := 24) (v := ?v2_24) rfl (by kernel_rfl) (by kernel_rfl) (by kernel_rfl) (fun _ _ _ h => h) (Or.inl ⟨by kernel_rfl, ?y2_24⟩) (by assumption) ?r2_24
            case y2_24 => (intro W hSW; (try dsimp only at hSW); go_simp; (try with_reducible rfl))
            change wpAnyH _ _ _ _ _ _ _ (Act.put _ (some 45) _) _
            (try simp only [Act.put, List.setIfInBounds_toArray, List.set_cons_zero, List.set_cons_succ])
            refine wpAnyH_take (i := 25) (v := ?v2_25) rfl (by kernel_rfl) (by kernel_rfl) (by kernel_rfl) (fun _ _ _ h => h) (Or.inl ⟨by kernel_rfl, ?y2_25⟩) (by assumption) ?r2_25
            case y2_25 => (intro W hSW; (try dsimp only at hSW); go_simp; (try with_reducible rfl))
            change wpAnyH _ _ _ _ _ _ _ (Act.put _ (some 2) _) _
            (try simp only [Act.put, List.setIfInBounds_toArray, List.set_cons_zero, List.set_cons_succ])
            refine wpAnyH_done (by kernel_rfl) ?_ _
            go_wp2_with fail
            go_ret
            exact ⟨by rw [HK.out]; rfl, hb⟩
          · go_upto_region 3 with fail
            replace hS := hS.drew
            refine wp_region_held_drew (S := fun w' => w'.cell? ⟨w.heap.size, 1, none⟩ = some (.int .i64 1) ∧ w'.cell? ⟨w.heap.size, 2, none⟩ = some (.int .i64 1) ∧ w'.cell? ⟨w.heap.size, 3, none⟩ = some (.int .i64 size) ∧ w'.cell? ⟨w.heap.size, 4, none⟩ = some (.int .i64 depth) ∧ w'.cell? ⟨w.heap.size, 5, none⟩ = some (.int .i64 fresh) ∧ w'.cell? ⟨0, 2, none⟩ = some (.int .i64 0) ∧ w'.cell? ⟨0, 3, none⟩ = some (.int .i64 0) ∧ w'.cell? ⟨1, 8, none⟩ = some (.int .i64 0) ∧ w'.cell? ⟨1, 9, none⟩ = some (.int .i64 0)) (by kernel_rfl) (⟨c1, c2, c3, c4, c5, d0, d1, f0, f1⟩) (fun hHeld => ?_)
            refine wpAnyH_take (i := 0) (v := ?v3_0) rfl (by kernel_rfl) (by kernel_rfl) (by kernel_rfl) (fun _ _ _ h => h) (Or.inl ⟨by kernel_rfl, ?y3_0⟩) (by assumption) ?r3_0
            case y3_0 => (intro W hSW; (try dsimp only at hSW); go_simp; (try with_reducible rfl))
            change wpAnyH _ _ _ _ _ _ _ (Act.put _ (some 21) _) _
            (try simp only [Act.put, List.setIfInBounds_toArray, List.set_cons_zero, List.set_cons_succ])
            refine wpAnyH_take (i := 1) (v := ?v3_1) rfl (by kernel_rfl) (by kernel_rfl) (by kernel_rfl) (fun _ _ _ h => h) (Or.inl ⟨by kernel_rfl, ?y3_1⟩) (by assumption) ?r3_1
            case y3_1 => (intro W hSW; (try dsimp only at hSW); go_simp; (try with_reducible rfl))
            change wpAnyH _ _ _ _ _ _ _ (Act.put _ (some 22) _) _
            (try simp only [Act.put, List.setIfInBounds_toArray, List.set_cons_zero, List.set_cons_succ])
            refine wpAnyH_take (i := 2) (v := ?v3_2) rfl (by kernel_rfl) (by kernel_rfl) (by kernel_rfl) (fun _ _ _ h => h) (Or.inl ⟨by kernel_rfl, ?y3_2⟩) (by assumption) ?r3_2
            case y3_2 => (intro W hSW; (try dsimp only at hSW); go_simp; (try with_reducible rfl))
            change wpAnyH _ _ _ _ _ _ _ (Act.put _ (some 23) _) _
            (try simp only [Act.put, List.setIfInBounds_toArray, List.set_cons_zero, List.set_cons_succ])
            refine wpAnyH_ready (rs := [3]) (by kernel_rfl) (by simp) ?_
            refine AllReadyH.cons rfl (fun K hK => ?_) AllReadyH.nil
            rw [if_pos (by rfl)]
            go_simp
            refine (within_any _ _ _ _).mono ?_
            rintro e w1 ⟨rfl, hb1⟩
            clear hb hl c0 c1 c2 c3 c4 c5 d0 d1 f0 f1 hg hHeld
            replace hS := hS.below hb1
            clear hb1
            obtain ⟨hb, ⟨hl, c0, c1, c2, c3, c4, c5⟩, hg⟩ := id hS
            dsimp only at c0 c1 c2 c3 c4 c5
            have d0 := hg.d 2 0 rfl
            have d1 := hg.d 3 0 rfl
            have f0 := hg.f 8 0 rfl
            have f1 := hg.f 9 0 rfl
            (first | rw [h1.out] | rw [h2.out] | rw [h3.out])
            go_wp2_with fail
            refine hK.out _ _ (⟨c1, c2, c3, c4, c5, d0, d1, f0, f1⟩) (fun hHeld => ?_)
            clear hK K
            (try simp only [Act.put, List.setIfInBounds_toArray, List.set_cons_zero, List.set_cons_succ])
            refine wpAnyH_take (i := 4) (v := ?v3_4) rfl (by kernel_rfl) (by kernel_rfl) (by kernel_rfl) (fun _ _ _ h => h) (Or.inl ⟨by kernel_rfl, ?y3_4⟩) (by assumption) ?r3_4
            case y3_4 => (intro W hSW; (try dsimp only at hSW); go_simp; (try with_reducible rfl))
            change wpAnyH _ _ _ _ _ _ _ (Act.put _ (some 25) _) _
            (try simp only [Act.put, List.setIfInBounds_toArray, List.set_cons_zero, List.set_cons_succ])
            refine wpAnyH_take (i := 5) (v := ?v3_5) rfl (by kernel_rfl) (by kernel_rfl) (by kernel_rfl) (fun _ _ _ h => h) (Or.inl ⟨by kernel_rfl, ?y3_5⟩) (by assumption) ?r3_5
            case y3_5 => (intro W hSW; (try dsimp only at hSW); go_simp; (try with_reducible rfl))
            change wpAnyH _ _ _ _ _ _ _ (Act.put _ (some 26) _) _
            (try simp only [Act.put, List.setIfInBounds_toArray, List.set_cons_zero, List.set_cons_succ])
            refine wpAnyH_take (i := 6) (v := ?v3_6) rfl (by kernel_rfl) (by kernel_rfl) (by kernel_rfl) (fun _ _ _ h => h) (Or.inl ⟨by kernel_rfl, ?y3_6⟩) (by assumption) ?r3_6
            case y3_6 => (intro W hSW; (try dsimp only at hSW); go_simp; (try with_reducible rfl))
            change wpAnyH _ _ _ _ _ _ _ (Act.put _ (some 27) _) _
            (try simp only [Act.put, List.setIfInBounds_toArray, List.set_cons_zero, List.set_cons_succ])
            refine wpAnyH_take (i := 7) (v := ?v3_7) rfl (by kernel_rfl) (by kernel_rfl) (by kernel_rfl) (fun _ _ _ h => h) (Or.inl ⟨by kernel_rfl, ?y3_7⟩) (by assumption) ?r3_7
            case y3_7 => (intro W hSW; (try dsimp only at hSW); go_simp; (try with_reducible rfl))
            change wpAnyH _ _ _ _ _ _ _ (Act.put _ (some 28) _) _
            (try simp only [Act.put, List.setIfInBounds_toArray, List.set_cons_zero, List.set_cons_succ])
            refine wpAnyH_take (i := 8) (v := ?v3_8) rfl (by kernel_rfl) (by kernel_rfl) (by kernel_rfl) (fun _ _ _ h => h) (Or.inl ⟨by kernel_rfl, ?y3_8⟩) (by assumption) ?r3_8
            case y3_8 => (intro W hSW; (try dsimp only at hSW); go_simp; (try with_reducible rfl))
            change wpAnyH _ _ _ _ _ _ _ (Act.put _ (some 29) _) _
            (try simp only [Act.put, List.setIfInBounds_toArray, List.set_cons_zero, List.set_cons_succ])
            refine wpAnyH_take (i := 9) (v := ?v3_9) rfl (by kernel_rfl) (by kernel_rfl) (by kernel_rfl) (fun _ _ _ h => h) (Or.inl ⟨by kernel_rfl, ?y3_9⟩) (by assumption) ?r3_9
            case y3_9 => (intro W hSW; (try dsimp only at hSW); go_simp; (try with_reducible rfl))
            change wpAnyH _ _ _ _ _ _ _ (Act.put _ (some 30) _) _
            (try simp only [Act.put, List.setIfInBounds_toArray, List.set_cons_zero, List.set_cons_succ])
            refine wpAnyH_take (i := 10) (v := ?v3_10) rfl (by kernel_rfl) (by kernel_rfl) (by kernel_rfl) (fun _ _ _ h => h) (Or.inl ⟨by kernel_rfl, ?y3_10⟩) (by assumption) ?r3_10
            case y3_10 => (intro W hSW; (try dsimp only at hSW); go_simp; (try with_reducible rfl))
            change wpAnyH _ _ _ _ _ _ _ (Act.put _ (some 31) _) _
            (try simp only [Act.put, List.setIfInBounds_toArray, List.set_cons_zero, List.set_cons_succ])
            refine wpAnyH_ready (rs := [11]) (by kernel_rfl) (by simp) ?_
            refine AllReadyH.cons rfl (fun K hK => ?_) AllReadyH.nil
            rw [if_pos (by rfl)]
            go_simp
            refine (within_any _ _ _ _).mono ?_
            rintro e w1 ⟨rfl, hb1⟩
            clear hb hl c0 c1 c2 c3 c4 c5 d0 d1 f0 f1 hg hHeld
            replace hS := hS.below hb1
            clear hb1
            obtain ⟨hb, ⟨hl, c0, c1, c2, c3, c4, c5⟩, hg⟩ := id hS
            dsimp only at c0 c1 c2 c3 c4 c5
            have d0 := hg.d 2 0 rfl
            have d1 := hg.d 3 0 rfl
            have f0 := hg.f 8 0 rfl
            have f1 := hg.f 9 0 rfl
            (first | rw [h1.out] | rw [h2.out] | rw [h3.out])
            go_wp2_with fail
            refine hK.out _ _ (⟨c1, c2, c3, c4, c5, d0, d1, f0, f1⟩) (fun hHeld => ?_)
            clear hK K
            (try simp only [Act.put, List.setIfInBounds_toArray, List.set_cons_zero, List.set_cons_succ])
            refine wpAnyH_take (i := 12) (v := ?v3_12) rfl (by kernel_rfl) (by kernel_rfl) (by kernel_rfl) (fun _ _ _ h => h) (Or.inl ⟨by kernel_rfl, ?y3_12⟩) (by assumption) ?r3_12
            case y3_12 => (intro W hSW; (try dsimp only at hSW); go_simp; (try with_reducible rfl))
            change wpAnyH _ _ _ _ _ _ _ (Act.put _ (some 33) _) _
            (try simp only [Act.put, List.setIfInBounds_toArray, List.set_cons_zero, List.set_cons_succ])
            refine wpAnyH_take (i := 13) (v := ?v3_13) rfl (by kernel_rfl) (by kernel_rfl) (by kernel_rfl) (fun _ _ _ h => h) (Or.inl ⟨by kernel_rfl, ?y3_13⟩) (by assumption) ?r3_13
            case y3_13 => (intro W hSW; (try dsimp only at hSW); go_simp; (try with_reducible rfl))
            change wpAnyH _ _ _ _ _ _ _ (Act.put _ (some 34) _) _
            (try simp only [Act.put, List.setIfInBounds_toArray, List.set_cons_zero, List.set_cons_succ])
            refine wpAnyH_take (i := 14) (v := ?v3_14) rfl (by kernel_rfl) (by kernel_rfl) (by kernel_rfl) (fun _ _ _ h => h) (Or.inl ⟨by kernel_rfl, ?y3_14⟩) (by assumption) ?r3_14
            case y3_14 => (intro W hSW; (try dsimp only at hSW); go_simp; (try with_reducible rfl))
            change wpAnyH _ _ _ _ _ _ _ (Act.put _ (some 35) _) _
            (try simp only [Act.put, List.setIfInBounds_toArray, List.set_cons_zero, List.set_cons_succ])
            refine wpAnyH_take (i := 15) (v := ?v3_15) rfl (by kernel_rfl) (by kernel_rfl) (by kernel_rfl) (fun _ _ _ h => h) (Or.inl ⟨by kernel_rfl, ?y3_15⟩) (by assumption) ?r3_15
            case y3_15 => (intro W hSW; (try dsimp only at hSW); go_simp; (try with_reducible rfl))
            change wpAnyH _ _ _ _ _ _ _ (Act.put _ (some 36) _) _
            (try simp only [Act.put, List.setIfInBounds_toArray, List.set_cons_zero, List.set_cons_succ])
            refine wpAnyH_take (i := 16) (v := ?v3_16) rfl (by kernel_rfl) (by kernel_rfl) (by kernel_rfl) (fun _ _ _ h => h) (Or.inl ⟨by kernel_rfl, ?y3_16⟩) (by assumption) ?r3_16
            case y3_16 => (intro W hSW; (try dsimp only at hSW); go_simp; (try with_reducible rfl))
            change wpAnyH _ _ _ _ _ _ _ (Act.put _ (some 37) _) _
            (try simp only [Act.put, List.setIfInBounds_toArray, List.set_cons_zero, List.set_cons_succ])
            refine wpAnyH_take (i := 17) (v := ?v3_17) rfl (by kernel_rfl) (by kernel_rfl) (by kernel_rfl) (fun _ _ _ h => h) (Or.inl ⟨by kernel_rfl, ?y3_17⟩) (by assumption) ?r3_17
            case y3_17 => (intro W hSW; (try dsimp only at hSW); go_simp; (try with_reducible rfl))
            change wpAnyH _ _ _ _ _ _ _ (Act.put _ (some 38) _) _
            (try simp only [Act.put, List.setIfInBounds_toArray, List.set_cons_zero, List.set_cons_succ])
            refine wpAnyH_take (i := 18) (v := ?v3_18) rfl (by kernel_rfl) (by kernel_rfl) (by kernel_rfl) (fun _ _ _ h => h) (Or.inl ⟨by kernel_rfl, ?y3_18⟩) (by assumption) ?r3_18
            case y3_18 => (intro W hSW; (try dsimp only at hSW); go_simp; (try with_reducible rfl))
            change wpAnyH _ _ _ _ _ _ _ (Act.put _ (some 39) _) _
            (try simp only [Act.put, List.setIfInBounds_toArray, List.set_cons_zero, List.set_cons_succ])
            refine wpAnyH_take (i := 19) (v := ?v3_19) rfl (by kernel_rfl) (by kernel_rfl) (by kernel_rfl) (fun _ _ _ h => h) (Or.inl ⟨by kernel_rfl, ?y3_19⟩) (by assumption) ?r3_19
            case y3_19 => (intro W hSW; (try dsimp only at hSW); go_simp; (try with_reducible rfl))
            change wpAnyH _ _ _ _ _ _ _ (Act.put _ (some 40) _) _
            (try simp only [Act.put, List.setIfInBounds_toArray, List.set_cons_zero, List.set_cons_succ])
            refine wpAnyH_take (i := 20) (v := ?v3_20) rfl (by kernel_rfl) (by kernel_rfl) (by kernel_rfl) (fun _ _ _ h => h) (Or.inl ⟨by kernel_rfl, ?y3_20⟩) (by assumption) ?r3_20
            case y3_20 => (intro W hSW; (try dsimp only at hSW); go_simp; (try with_reducible rfl))
            change wpAnyH _ _ _ _ _ _ _ (Act.put _ (some 41) _) _
            (try simp only [Act.put, List.setIfInBounds_toArray, List.set_cons_zero, List.set_cons_succ])
            refine wpAnyH_take (i := 21) (v := ?v3_21) rfl (by kernel_rfl) (by kernel_rfl) (by kernel_rfl) (fun _ _ _ h => h) (Or.inl ⟨by kernel_rfl, ?y3_21⟩) (by assumption) ?r3_21
            case y3_21 => (intro W hSW; (try dsimp only at hSW); go_simp; (try with_reducible rfl))
            change wpAnyH _ _ _ _ _ _ _ (Act.put _ (some 42) _) _
            (try simp only [Act.put, List.setIfInBounds_toArray, List.set_cons_zero, List.set_cons_succ])
            refine wpAnyH_take (i := 22) (v := ?v3_22) rfl (by kernel_rfl) (by kernel_rfl) (by kernel_rfl) (fun _ _ _ h => h) (Or.inl ⟨by kernel_rfl, ?y3_22⟩) (by assumption) ?r3_22
            case y3_22 => (intro W hSW; (try dsimp only at hSW); go_simp; (try with_reducible rfl))
            change wpAnyH _ _ _ _ _ _ _ (Act.put _ (some 43) _) _
            (try simp only [Act.put, List.setIfInBounds_toArray, List.set_cons_zero, List.set_cons_succ])
            refine wpAnyH_ready (rs := [23]) (by kernel_rfl) (by simp) ?_
            refine AllReadyH.cons rfl (fun K hK => ?_) AllReadyH.nil
            rw [if_pos (by rfl)]
            go_simp
            refine (within_any _ _ _ _).mono ?_
            rintro e w1 ⟨rfl, hb1⟩
            clear hb hl c0 c1 c2 c3 c4 c5 d0 d1 f0 f1 hg hHeld
            replace hS := hS.below hb1
            clear hb1
            obtain ⟨hb, ⟨hl, c0, c1, c2, c3, c4, c5⟩, hg⟩ := id hS
            dsimp only at c0 c1 c2 c3 c4 c5
            have d0 := hg.d 2 0 rfl
            have d1 := hg.d 3 0 rfl
            have f0 := hg.f 8 0 rfl
            have f1 := hg.f 9 0 rfl
            (first | rw [h1.out] | rw [h2.out] | rw [h3.out])
            go_wp2_with fail
            refine hK.out _ _ (⟨c1, c2, c3, c4, c5, d0, d1, f0, f1⟩) (fun hHeld => ?_)
            clear hK K
            (try simp only [Act.put, List.setIfInBounds_toArray, List.set_cons_zero, List.set_cons_succ])
            refine wpAnyH_take (i := 24) (v := ?v3_24) rfl (by kernel_rfl) (by kernel_rfl) (by kernel_rfl) (fun _ _ _ h => h) (Or.inl ⟨by kernel_rfl, ?y3_24⟩) (by assumption) ?r3_24
            case y3_24 => (intro W hSW; (try dsimp only at hSW); go_simp; (try with_reducible rfl))
            change wpAnyH _ _ _ _ _ _ _ (Act.put _ (some 45) _) _
            (try simp only [Act.put, List.setIfInBounds_toArray, List.set_cons_zero, List.set_cons_succ])
            refine wpAnyH_take (i := 25) (v := ?v3_25) rfl (by kernel_rfl) (by kernel_rfl) (by kernel_rfl) (fun _ _ _ h => h) (Or.inl ⟨by kernel_rfl, ?y3_25⟩) (by assumption) ?r3_25
            case y3_25 => (intro W hSW; (try dsimp only at hSW); go_simp; (try with_reducible rfl))
            change wpAnyH _ _ _ _ _ _ _ (Act.put _ (some 2) _) _
            (try simp only [Act.put, List.setIfInBounds_toArray, List.set_cons_zero, List.set_cons_succ])
            refine wpAnyH_done (by kernel_rfl) ?_ _
            go_wp2_with fail
            go_ret
            exact ⟨by rw [HK.out]; rfl, hb⟩
      · have d0 := hg.d 2 0 rfl
        have d1 := hg.d 3 0 rfl
        have f0 := hg.f 10 1 rfl
        have f1 := hg.f 11 65535 rfl
        obtain ⟨q1, h1⟩ : ∃ q, inB size 1 32 = q := ⟨_, rfl⟩
        obtain ⟨q2, h2⟩ : ∃ q, inB depth 0 0 = q := ⟨_, rfl⟩
        obtain ⟨q3, h3⟩ : ∃ q, inB fresh 1 65535 = q := ⟨_, rfl⟩
        have HK : Hid (PortB ⟨part, 1, 2, size, depth, fresh⟩ = (q1 && q2 && q3)) := by
          show _ = _
          unfold PortB
          simp [h1, h2, h3]
        replace h1 := hide h1
        replace h2 := hide h2
        replace h3 := hide h3
        cases q1
        · go_upto_region 3 with fail
          replace hS := hS.drew
          refine wp_region_held_drew (S := fun w' => w'.cell? ⟨w.heap.size, 1, none⟩ = some (.int .i64 1) ∧ w'.cell? ⟨w.heap.size, 2, none⟩ = some (.int .i64 2) ∧ w'.cell? ⟨w.heap.size, 3, none⟩ = some (.int .i64 size) ∧ w'.cell? ⟨w.heap.size, 4, none⟩ = some (.int .i64 depth) ∧ w'.cell? ⟨w.heap.size, 5, none⟩ = some (.int .i64 fresh) ∧ w'.cell? ⟨0, 2, none⟩ = some (.int .i64 0) ∧ w'.cell? ⟨0, 3, none⟩ = some (.int .i64 0) ∧ w'.cell? ⟨1, 10, none⟩ = some (.int .i64 1) ∧ w'.cell? ⟨1, 11, none⟩ = some (.int .i64 65535)) (by kernel_rfl) (⟨c1, c2, c3, c4, c5, d0, d1, f0, f1⟩) (fun hHeld => ?_)
          refine wpAnyH_take (i := 0) (v := ?v4_0) rfl (by kernel_rfl) (by kernel_rfl) (by kernel_rfl) (fun _ _ _ h => h) (Or.inl ⟨by kernel_rfl, ?y4_0⟩) (by assumption) ?r4_0
          case y4_0 => (intro W hSW; (try dsimp only at hSW); go_simp; (try with_reducible rfl))
          change wpAnyH _ _ _ _ _ _ _ (Act.put _ (some 21) _) _
          (try simp only [Act.put, List.setIfInBounds_toArray, List.set_cons_zero, List.set_cons_succ])
          refine wpAnyH_take (i := 1) (v := ?v4_1) rfl (by kernel_rfl) (by kernel_rfl) (by kernel_rfl) (fun _ _ _ h => h) (Or.inl ⟨by kernel_rfl, ?y4_1⟩) (by assumption) ?r4_1
          case y4_1 => (intro W hSW; (try dsimp only at hSW); go_simp; (try with_reducible rfl))
          change wpAnyH _ _ _ _ _ _ _ (Act.put _ (some 22) _) _
          (try simp only [Act.put, List.setIfInBounds_toArray, List.set_cons_zero, List.set_cons_succ])
          refine wpAnyH_take (i := 2) (v := ?v4_2) rfl (by kernel_rfl) (by kernel_rfl) (by kernel_rfl) (fun _ _ _ h => h) (Or.inl ⟨by kernel_rfl, ?y4_2⟩) (by assumption) ?r4_2
          case y4_2 => (intro W hSW; (try dsimp only at hSW); go_simp; (try with_reducible rfl))
          change wpAnyH _ _ _ _ _ _ _ (Act.put _ (some 23) _) _
          (try simp only [Act.put, List.setIfInBounds_toArray, List.set_cons_zero, List.set_cons_succ])
          refine wpAnyH_ready (rs := [3]) (by kernel_rfl) (by simp) ?_
          refine AllReadyH.cons rfl (fun K hK => ?_) AllReadyH.nil
          rw [if_pos (by rfl)]
          go_simp
          refine (within_any _ _ _ _).mono ?_
          rintro e w1 ⟨rfl, hb1⟩
          clear hb hl c0 c1 c2 c3 c4 c5 d0 d1 f0 f1 hg hHeld
          replace hS := hS.below hb1
          clear hb1
          obtain ⟨hb, ⟨hl, c0, c1, c2, c3, c4, c5⟩, hg⟩ := id hS
          dsimp only at c0 c1 c2 c3 c4 c5
          have d0 := hg.d 2 0 rfl
          have d1 := hg.d 3 0 rfl
          have f0 := hg.f 10 1 rfl
          have f1 := hg.f 11 65535 rfl
          (first | rw [h1.out] | rw [h2.out] | rw [h3.out])
          go_wp2_with fail
          refine hK.out _ _ (⟨c1, c2, c3, c4, c5, d0, d1, f0, f1⟩) (fun hHeld => ?_)
          clear hK K
          (try simp only [Act.put, List.setIfInBounds_toArray, List.set_cons_zero, List.set_cons_succ])
          refine wpAnyH_take (i := 4) (v := ?v4_4) rfl (by kernel_rfl) (by kernel_rfl) (by kernel_rfl) (fun _ _ _ h => h) (Or.inl ⟨by kernel_rfl, ?y4_4⟩) (by assumption) ?r4_4
          case y4_4 => (intro W hSW; (try dsimp only at hSW); go_simp; (try with_reducible rfl))
          change wpAnyH _ _ _ _ _ _ _ (Act.put _ (some 25) _) _
          (try simp only [Act.put, List.setIfInBounds_toArray, List.set_cons_zero, List.set_cons_succ])
          refine wpAnyH_take (i := 5) (v := undef) rfl (by kernel_rfl) (by kernel_rfl) (by kernel_rfl) (fun _ _ _ h => h) (Or.inr ⟨by kernel_rfl, rfl⟩) (by assumption) ?_
          change wpAnyH _ _ _ _ _ _ _ (Act.put _ (some 26) _) _
          (try simp only [Act.put, List.setIfInBounds_toArray, List.set_cons_zero, List.set_cons_succ])
          refine wpAnyH_take (i := 6) (v := undef) rfl (by kernel_rfl) (by kernel_rfl) (by kernel_rfl) (fun _ _ _ h => h) (Or.inr ⟨by kernel_rfl, rfl⟩) (by assumption) ?_
          change wpAnyH _ _ _ _ _ _ _ (Act.put _ (some 27) _) _
          (try simp only [Act.put, List.setIfInBounds_toArray, List.set_cons_zero, List.set_cons_succ])
          refine wpAnyH_take (i := 7) (v := undef) rfl (by kernel_rfl) (by kernel_rfl) (by kernel_rfl) (fun _ _ _ h => h) (Or.inr ⟨by kernel_rfl, rfl⟩) (by assumption) ?_
          change wpAnyH _ _ _ _ _ _ _ (Act.put _ (some 28) _) _
          (try simp only [Act.put, List.setIfInBounds_toArray, List.set_cons_zero, List.set_cons_succ])
          refine wpAnyH_take (i := 8) (v := undef) rfl (by kernel_rfl) (by kernel_rfl) (by kernel_rfl) (fun _ _ _ h => h) (Or.inr ⟨by kernel_rfl, rfl⟩) (by assumption) ?_
          change wpAnyH _ _ _ _ _ _ _ (Act.put _ (some 29) _) _
          (try simp only [Act.put, List.setIfInBounds_toArray, List.set_cons_zero, List.set_cons_succ])
          refine wpAnyH_take (i := 9) (v := undef) rfl (by kernel_rfl) (by kernel_rfl) (by kernel_rfl) (fun _ _ _ h => h) (Or.inr ⟨by kernel_rfl, rfl⟩) (by assumption) ?_
          change wpAnyH _ _ _ _ _ _ _ (Act.put _ (some 30) _) _
          (try simp only [Act.put, List.setIfInBounds_toArray, List.set_cons_zero, List.set_cons_succ])
          refine wpAnyH_take (i := 10) (v := undef) rfl (by kernel_rfl) (by kernel_rfl) (by kernel_rfl) (fun _ _ _ h => h) (Or.inr ⟨by kernel_rfl, rfl⟩) (by assumption) ?_
          change wpAnyH _ _ _ _ _ _ _ (Act.put _ (some 31) _) _
          (try simp only [Act.put, List.setIfInBounds_toArray, List.set_cons_zero, List.set_cons_succ])
          refine wpAnyH_take (i := 11) (v := undef) rfl (by kernel_rfl) (by kernel_rfl) (by kernel_rfl) (fun _ _ _ h => h) (Or.inr ⟨by kernel_rfl, rfl⟩) (by assumption) ?_
          change wpAnyH _ _ _ _ _ _ _ (Act.put _ (some 32) _) _
          (try simp only [Act.put, List.setIfInBounds_toArray, List.set_cons_zero, List.set_cons_succ])
          refine wpAnyH_take (i := 12) (v := ?v4_12) rfl (by kernel_rfl) (by kernel_rfl) (by kernel_rfl) (fun _ _ _ h => h) (Or.inl ⟨by kernel_rfl, ?y4_12⟩) (by assumption) ?r4_12
          case y4_12 => (intro W hSW; (try dsimp only at hSW); go_simp; (try with_reducible rfl))
          change wpAnyH _ _ _ _ _ _ _ (Act.put _ (some 33) _) _
          (try simp only [Act.put, List.setIfInBounds_toArray, List.set_cons_zero, List.set_cons_succ])
          refine wpAnyH_take (i := 13) (v := ?v4_13) rfl (by kernel_rfl) (by kernel_rfl) (by kernel_rfl) (fun _ _ _ h => h) (Or.inl ⟨by kernel_rfl, ?y4_13⟩) (by assumption) ?r4_13
          case y4_13 => (intro W hSW; (try dsimp only at hSW); go_simp; (try with_reducible rfl))
          change wpAnyH _ _ _ _ _ _ _ (Act.put _ (some 34) _) _
          (try simp only [Act.put, List.setIfInBounds_toArray, List.set_cons_zero, List.set_cons_succ])
          refine wpAnyH_take (i := 14) (v := undef) rfl (by kernel_rfl) (by kernel_rfl) (by kernel_rfl) (fun _ _ _ h => h) (Or.inr ⟨by kernel_rfl, rfl⟩) (by assumption) ?_
          change wpAnyH _ _ _ _ _ _ _ (Act.put _ (some 35) _) _
          (try simp only [Act.put, List.setIfInBounds_toArray, List.set_cons_zero, List.set_cons_succ])
          refine wpAnyH_take (i := 15) (v := undef) rfl (by kernel_rfl) (by kernel_rfl) (by kernel_rfl) (fun _ _ _ h => h) (Or.inr ⟨by kernel_rfl, rfl⟩) (by assumption) ?_
          change wpAnyH _ _ _ _ _ _ _ (Act.put _ (some 36) _) _
          (try simp only [Act.put, List.setIfInBounds_toArray, List.set_cons_zero, List.set_cons_succ])
          refine wpAnyH_take (i := 16) (v := undef) rfl (by kernel_rfl) (by kernel_rfl) (by kernel_rfl) (fun _ _ _ h => h) (Or.inr ⟨by kernel_rfl, rfl⟩) (by assumption) ?_
          change wpAnyH _ _ _ _ _ _ _ (Act.put _ (some 37) _) _
          (try simp only [Act.put, List.setIfInBounds_toArray, List.set_cons_zero, List.set_cons_succ])
          refine wpAnyH_take (i := 17) (v := undef) rfl (by kernel_rfl) (by kernel_rfl) (by kernel_rfl) (fun _ _ _ h => h) (Or.inr ⟨by kernel_rfl, rfl⟩) (by assumption) ?_
          change wpAnyH _ _ _ _ _ _ _ (Act.put _ (some 38) _) _
          (try simp only [Act.put, List.setIfInBounds_toArray, List.set_cons_zero, List.set_cons_succ])
          refine wpAnyH_take (i := 18) (v := undef) rfl (by kernel_rfl) (by kernel_rfl) (by kernel_rfl) (fun _ _ _ h => h) (Or.inr ⟨by kernel_rfl, rfl⟩) (by assumption) ?_
          change wpAnyH _ _ _ _ _ _ _ (Act.put _ (some 39) _) _
          (try simp only [Act.put, List.setIfInBounds_toArray, List.set_cons_zero, List.set_cons_succ])
          refine wpAnyH_take (i := 19) (v := undef) rfl (by kernel_rfl) (by kernel_rfl) (by kernel_rfl) (fun _ _ _ h => h) (Or.inr ⟨by kernel_rfl, rfl⟩) (by assumption) ?_
          change wpAnyH _ _ _ _ _ _ _ (Act.put _ (some 40) _) _
          (try simp only [Act.put, List.setIfInBounds_toArray, List.set_cons_zero, List.set_cons_succ])
          refine wpAnyH_take (i := 20) (v := undef) rfl (by kernel_rfl) (by kernel_rfl) (by kernel_rfl) (fun _ _ _ h => h) (Or.inr ⟨by kernel_rfl, rfl⟩) (by assumption) ?_
          change wpAnyH _ _ _ _ _ _ _ (Act.put _ (some 41) _) _
          (try simp only [Act.put, List.setIfInBounds_toArray, List.set_cons_zero, List.set_cons_succ])
          refine wpAnyH_take (i := 21) (v := undef) rfl (by kernel_rfl) (by kernel_rfl) (by kernel_rfl) (fun _ _ _ h => h) (Or.inr ⟨by kernel_rfl, rfl⟩) (by assumption) ?_
          change wpAnyH _ _ _ _ _ _ _ (Act.put _ (some 42) _) _
          (try simp only [Act.put, List.setIfInBounds_toArray, List.set_cons_zero, List.set_cons_succ])
          refine wpAnyH_take (i := 22) (v := undef) rfl (by kernel_rfl) (by kernel_rfl) (by kernel_rfl) (fun _ _ _ h => h) (Or.inr ⟨by kernel_rfl, rfl⟩) (by assumption) ?_
          change wpAnyH _ _ _ _ _ _ _ (Act.put _ (some 43) _) _
          (try simp only [Act.put, List.setIfInBounds_toArray, List.set_cons_zero, List.set_cons_succ])
          refine wpAnyH_take (i := 23) (v := undef) rfl (by kernel_rfl) (by kernel_rfl) (by kernel_rfl) (fun _ _ _ h => h) (Or.inr ⟨by kernel_rfl, rfl⟩) (by assumption) ?_
          change wpAnyH _ _ _ _ _ _ _ (Act.put _ (some 44) _) _
          (try simp only [Act.put, List.setIfInBounds_toArray, List.set_cons_zero, List.set_cons_succ])
          refine wpAnyH_take (i := 24) (v := ?v4_24) rfl (by kernel_rfl) (by kernel_rfl) (by kernel_rfl) (fun _ _ _ h => h) (Or.inl ⟨by kernel_rfl, ?y4_24⟩) (by assumption) ?r4_24
          case y4_24 => (intro W hSW; (try dsimp only at hSW); go_simp; (try with_reducible rfl))
          change wpAnyH _ _ _ _ _ _ _ (Act.put _ (some 45) _) _
          (try simp only [Act.put, List.setIfInBounds_toArray, List.set_cons_zero, List.set_cons_succ])
          refine wpAnyH_take (i := 25) (v := ?v4_25) rfl (by kernel_rfl) (by kernel_rfl) (by kernel_rfl) (fun _ _ _ h => h) (Or.inl ⟨by kernel_rfl, ?y4_25⟩) (by assumption) ?r4_25
          case y4_25 => (intro W hSW; (try dsimp only at hSW); go_simp; (try with_reducible rfl))
          change wpAnyH _ _ _ _ _ _ _ (Act.put _ (some 2) _) _
          (try simp only [Act.put, List.setIfInBounds_toArray, List.set_cons_zero, List.set_cons_succ])
          refine wpAnyH_done (by kernel_rfl) ?_ _
          go_wp2_with fail
          go_ret
          exact ⟨by rw [HK.out]; rfl, hb⟩
        · cases q2
          · go_upto_region 3 with fail
            replace hS := hS.drew
            refine wp_region_held_drew (S := fun w' => w'.cell? ⟨w.heap.size, 1, none⟩ = some (.int .i64 1) ∧ w'.cell? ⟨w.heap.size, 2, none⟩ = some (.int .i64 2) ∧ w'.cell? ⟨w.heap.size, 3, none⟩ = some (.int .i64 size) ∧ w'.cell? ⟨w.heap.size, 4, none⟩ = some (.int .i64 depth) ∧ w'.cell? ⟨w.heap.size, 5, none⟩ = some (.int .i64 fresh) ∧ w'.cell? ⟨0, 2, none⟩ = some (.int .i64 0) ∧ w'.cell? ⟨0, 3, none⟩ = some (.int .i64 0) ∧ w'.cell? ⟨1, 10, none⟩ = some (.int .i64 1) ∧ w'.cell? ⟨1, 11, none⟩ = some (.int .i64 65535)) (by kernel_rfl) (⟨c1, c2, c3, c4, c5, d0, d1, f0, f1⟩) (fun hHeld => ?_)
            refine wpAnyH_take (i := 0) (v := ?v5_0) rfl (by kernel_rfl) (by kernel_rfl) (by kernel_rfl) (fun _ _ _ h => h) (Or.inl ⟨by kernel_rfl, ?y5_0⟩) (by assumption) ?r5_0
            case y5_0 => (intro W hSW; (try dsimp only at hSW); go_simp; (try with_reducible rfl))
            change wpAnyH _ _ _ _ _ _ _ (Act.put _ (some 21) _) _
            (try simp only [Act.put, List.setIfInBounds_toArray, List.set_cons_zero, List.set_cons_succ])
            refine wpAnyH_take (i := 1) (v := ?v5_1) rfl (by kernel_rfl) (by kernel_rfl) (by kernel_rfl) (fun _ _ _ h => h) (Or.inl ⟨by kernel_rfl, ?y5_1⟩) (by assumption) ?r5_1
            case y5_1 => (intro W hSW; (try dsimp only at hSW); go_simp; (try with_reducible rfl))
            change wpAnyH _ _ _ _ _ _ _ (Act.put _ (some 22) _) _
            (try simp only [Act.put, List.setIfInBounds_toArray, List.set_cons_zero, List.set_cons_succ])
            refine wpAnyH_take (i := 2) (v := ?v5_2) rfl (by kernel_rfl) (by kernel_rfl) (by kernel_rfl) (fun _ _ _ h => h) (Or.inl ⟨by kernel_rfl, ?y5_2⟩) (by assumption) ?r5_2
            case y5_2 => (intro W hSW; (try dsimp only at hSW); go_simp; (try with_reducible rfl))
            change wpAnyH _ _ _ _ _ _ _ (Act.put _ (some 23) _) _
            (try simp only [Act.put, List.setIfInBounds_toArray, List.set_cons_zero, List.set_cons_succ])
            refine wpAnyH_ready (rs := [3]) (by kernel_rfl) (by simp) ?_
            refine AllReadyH.cons rfl (fun K hK => ?_) AllReadyH.nil
            rw [if_pos (by rfl)]
            go_simp
            refine (within_any _ _ _ _).mono ?_
            rintro e w1 ⟨rfl, hb1⟩
            clear hb hl c0 c1 c2 c3 c4 c5 d0 d1 f0 f1 hg hHeld
            replace hS := hS.below hb1
            clear hb1
            obtain ⟨hb, ⟨hl, c0, c1, c2, c3, c4, c5⟩, hg⟩ := id hS
            dsimp only at c0 c1 c2 c3 c4 c5
            have d0 := hg.d 2 0 rfl
            have d1 := hg.d 3 0 rfl
            have f0 := hg.f 10 1 rfl
            have f1 := hg.f 11 65535 rfl
            (first | rw [h1.out] | rw [h2.out] | rw [h3.out])
            go_wp2_with fail
            refine hK.out _ _ (⟨c1, c2, c3, c4, c5, d0, d1, f0, f1⟩) (fun hHeld => ?_)
            clear hK K
            (try simp only [Act.put, List.setIfInBounds_toArray, List.set_cons_zero, List.set_cons_succ])
            refine wpAnyH_take (i := 4) (v := ?v5_4) rfl (by kernel_rfl) (by kernel_rfl) (by kernel_rfl) (fun _ _ _ h => h) (Or.inl ⟨by kernel_rfl, ?y5_4⟩) (by assumption) ?r5_4
            case y5_4 => (intro W hSW; (try dsimp only at hSW); go_simp; (try with_reducible rfl))
            change wpAnyH _ _ _ _ _ _ _ (Act.put _ (some 25) _) _
            (try simp only [Act.put, List.setIfInBounds_toArray, List.set_cons_zero, List.set_cons_succ])
            refine wpAnyH_take (i := 5) (v := ?v5_5) rfl (by kernel_rfl) (by kernel_rfl) (by kernel_rfl) (fun _ _ _ h => h) (Or.inl ⟨by kernel_rfl, ?y5_5⟩) (by assumption) ?r5_5
            case y5_5 => (intro W hSW; (try dsimp only at hSW); go_simp; (try with_reducible rfl))
            change wpAnyH _ _ _ _ _ _ _ (Act.put _ (some 26) _) _
            (try simp only [Act.put, List.setIfInBounds_toArray, List.set_cons_zero, List.set_cons_succ])
            refine wpAnyH_take (i := 6) (v := ?v5_6) rfl (by kernel_rfl) (by kernel_rfl) (by kernel_rfl) (fun _ _ _ h => h) (Or.inl ⟨by kernel_rfl, ?y5_6⟩) (by assumption) ?r5_6
            case y5_6 => (intro W hSW; (try dsimp only at hSW); go_simp; (try with_reducible rfl))
            change wpAnyH _ _ _ _ _ _ _ (Act.put _ (some 27) _) _
            (try simp only [Act.put, List.setIfInBounds_toArray, List.set_cons_zero, List.set_cons_succ])
            refine wpAnyH_take (i := 7) (v := ?v5_7) rfl (by kernel_rfl) (by kernel_rfl) (by kernel_rfl) (fun _ _ _ h => h) (Or.inl ⟨by kernel_rfl, ?y5_7⟩) (by assumption) ?r5_7
            case y5_7 => (intro W hSW; (try dsimp only at hSW); go_simp; (try with_reducible rfl))
            change wpAnyH _ _ _ _ _ _ _ (Act.put _ (some 28) _) _
            (try simp only [Act.put, List.setIfInBounds_toArray, List.set_cons_zero, List.set_cons_succ])
            refine wpAnyH_take (i := 8) (v := ?v5_8) rfl (by kernel_rfl) (by kernel_rfl) (by kernel_rfl) (fun _ _ _ h => h) (Or.inl ⟨by kernel_rfl, ?y5_8⟩) (by assumption) ?r5_8
            case y5_8 => (intro W hSW; (try dsimp only at hSW); go_simp; (try with_reducible rfl))
            change wpAnyH _ _ _ _ _ _ _ (Act.put _ (some 29) _) _
            (try simp only [Act.put, List.setIfInBounds_toArray, List.set_cons_zero, List.set_cons_succ])
            refine wpAnyH_take (i := 9) (v := ?v5_9) rfl (by kernel_rfl) (by kernel_rfl) (by kernel_rfl) (fun _ _ _ h => h) (Or.inl ⟨by kernel_rfl, ?y5_9⟩) (by assumption) ?r5_9
            case y5_9 => (intro W hSW; (try dsimp only at hSW); go_simp; (try with_reducible rfl))
            change wpAnyH _ _ _ _ _ _ _ (Act.put _ (some 30) _) _
            (try simp only [Act.put, List.setIfInBounds_toArray, List.set_cons_zero, List.set_cons_succ])
            refine wpAnyH_take (i := 10) (v := ?v5_10) rfl (by kernel_rfl) (by kernel_rfl) (by kernel_rfl) (fun _ _ _ h => h) (Or.inl ⟨by kernel_rfl, ?y5_10⟩) (by assumption) ?r5_10
            case y5_10 => (intro W hSW; (try dsimp only at hSW); go_simp; (try with_reducible rfl))
            change wpAnyH _ _ _ _ _ _ _ (Act.put _ (some 31) _) _
            (try simp only [Act.put, List.setIfInBounds_toArray, List.set_cons_zero, List.set_cons_succ])
            refine wpAnyH_ready (rs := [11]) (by kernel_rfl) (by simp) ?_
            refine AllReadyH.cons rfl (fun K hK => ?_) AllReadyH.nil
            rw [if_pos (by rfl)]
            go_simp
            refine (within_any _ _ _ _).mono ?_
            rintro e w1 ⟨rfl, hb1⟩
            clear hb hl c0 c1 c2 c3 c4 c5 d0 d1 f0 f1 hg hHeld
            replace hS := hS.below hb1
            clear hb1
            obtain ⟨hb, ⟨hl, c0, c1, c2, c3, c4, c5⟩, hg⟩ := id hS
            dsimp only at c0 c1 c2 c3 c4 c5
            have d0 := hg.d 2 0 rfl
            have d1 := hg.d 3 0 rfl
            have f0 := hg.f 10 1 rfl
            have f1 := hg.f 11 65535 rfl
            (first | rw [h1.out] | rw [h2.out] | rw [h3.out])
            go_wp2_with fail
            refine hK.out _ _ (⟨c1, c2, c3, c4, c5, d0, d1, f0, f1⟩) (fun hHeld => ?_)
            clear hK K
            (try simp only [Act.put, List.setIfInBounds_toArray, List.set_cons_zero, List.set_cons_succ])
            refine wpAnyH_take (i := 12) (v := ?v5_12) rfl (by kernel_rfl) (by kernel_rfl) (by kernel_rfl) (fun _ _ _ h => h) (Or.inl ⟨by kernel_rfl, ?y5_12⟩) (by assumption) ?r5_12
            case y5_12 => (intro W hSW; (try dsimp only at hSW); go_simp; (try with_reducible rfl))
            change wpAnyH _ _ _ _ _ _ _ (Act.put _ (some 33) _) _
            (try simp only [Act.put, List.setIfInBounds_toArray, List.set_cons_zero, List.set_cons_succ])
            refine wpAnyH_take (i := 13) (v := ?v5_13) rfl (by kernel_rfl) (by kernel_rfl) (by kernel_rfl) (fun _ _ _ h => h) (Or.inl ⟨by kernel_rfl, ?y5_13⟩) (by assumption) ?r5_13
            case y5_13 => (intro W hSW; (try dsimp only at hSW); go_simp; (try with_reducible rfl))
            change wpAnyH _ _ _ _ _ _ _ (Act.put _ (some 34) _) _
            (try simp only [Act.put, List.setIfInBounds_toArray, List.set_cons_zero, List.set_cons_succ])
            refine wpAnyH_take (i := 14) (v := undef) rfl (by kernel_rfl) (by kernel_rfl) (by kernel_rfl) (fun _ _ _ h => h) (Or.inr ⟨by kernel_rfl, rfl⟩) (by assumption) ?_
            change wpAnyH _ _ _ _ _ _ _ (Act.put _ (some 35) _) _
            (try simp only [Act.put, List.setIfInBounds_toArray, List.set_cons_zero, List.set_cons_succ])
            refine wpAnyH_take (i := 15) (v := undef) rfl (by kernel_rfl) (by kernel_rfl) (by kernel_rfl) (fun _ _ _ h => h) (Or.inr ⟨by kernel_rfl, rfl⟩) (by assumption) ?_
            change wpAnyH _ _ _ _ _ _ _ (Act.put _ (some 36) _) _
            (try simp only [Act.put, List.setIfInBounds_toArray, List.set_cons_zero, List.set_cons_succ])
            refine wpAnyH_take (i := 16) (v := undef) rfl (by kernel_rfl) (by kernel_rfl) (by kernel_rfl) (fun _ _ _ h => h) (Or.inr ⟨by kernel_rfl, rfl⟩) (by assumption) ?_
            change wpAnyH _ _ _ _ _ _ _ (Act.put _ (some 37) _) _
            (try simp only [Act.put, List.setIfInBounds_toArray, List.set_cons_zero, List.set_cons_succ])
            refine wpAnyH_take (i := 17) (v := undef) rfl (by kernel_rfl) (by kernel_rfl) (by kernel_rfl) (fun _ _ _ h => h) (Or.inr ⟨by kernel_rfl, rfl⟩) (by assumption) ?_
            change wpAnyH _ _ _ _ _ _ _ (Act.put _ (some 38) _) _
            (try simp only [Act.put, List.setIfInBounds_toArray, List.set_cons_zero, List.set_cons_succ])
            refine wpAnyH_take (i := 18) (v := undef) rfl (by kernel_rfl) (by kernel_rfl) (by kernel_rfl) (fun _ _ _ h => h) (Or.inr ⟨by kernel_rfl, rfl⟩) (by assumption) ?_
            change wpAnyH _ _ _ _ _ _ _ (Act.put _ (some 39) _) _
            (try simp only [Act.put, List.setIfInBounds_toArray, List.set_cons_zero, List.set_cons_succ])
            refine wpAnyH_take (i := 19) (v := undef) rfl (by kernel_rfl) (by kernel_rfl) (by kernel_rfl) (fun _ _ _ h => h) (Or.inr ⟨by kernel_rfl, rfl⟩) (by assumption) ?_
            change wpAnyH _ _ _ _ _ _ _ (Act.put _ (some 40) _) _
            (try simp only [Act.put, List.setIfInBounds_toArray, List.set_cons_zero, List.set_cons_succ])
            refine wpAnyH_take (i := 20) (v := undef) rfl (by kernel_rfl) (by kernel_rfl) (by kernel_rfl) (fun _ _ _ h => h) (Or.inr ⟨by kernel_rfl, rfl⟩) (by assumption) ?_
            change wpAnyH _ _ _ _ _ _ _ (Act.put _ (some 41) _) _
            (try simp only [Act.put, List.setIfInBounds_toArray, List.set_cons_zero, List.set_cons_succ])
            refine wpAnyH_take (i := 21) (v := undef) rfl (by kernel_rfl) (by kernel_rfl) (by kernel_rfl) (fun _ _ _ h => h) (Or.inr ⟨by kernel_rfl, rfl⟩) (by assumption) ?_
            change wpAnyH _ _ _ _ _ _ _ (Act.put _ (some 42) _) _
            (try simp only [Act.put, List.setIfInBounds_toArray, List.set_cons_zero, List.set_cons_succ])
            refine wpAnyH_take (i := 22) (v := undef) rfl (by kernel_rfl) (by kernel_rfl) (by kernel_rfl) (fun _ _ _ h => h) (Or.inr ⟨by kernel_rfl, rfl⟩) (by assumption) ?_
            change wpAnyH _ _ _ _ _ _ _ (Act.put _ (some 43) _) _
            (try simp only [Act.put, List.setIfInBounds_toArray, List.set_cons_zero, List.set_cons_succ])
            refine wpAnyH_take (i := 23) (v := undef) rfl (by kernel_rfl) (by kernel_rfl) (by kernel_rfl) (fun _ _ _ h => h) (Or.inr ⟨by kernel_rfl, rfl⟩) (by assumption) ?_
            change wpAnyH _ _ _ _ _ _ _ (Act.put _ (some 44) _) _
            (try simp only [Act.put, List.setIfInBounds_toArray, List.set_cons_zero, List.set_cons_succ])
            refine wpAnyH_take (i := 24) (v := ?v5_24) rfl (by kernel_rfl) (by kernel_rfl) (by kernel_rfl) (fun _ _ _ h => h) (Or.inl ⟨by kernel_rfl, ?y5_24⟩) (by assumption) ?r5_24
            case y5_24 => (intro W hSW; (try dsimp only at hSW); go_simp; (try with_reducible rfl))
            change wpAnyH _ _ _ _ _ _ _ (Act.put _ (some 45) _) _
            (try simp only [Act.put, List.setIfInBounds_toArray, List.set_cons_zero, List.set_cons_succ])
            refine wpAnyH_take (i := 25) (v := ?v5_25) rfl (by kernel_rfl) (by kernel_rfl) (by kernel_rfl) (fun _ _ _ h => h) (Or.inl ⟨by kernel_rfl, ?y5_25⟩) (by assumption) ?r5_25
            case y5_25 => (intro W hSW; (try dsimp only at hSW); go_simp; (try with_reducible rfl))
            change wpAnyH _ _ _ _ _ _ _ (Act.put _ (some 2) _) _
            (try simp only [Act.put, List.setIfInBounds_toArray, List.set_cons_zero, List.set_cons_succ])
            refine wpAnyH_done (by kernel_rfl) ?_ _
            go_wp2_with fail
            go_ret
            exact ⟨by rw [HK.out]; rfl, hb⟩
          · go_upto_region 3 with fail
            replace hS := hS.drew
            refine wp_region_held_drew (S := fun w' => w'.cell? ⟨w.heap.size, 1, none⟩ = some (.int .i64 1) ∧ w'.cell? ⟨w.heap.size, 2, none⟩ = some (.int .i64 2) ∧ w'.cell? ⟨w.heap.size, 3, none⟩ = some (.int .i64 size) ∧ w'.cell? ⟨w.heap.size, 4, none⟩ = some (.int .i64 depth) ∧ w'.cell? ⟨w.heap.size, 5, none⟩ = some (.int .i64 fresh) ∧ w'.cell? ⟨0, 2, none⟩ = some (.int .i64 0) ∧ w'.cell? ⟨0, 3, none⟩ = some (.int .i64 0) ∧ w'.cell? ⟨1, 10, none⟩ = some (.int .i64 1) ∧ w'.cell? ⟨1, 11, none⟩ = some (.int .i64 65535)) (by kernel_rfl) (⟨c1, c2, c3, c4, c5, d0, d1, f0, f1⟩) (fun hHeld => ?_)
            refine wpAnyH_take (i := 0) (v := ?v6_0) rfl (by kernel_rfl) (by kernel_rfl) (by kernel_rfl) (fun _ _ _ h => h) (Or.inl ⟨by kernel_rfl, ?y6_0⟩) (by assumption) ?r6_0
            case y6_0 => (intro W hSW; (try dsimp only at hSW); go_simp; (try with_reducible rfl))
            change wpAnyH _ _ _ _ _ _ _ (Act.put _ (some 21) _) _
            (try simp only [Act.put, List.setIfInBounds_toArray, List.set_cons_zero, List.set_cons_succ])
            refine wpAnyH_take (i := 1) (v := ?v6_1) rfl (by kernel_rfl) (by kernel_rfl) (by kernel_rfl) (fun _ _ _ h => h) (Or.inl ⟨by kernel_rfl, ?y6_1⟩) (by assumption) ?r6_1
            case y6_1 => (intro W hSW; (try dsimp only at hSW); go_simp; (try with_reducible rfl))
            change wpAnyH _ _ _ _ _ _ _ (Act.put _ (some 22) _) _
            (try simp only [Act.put, List.setIfInBounds_toArray, List.set_cons_zero, List.set_cons_succ])
            refine wpAnyH_take (i := 2) (v := ?v6_2) rfl (by kernel_rfl) (by kernel_rfl) (by kernel_rfl) (fun _ _ _ h => h) (Or.inl ⟨by kernel_rfl, ?y6_2⟩) (by assumption) ?r6_2
            case y6_2 => (intro W hSW; (try dsimp only at hSW); go_simp; (try with_reducible rfl))
            change wpAnyH _ _ _ _ _ _ _ (Act.put _ (some 23) _) _
            (try simp only [Act.put, List.setIfInBounds_toArray, List.set_cons_zero, List.set_cons_succ])
            refine wpAnyH_ready (rs := [3]) (by kernel_rfl) (by simp) ?_
            refine AllReadyH.cons rfl (fun K hK => ?_) AllReadyH.nil
            rw [if_pos (by rfl)]
            go_simp
            refine (within_any _ _ _ _).mono ?_
            rintro e w1 ⟨rfl, hb1⟩
            clear hb hl c0 c1 c2 c3 c4 c5 d0 d1 f0 f1 hg hHeld
            replace hS := hS.below hb1
            clear hb1
            obtain ⟨hb, ⟨hl, c0, c1, c2, c3, c4, c5⟩, hg⟩ := id hS
            dsimp only at c0 c1 c2 c3 c4 c5
            have d0 := hg.d 2 0 rfl
            have d1 := hg.d 3 0 rfl
            have f0 := hg.f 10 1 rfl
            have f1 := hg.f 11 65535 rfl
            (first | rw [h1.out] | rw [h2.out] | rw [h3.out])
            go_wp2_with fail
            refine hK.out _ _ (⟨c1, c2, c3, c4, c5, d0, d1, f0, f1⟩) (fun hHeld => ?_)
            clear hK K
            (try simp only [Act.put, List.setIfInBounds_toArray, List.set_cons_zero, List.set_cons_succ])
            refine wpAnyH_take (i := 4) (v := ?v6_4) rfl (by kernel_rfl) (by kernel_rfl) (by kernel_rfl) (fun _ _ _ h => h) (Or.inl ⟨by kernel_rfl, ?y6_4⟩) (by assumption) ?r6_4
            case y6_4 => (intro W hSW; (try dsimp only at hSW); go_simp; (try with_reducible rfl))
            change wpAnyH _ _ _ _ _ _ _ (Act.put _ (some 25) _) _
            (try simp only [Act.put, List.setIfInBounds_toArray, List.set_cons_zero, List.set_cons_succ])
            refine wpAnyH_take (i := 5) (v := ?v6_5) rfl (by kernel_rfl) (by kernel_rfl) (by kernel_rfl) (fun _ _ _ h => h) (Or.inl ⟨by kernel_rfl, ?y6_5⟩) (by assumption) ?r6_5
            case y6_5 => (intro W hSW; (try dsimp only at hSW); go_simp; (try with_reducible rfl))
            change wpAnyH _ _ _ _ _ _ _ (Act.put _ (some 26) _) _
            (try simp only [Act.put, List.setIfInBounds_toArray, List.set_cons_zero, List.set_cons_succ])
            refine wpAnyH_take (i := 6) (v := ?v6_6) rfl (by kernel_rfl) (by kernel_rfl) (by kernel_rfl) (fun _ _ _ h => h) (Or.inl ⟨by kernel_rfl, ?y6_6⟩) (by assumption) ?r6_6
            case y6_6 => (intro W hSW; (try dsimp only at hSW); go_simp; (try with_reducible rfl))
            change wpAnyH _ _ _ _ _ _ _ (Act.put _ (some 27) _) _
            (try simp only [Act.put, List.setIfInBounds_toArray, List.set_cons_zero, List.set_cons_succ])
            refine wpAnyH_take (i := 7) (v := ?v6_7) rfl (by kernel_rfl) (by kernel_rfl) (by kernel_rfl) (fun _ _ _ h => h) (Or.inl ⟨by kernel_rfl, ?y6_7⟩) (by assumption) ?r6_7
            case y6_7 => (intro W hSW; (try dsimp only at hSW); go_simp; (try with_reducible rfl))
            change wpAnyH _ _ _ _ _ _ _ (Act.put _ (some 28) _) _
            (try simp only [Act.put, List.setIfInBounds_toArray, List.set_cons_zero, List.set_cons_succ])
            refine wpAnyH_take (i := 8) (v := ?v6_8) rfl (by kernel_rfl) (by kernel_rfl) (by kernel_rfl) (fun _ _ _ h => h) (Or.inl ⟨by kernel_rfl, ?y6_8⟩) (by assumption) ?r6_8
            case y6_8 => (intro W hSW; (try dsimp only at hSW); go_simp; (try with_reducible rfl))
            change wpAnyH _ _ _ _ _ _ _ (Act.put _ (some 29) _) _
            (try simp only [Act.put, List.setIfInBounds_toArray, List.set_cons_zero, List.set_cons_succ])
            refine wpAnyH_take (i := 9) (v := ?v6_9) rfl (by kernel_rfl) (by kernel_rfl) (by kernel_rfl) (fun _ _ _ h => h) (Or.inl ⟨by kernel_rfl, ?y6_9⟩) (by assumption) ?r6_9
            case y6_9 => (intro W hSW; (try dsimp only at hSW); go_simp; (try with_reducible rfl))
            change wpAnyH _ _ _ _ _ _ _ (Act.put _ (some 30) _) _
            (try simp only [Act.put, List.setIfInBounds_toArray, List.set_cons_zero, List.set_cons_succ])
            refine wpAnyH_take (i := 10) (v := ?v6_10) rfl (by kernel_rfl) (by kernel_rfl) (by kernel_rfl) (fun _ _ _ h => h) (Or.inl ⟨by kernel_rfl, ?y6_10⟩) (by assumption) ?r6_10
            case y6_10 => (intro W hSW; (try dsimp only at hSW); go_simp; (try with_reducible rfl))
            change wpAnyH _ _ _ _ _ _ _ (Act.put _ (some 31) _) _
            (try simp only [Act.put, List.setIfInBounds_toArray, List.set_cons_zero, List.set_cons_succ])
            refine wpAnyH_ready (rs := [11]) (by kernel_rfl) (by simp) ?_
            refine AllReadyH.cons rfl (fun K hK => ?_) AllReadyH.nil
            rw [if_pos (by rfl)]
            go_simp
            refine (within_any _ _ _ _).mono ?_
            rintro e w1 ⟨rfl, hb1⟩
            clear hb hl c0 c1 c2 c3 c4 c5 d0 d1 f0 f1 hg hHeld
            replace hS := hS.below hb1
            clear hb1
            obtain ⟨hb, ⟨hl, c0, c1, c2, c3, c4, c5⟩, hg⟩ := id hS
            dsimp only at c0 c1 c2 c3 c4 c5
            have d0 := hg.d 2 0 rfl
            have d1 := hg.d 3 0 rfl
            have f0 := hg.f 10 1 rfl
            have f1 := hg.f 11 65535 rfl
            (first | rw [h1.out] | rw [h2.out] | rw [h3.out])
            go_wp2_with fail
            refine hK.out _ _ (⟨c1, c2, c3, c4, c5, d0, d1, f0, f1⟩) (fun hHeld => ?_)
            clear hK K
            (try simp only [Act.put, List.setIfInBounds_toArray, List.set_cons_zero, List.set_cons_succ])
            refine wpAnyH_take (i := 12) (v := ?v6_12) rfl (by kernel_rfl) (by kernel_rfl) (by kernel_rfl) (fun _ _ _ h => h) (Or.inl ⟨by kernel_rfl, ?y6_12⟩) (by assumption) ?r6_12
            case y6_12 => (intro W hSW; (try dsimp only at hSW); go_simp; (try with_reducible rfl))
            change wpAnyH _ _ _ _ _ _ _ (Act.put _ (some 33) _) _
            (try simp only [Act.put, List.setIfInBounds_toArray, List.set_cons_zero, List.set_cons_succ])
            refine wpAnyH_take (i := 13) (v := ?v6_13) rfl (by kernel_rfl) (by kernel_rfl) (by kernel_rfl) (fun _ _ _ h => h) (Or.inl ⟨by kernel_rfl, ?y6_13⟩) (by assumption) ?r6_13
            case y6_13 => (intro W hSW; (try dsimp only at hSW); go_simp; (try with_reducible rfl))
            change wpAnyH _ _ _ _ _ _ _ (Act.put _ (some 34) _) _
            (try simp only [Act.put, List.setIfInBounds_toArray, List.set_cons_zero, List.set_cons_succ])
            refine wpAnyH_take (i := 14) (v := ?v6_14) rfl (by kernel_rfl) (by kernel_rfl) (by kernel_rfl) (fun _ _ _ h => h) (Or.inl ⟨by kernel_rfl, ?y6_14⟩) (by assumption) ?r6_14
            case y6_14 => (intro W hSW; (try dsimp only at hSW); go_simp; (try with_reducible rfl))
            change wpAnyH _ _ _ _ _ _ _ (Act.put _ (some 35) _) _
            (try simp only [Act.put, List.setIfInBounds_toArray, List.set_cons_zero, List.set_cons_succ])
            refine wpAnyH_take (i := 15) (v := ?v6_15) rfl (by kernel_rfl) (by kernel_rfl) (by kernel_rfl) (fun _ _ _ h => h) (Or.inl ⟨by kernel_rfl, ?y6_15⟩) (by assumption) ?r6_15
            case y6_15 => (intro W hSW; (try dsimp only at hSW); go_simp; (try with_reducible rfl))
            change wpAnyH _ _ _ _ _ _ _ (Act.put _ (some 36) _) _
            (try simp only [Act.put, List.setIfInBounds_toArray, List.set_cons_zero, List.set_cons_succ])
            refine wpAnyH_take (i := 16) (v := ?v6_16) rfl (by kernel_rfl) (by kernel_rfl) (by kernel_rfl) (fun _ _ _ h => h) (Or.inl ⟨by kernel_rfl, ?y6_16⟩) (by assumption) ?r6_16
            case y6_16 => (intro W hSW; (try dsimp only at hSW); go_simp; (try with_reducible rfl))
            change wpAnyH _ _ _ _ _ _ _ (Act.put _ (some 37) _) _
            (try simp only [Act.put, List.setIfInBounds_toArray, List.set_cons_zero, List.set_cons_succ])
            refine wpAnyH_take (i := 17) (v := ?v6_17) rfl (by kernel_rfl) (by kernel_rfl) (by kernel_rfl) (fun _ _ _ h => h) (Or.inl ⟨by kernel_rfl, ?y6_17⟩) (by assumption) ?r6_17
            case y6_17 => (intro W hSW; (try dsimp only at hSW); go_simp; (try with_reducible rfl))
            change wpAnyH _ _ _ _ _ _ _ (Act.put _ (some 38) _) _
            (try simp only [Act.put, List.setIfInBounds_toArray, List.set_cons_zero, List.set_cons_succ])
            refine wpAnyH_take (i := 18) (v := ?v6_18) rfl (by kernel_rfl) (by kernel_rfl) (by kernel_rfl) (fun _ _ _ h => h) (Or.inl ⟨by kernel_rfl, ?y6_18⟩) (by assumption) ?r6_18
            case y6_18 => (intro W hSW; (try dsimp only at hSW); go_simp; (try with_reducible rfl))
            change wpAnyH _ _ _ _ _ _ _ (Act.put _ (some 39) _) _
            (try simp only [Act.put, List.setIfInBounds_toArray, List.set_cons_zero, List.set_cons_succ])
            refine wpAnyH_take (i := 19) (v := ?v6_19) rfl (by kernel_rfl) (by kernel_rfl) (by kernel_rfl) (fun _ _ _ h => h) (Or.inl ⟨by kernel_rfl, ?y6_19⟩) (by assumption) ?r6_19
            case y6_19 => (intro W hSW; (try dsimp only at hSW); go_simp; (try with_reducible rfl))
            change wpAnyH _ _ _ _ _ _ _ (Act.put _ (some 40) _) _
            (try simp only [Act.put, List.setIfInBounds_toArray, List.set_cons_zero, List.set_cons_succ])
            refine wpAnyH_take (i := 20) (v := ?v6_20) rfl (by kernel_rfl) (by kernel_rfl) (by kernel_rfl) (fun _ _ _ h => h) (Or.inl ⟨by kernel_rfl, ?y6_20⟩) (by assumption) ?r6_20
            case y6_20 => (intro W hSW; (try dsimp only at hSW); go_simp; (try with_reducible rfl))
            change wpAnyH _ _ _ _ _ _ _ (Act.put _ (some 41) _) _
            (try simp only [Act.put, List.setIfInBounds_toArray, List.set_cons_zero, List.set_cons_succ])
            refine wpAnyH_take (i := 21) (v := ?v6_21) rfl (by kernel_rfl) (by kernel_rfl) (by kernel_rfl) (fun _ _ _ h => h) (Or.inl ⟨by kernel_rfl, ?y6_21⟩) (by assumption) ?r6_21
            case y6_21 => (intro W hSW; (try dsimp only at hSW); go_simp; (try with_reducible rfl))
            change wpAnyH _ _ _ _ _ _ _ (Act.put _ (some 42) _) _
            (try simp only [Act.put, List.setIfInBounds_toArray, List.set_cons_zero, List.set_cons_succ])
            refine wpAnyH_take (i := 22) (v := ?v6_22) rfl (by kernel_rfl) (by kernel_rfl) (by kernel_rfl) (fun _ _ _ h => h) (Or.inl ⟨by kernel_rfl, ?y6_22⟩) (by assumption) ?r6_22
            case y6_22 => (intro W hSW; (try dsimp only at hSW); go_simp; (try with_reducible rfl))
            change wpAnyH _ _ _ _ _ _ _ (Act.put _ (some 43) _) _
            (try simp only [Act.put, List.setIfInBounds_toArray, List.set_cons_zero, List.set_cons_succ])
            refine wpAnyH_ready (rs := [23]) (by kernel_rfl) (by simp) ?_
            refine AllReadyH.cons rfl (fun K hK => ?_) AllReadyH.nil
            rw [if_pos (by rfl)]
            go_simp
            refine (within_any _ _ _ _).mono ?_
            rintro e w1 ⟨rfl, hb1⟩
            clear hb hl c0 c1 c2 c3 c4 c5 d0 d1 f0 f1 hg hHeld
            replace hS := hS.below hb1
            clear hb1
            obtain ⟨hb, ⟨hl, c0, c1, c2, c3, c4, c5⟩, hg⟩ := id hS
            dsimp only at c0 c1 c2 c3 c4 c5
            have d0 := hg.d 2 0 rfl
            have d1 := hg.d 3 0 rfl
            have f0 := hg.f 10 1 rfl
            have f1 := hg.f 11 65535 rfl
            (first | rw [h1.out] | rw [h2.out] | rw [h3.out])
            go_wp2_with fail
            refine hK.out _ _ (⟨c1, c2, c3, c4, c5, d0, d1, f0, f1⟩) (fun hHeld => ?_)
            clear hK K
            (try simp only [Act.put, List.setIfInBounds_toArray, List.set_cons_zero, List.set_cons_succ])
            refine wpAnyH_take (i := 24) (v := ?v6_24) rfl (by kernel_rfl) (by kernel_rfl) (by kernel_rfl) (fun _ _ _ h => h) (Or.inl ⟨by kernel_rfl, ?y6_24⟩) (by assumption) ?r6_24
            case y6_24 => (intro W hSW; (try dsimp only at hSW); go_simp; (try with_reducible rfl))
            change wpAnyH _ _ _ _ _ _ _ (Act.put _ (some 45) _) _
            (try simp only [Act.put, List.setIfInBounds_toArray, List.set_cons_zero, List.set_cons_succ])
            refine wpAnyH_take (i := 25) (v := ?v6_25) rfl (by kernel_rfl) (by kernel_rfl) (by kernel_rfl) (fun _ _ _ h => h) (Or.inl ⟨by kernel_rfl, ?y6_25⟩) (by assumption) ?r6_25
            case y6_25 => (intro W hSW; (try dsimp only at hSW); go_simp; (try with_reducible rfl))
            change wpAnyH _ _ _ _ _ _ _ (Act.put _ (some 2) _) _
            (try simp only [Act.put, List.setIfInBounds_toArray, List.set_cons_zero, List.set_cons_succ])
            refine wpAnyH_done (by kernel_rfl) ?_ _
            go_wp2_with fail
            go_ret
            exact ⟨by rw [HK.out]; rfl, hb⟩
      · have d0 := hg.d 4 1 rfl
        have d1 := hg.d 5 8 rfl
        have f0 := hg.f 14 0 rfl
        have f1 := hg.f 15 0 rfl
        obtain ⟨q1, h1⟩ : ∃ q, inB size 1 32 = q := ⟨_, rfl⟩
        obtain ⟨q2, h2⟩ : ∃ q, inB depth 1 8 = q := ⟨_, rfl⟩
        obtain ⟨q3, h3⟩ : ∃ q, inB fresh 0 0 = q := ⟨_, rfl⟩
        have HK : Hid (PortB ⟨part, 2, 1, size, depth, fresh⟩ = (q1 && q2 && q3)) := by
          show _ = _
          unfold PortB
          simp [h1, h2, h3]
        replace h1 := hide h1
        replace h2 := hide h2
        replace h3 := hide h3
        cases q1
        · go_upto_region 3 with fail
          replace hS := hS.drew
          refine wp_region_held_drew (S := fun w' => w'.cell? ⟨w.heap.size, 1, none⟩ = some (.int .i64 2) ∧ w'.cell? ⟨w.heap.size, 2, none⟩ = some (.int .i64 1) ∧ w'.cell? ⟨w.heap.size, 3, none⟩ = some (.int .i64 size) ∧ w'.cell? ⟨w.heap.size, 4, none⟩ = some (.int .i64 depth) ∧ w'.cell? ⟨w.heap.size, 5, none⟩ = some (.int .i64 fresh) ∧ w'.cell? ⟨0, 4, none⟩ = some (.int .i64 1) ∧ w'.cell? ⟨0, 5, none⟩ = some (.int .i64 8) ∧ w'.cell? ⟨1, 14, none⟩ = some (.int .i64 0) ∧ w'.cell? ⟨1, 15, none⟩ = some (.int .i64 0)) (by kernel_rfl) (⟨c1, c2, c3, c4, c5, d0, d1, f0, f1⟩) (fun hHeld => ?_)
          refine wpAnyH_take (i := 0) (v := ?v7_0) rfl (by kernel_rfl) (by kernel_rfl) (by kernel_rfl) (fun _ _ _ h => h) (Or.inl ⟨by kernel_rfl, ?y7_0⟩) (by assumption) ?r7_0
          case y7_0 => (intro W hSW; (try dsimp only at hSW); go_simp; (try with_reducible rfl))
          change wpAnyH _ _ _ _ _ _ _ (Act.put _ (some 21) _) _
          (try simp only [Act.put, List.setIfInBounds_toArray, List.set_cons_zero, List.set_cons_succ])
          refine wpAnyH_take (i := 1) (v := ?v7_1) rfl (by kernel_rfl) (by kernel_rfl) (by kernel_rfl) (fun _ _ _ h => h) (Or.inl ⟨by kernel_rfl, ?y7_1⟩) (by assumption) ?r7_1
          case y7_1 => (intro W hSW; (try dsimp only at hSW); go_simp; (try with_reducible rfl))
          change wpAnyH _ _ _ _ _ _ _ (Act.put _ (some 22) _) _
          (try simp only [Act.put, List.setIfInBounds_toArray, List.set_cons_zero, List.set_cons_succ])
          refine wpAnyH_take (i := 2) (v := ?v7_2) rfl (by kernel_rfl) (by kernel_rfl) (by kernel_rfl) (fun _ _ _ h => h) (Or.inl ⟨by kernel_rfl, ?y7_2⟩) (by assumption) ?r7_2
          case y7_2 => (intro W hSW; (try dsimp only at hSW); go_simp; (try with_reducible rfl))
          change wpAnyH _ _ _ _ _ _ _ (Act.put _ (some 23) _) _
          (try simp only [Act.put, List.setIfInBounds_toArray, List.set_cons_zero, List.set_cons_succ])
          refine wpAnyH_ready (rs := [3]) (by kernel_rfl) (by simp) ?_
          refine AllReadyH.cons rfl (fun K hK => ?_) AllReadyH.nil
          rw [if_pos (by rfl)]
          go_simp
          refine (within_any _ _ _ _).mono ?_
          rintro e w1 ⟨rfl, hb1⟩
          clear hb hl c0 c1 c2 c3 c4 c5 d0 d1 f0 f1 hg hHeld
          replace hS := hS.below hb1
          clear hb1
          obtain ⟨hb, ⟨hl, c0, c1, c2, c3, c4, c5⟩, hg⟩ := id hS
          dsimp only at c0 c1 c2 c3 c4 c5
          have d0 := hg.d 4 1 rfl
          have d1 := hg.d 5 8 rfl
          have f0 := hg.f 14 0 rfl
          have f1 := hg.f 15 0 rfl
          (first | rw [h1.out] | rw [h2.out] | rw [h3.out])
          go_wp2_with fail
          refine hK.out _ _ (⟨c1, c2, c3, c4, c5, d0, d1, f0, f1⟩) (fun hHeld => ?_)
          clear hK K
          (try simp only [Act.put, List.setIfInBounds_toArray, List.set_cons_zero, List.set_cons_succ])
          refine wpAnyH_take (i := 4) (v := ?v7_4) rfl (by kernel_rfl) (by kernel_rfl) (by kernel_rfl) (fun _ _ _ h => h) (Or.inl ⟨by kernel_rfl, ?y7_4⟩) (by assumption) ?r7_4
          case y7_4 => (intro W hSW; (try dsimp only at hSW); go_simp; (try with_reducible rfl))
          change wpAnyH _ _ _ _ _ _ _ (Act.put _ (some 25) _) _
          (try simp only [Act.put, List.setIfInBounds_toArray, List.set_cons_zero, List.set_cons_succ])
          refine wpAnyH_take (i := 5) (v := undef) rfl (by kernel_rfl) (by kernel_rfl) (by kernel_rfl) (fun _ _ _ h => h) (Or.inr ⟨by kernel_rfl, rfl⟩) (by assumption) ?_
          change wpAnyH _ _ _ _ _ _ _ (Act.put _ (some 26) _) _
          (try simp only [Act.put, List.setIfInBounds_toArray, List.set_cons_zero, List.set_cons_succ])
          refine wpAnyH_take (i := 6) (v := undef) rfl (by kernel_rfl) (by kernel_rfl) (by kernel_rfl) (fun _ _ _ h => h) (Or.inr ⟨by kernel_rfl, rfl⟩) (by assumption) ?_
          change wpAnyH _ _ _ _ _ _ _ (Act.put _ (some 27) _) _
          (try simp only [Act.put, List.setIfInBounds_toArray, List.set_cons_zero, List.set_cons_succ])
          refine wpAnyH_take (i := 7) (v := undef) rfl (by kernel_rfl) (by kernel_rfl) (by kernel_rfl) (fun _ _ _ h => h) (Or.inr ⟨by kernel_rfl, rfl⟩) (by assumption) ?_
          change wpAnyH _ _ _ _ _ _ _ (Act.put _ (some 28) _) _
          (try simp only [Act.put, List.setIfInBounds_toArray, List.set_cons_zero, List.set_cons_succ])
          refine wpAnyH_take (i := 8) (v := undef) rfl (by kernel_rfl) (by kernel_rfl) (by kernel_rfl) (fun _ _ _ h => h) (Or.inr ⟨by kernel_rfl, rfl⟩) (by assumption) ?_
          change wpAnyH _ _ _ _ _ _ _ (Act.put _ (some 29) _) _
          (try simp only [Act.put, List.setIfInBounds_toArray, List.set_cons_zero, List.set_cons_succ])
          refine wpAnyH_take (i := 9) (v := undef) rfl (by kernel_rfl) (by kernel_rfl) (by kernel_rfl) (fun _ _ _ h => h) (Or.inr ⟨by kernel_rfl, rfl⟩) (by assumption) ?_
          change wpAnyH _ _ _ _ _ _ _ (Act.put _ (some 30) _) _
          (try simp only [Act.put, List.setIfInBounds_toArray, List.set_cons_zero, List.set_cons_succ])
          refine wpAnyH_take (i := 10) (v := undef) rfl (by kernel_rfl) (by kernel_rfl) (by kernel_rfl) (fun _ _ _ h => h) (Or.inr ⟨by kernel_rfl, rfl⟩) (by assumption) ?_
          change wpAnyH _ _ _ _ _ _ _ (Act.put _ (some 31) _) _
          (try simp only [Act.put, List.setIfInBounds_toArray, List.set_cons_zero, List.set_cons_succ])
          refine wpAnyH_take (i := 11) (v := undef) rfl (by kernel_rfl) (by kernel_rfl) (by kernel_rfl) (fun _ _ _ h => h) (Or.inr ⟨by kernel_rfl, rfl⟩) (by assumption) ?_
          change wpAnyH _ _ _ _ _ _ _ (Act.put _ (some 32) _) _
          (try simp only [Act.put, List.setIfInBounds_toArray, List.set_cons_zero, List.set_cons_succ])
          refine wpAnyH_take (i := 12) (v := ?v7_12) rfl (by kernel_rfl) (by kernel_rfl) (by kernel_rfl) (fun _ _ _ h => h) (Or.inl ⟨by kernel_rfl, ?y7_12⟩) (by assumption) ?r7_12
          case y7_12 => (intro W hSW; (try dsimp only at hSW); go_simp; (try with_reducible rfl))
          change wpAnyH _ _ _ _ _ _ _ (Act.put _ (some 33) _) _
          (try simp only [Act.put, List.setIfInBounds_toArray, List.set_cons_zero, List.set_cons_succ])
          refine wpAnyH_take (i := 13) (v := ?v7_13) rfl (by kernel_rfl) (by kernel_rfl) (by kernel_rfl) (fun _ _ _ h => h) (Or.inl ⟨by kernel_rfl, ?y7_13⟩) (by assumption) ?r7_13
          case y7_13 => (intro W hSW; (try dsimp only at hSW); go_simp; (try with_reducible rfl))
          change wpAnyH _ _ _ _ _ _ _ (Act.put _ (some 34) _) _
          (try simp only [Act.put, List.setIfInBounds_toArray, List.set_cons_zero, List.set_cons_succ])
          refine wpAnyH_take (i := 14) (v := undef) rfl (by kernel_rfl) (by kernel_rfl) (by kernel_rfl) (fun _ _ _ h => h) (Or.inr ⟨by kernel_rfl, rfl⟩) (by assumption) ?_
          change wpAnyH _ _ _ _ _ _ _ (Act.put _ (some 35) _) _
          (try simp only [Act.put, List.setIfInBounds_toArray, List.set_cons_zero, List.set_cons_succ])
          refine wpAnyH_take (i := 15) (v := undef) rfl (by kernel_rfl) (by kernel_rfl) (by kernel_rfl) (fun _ _ _ h => h) (Or.inr ⟨by kernel_rfl, rfl⟩) (by assumption) ?_
          change wpAnyH _ _ _ _ _ _ _ (Act.put _ (some 36) _) _
          (try simp only [Act.put, List.setIfInBounds_toArray, List.set_cons_zero, List.set_cons_succ])
          refine wpAnyH_take (i := 16) (v := undef) rfl (by kernel_rfl) (by kernel_rfl) (by kernel_rfl) (fun _ _ _ h => h) (Or.inr ⟨by kernel_rfl, rfl⟩) (by assumption) ?_
          change wpAnyH _ _ _ _ _ _ _ (Act.put _ (some 37) _) _
          (try simp only [Act.put, List.setIfInBounds_toArray, List.set_cons_zero, List.set_cons_succ])
          refine wpAnyH_take (i := 17) (v := undef) rfl (by kernel_rfl) (by kernel_rfl) (by kernel_rfl) (fun _ _ _ h => h) (Or.inr ⟨by kernel_rfl, rfl⟩) (by assumption) ?_
          change wpAnyH _ _ _ _ _ _ _ (Act.put _ (some 38) _) _
          (try simp only [Act.put, List.setIfInBounds_toArray, List.set_cons_zero, List.set_cons_succ])
          refine wpAnyH_take (i := 18) (v := undef) rfl (by kernel_rfl) (by kernel_rfl) (by kernel_rfl) (fun _ _ _ h => h) (Or.inr ⟨by kernel_rfl, rfl⟩) (by assumption) ?_
          change wpAnyH _ _ _ _ _ _ _ (Act.put _ (some 39) _) _
          (try simp only [Act.put, List.setIfInBounds_toArray, List.set_cons_zero, List.set_cons_succ])
          refine wpAnyH_take (i := 19) (v := undef) rfl (by kernel_rfl) (by kernel_rfl) (by kernel_rfl) (fun _ _ _ h => h) (Or.inr ⟨by kernel_rfl, rfl⟩) (by assumption) ?_
          change wpAnyH _ _ _ _ _ _ _ (Act.put _ (some 40) _) _
          (try simp only [Act.put, List.setIfInBounds_toArray, List.set_cons_zero, List.set_cons_succ])
          refine wpAnyH_take (i := 20) (v := undef) rfl (by kernel_rfl) (by kernel_rfl) (by kernel_rfl) (fun _ _ _ h => h) (Or.inr ⟨by kernel_rfl, rfl⟩) (by assumption) ?_
          change wpAnyH _ _ _ _ _ _ _ (Act.put _ (some 41) _) _
          (try simp only [Act.put, List.setIfInBounds_toArray, List.set_cons_zero, List.set_cons_succ])
          refine wpAnyH_take (i := 21) (v := undef) rfl (by kernel_rfl) (by kernel_rfl) (by kernel_rfl) (fun _ _ _ h => h) (Or.inr ⟨by kernel_rfl, rfl⟩) (by assumption) ?_
          change wpAnyH _ _ _ _ _ _ _ (Act.put _ (some 42) _) _
          (try simp only [Act.put, List.setIfInBounds_toArray, List.set_cons_zero, List.set_cons_succ])
          refine wpAnyH_take (i := 22) (v := undef) rfl (by kernel_rfl) (by kernel_rfl) (by kernel_rfl) (fun _ _ _ h => h) (Or.inr ⟨by kernel_rfl, rfl⟩) (by assumption) ?_
          change wpAnyH _ _ _ _ _ _ _ (Act.put _ (some 43) _) _
          (try simp only [Act.put, List.setIfInBounds_toArray, List.set_cons_zero, List.set_cons_succ])
          refine wpAnyH_take (i := 23) (v := undef) rfl (by kernel_rfl) (by kernel_rfl) (by kernel_rfl) (fun _ _ _ h => h) (Or.inr ⟨by kernel_rfl, rfl⟩) (by assumption) ?_
          change wpAnyH _ _ _ _ _ _ _ (Act.put _ (some 44) _) _
          (try simp only [Act.put, List.setIfInBounds_toArray, List.set_cons_zero, List.set_cons_succ])
          refine wpAnyH_take (i := 24) (v := ?v7_24) rfl (by kernel_rfl) (by kernel_rfl) (by kernel_rfl) (fun _ _ _ h => h) (Or.inl ⟨by kernel_rfl, ?y7_24⟩) (by assumption) ?r7_24
          case y7_24 => (intro W hSW; (try dsimp only at hSW); go_simp; (try with_reducible rfl))
          change wpAnyH _ _ _ _ _ _ _ (Act.put _ (some 45) _) _
          (try simp only [Act.put, List.setIfInBounds_toArray, List.set_cons_zero, List.set_cons_succ])
          refine wpAnyH_take (i := 25) (v := ?v7_25) rfl (by kernel_rfl) (by kernel_rfl) (by kernel_rfl) (fun _ _ _ h => h) (Or.inl ⟨by kernel_rfl, ?y7_25⟩) (by assumption) ?r7_25
          case y7_25 => (intro W hSW; (try dsimp only at hSW); go_simp; (try with_reducible rfl))
          change wpAnyH _ _ _ _ _ _ _ (Act.put _ (some 2) _) _
          (try simp only [Act.put, List.setIfInBounds_toArray, List.set_cons_zero, List.set_cons_succ])
          refine wpAnyH_done (by kernel_rfl) ?_ _
          go_wp2_with fail
          go_ret
          exact ⟨by rw [HK.out]; rfl, hb⟩
        · cases q2
          · go_upto_region 3 with fail
            replace hS := hS.drew
            refine wp_region_held_drew (S := fun w' => w'.cell? ⟨w.heap.size, 1, none⟩ = some (.int .i64 2) ∧ w'.cell? ⟨w.heap.size, 2, none⟩ = some (.int .i64 1) ∧ w'.cell? ⟨w.heap.size, 3, none⟩ = some (.int .i64 size) ∧ w'.cell? ⟨w.heap.size, 4, none⟩ = some (.int .i64 depth) ∧ w'.cell? ⟨w.heap.size, 5, none⟩ = some (.int .i64 fresh) ∧ w'.cell? ⟨0, 4, none⟩ = some (.int .i64 1) ∧ w'.cell? ⟨0, 5, none⟩ = some (.int .i64 8) ∧ w'.cell? ⟨1, 14, none⟩ = some (.int .i64 0) ∧ w'.cell? ⟨1, 15, none⟩ = some (.int .i64 0)) (by kernel_rfl) (⟨c1, c2, c3, c4, c5, d0, d1, f0, f1⟩) (fun hHeld => ?_)
            refine wpAnyH_take (i := 0) (v := ?v8_0) rfl (by kernel_rfl) (by kernel_rfl) (by kernel_rfl) (fun _ _ _ h => h) (Or.inl ⟨by kernel_rfl, ?y8_0⟩) (by assumption) ?r8_0
            case y8_0 => (intro W hSW; (try dsimp only at hSW); go_simp; (try with_reducible rfl))
            change wpAnyH _ _ _ _ _ _ _ (Act.put _ (some 21) _) _
            (try simp only [Act.put, List.setIfInBounds_toArray, List.set_cons_zero, List.set_cons_succ])
            refine wpAnyH_take (i := 1) (v := ?v8_1) rfl (by kernel_rfl) (by kernel_rfl) (by kernel_rfl) (fun _ _ _ h => h) (Or.inl ⟨by kernel_rfl, ?y8_1⟩) (by assumption) ?r8_1
            case y8_1 => (intro W hSW; (try dsimp only at hSW); go_simp; (try with_reducible rfl))
            change wpAnyH _ _ _ _ _ _ _ (Act.put _ (some 22) _) _
            (try simp only [Act.put, List.setIfInBounds_toArray, List.set_cons_zero, List.set_cons_succ])
            refine wpAnyH_take (i := 2) (v := ?v8_2) rfl (by kernel_rfl) (by kernel_rfl) (by kernel_rfl) (fun _ _ _ h => h) (Or.inl ⟨by kernel_rfl, ?y8_2⟩) (by assumption) ?r8_2
            case y8_2 => (intro W hSW; (try dsimp only at hSW); go_simp; (try with_reducible rfl))
            change wpAnyH _ _ _ _ _ _ _ (Act.put _ (some 23) _) _
            (try simp only [Act.put, List.setIfInBounds_toArray, List.set_cons_zero, List.set_cons_succ])
            refine wpAnyH_ready (rs := [3]) (by kernel_rfl) (by simp) ?_
            refine AllReadyH.cons rfl (fun K hK => ?_) AllReadyH.nil
            rw [if_pos (by rfl)]
            go_simp
            refine (within_any _ _ _ _).mono ?_
            rintro e w1 ⟨rfl, hb1⟩
            clear hb hl c0 c1 c2 c3 c4 c5 d0 d1 f0 f1 hg hHeld
            replace hS := hS.below hb1
            clear hb1
            obtain ⟨hb, ⟨hl, c0, c1, c2, c3, c4, c5⟩, hg⟩ := id hS
            dsimp only at c0 c1 c2 c3 c4 c5
            have d0 := hg.d 4 1 rfl
            have d1 := hg.d 5 8 rfl
            have f0 := hg.f 14 0 rfl
            have f1 := hg.f 15 0 rfl
            (first | rw [h1.out] | rw [h2.out] | rw [h3.out])
            go_wp2_with fail
            refine hK.out _ _ (⟨c1, c2, c3, c4, c5, d0, d1, f0, f1⟩) (fun hHeld => ?_)
            clear hK K
            (try simp only [Act.put, List.setIfInBounds_toArray, List.set_cons_zero, List.set_cons_succ])
            refine wpAnyH_take (i := 4) (v := ?v8_4) rfl (by kernel_rfl) (by kernel_rfl) (by kernel_rfl) (fun _ _ _ h => h) (Or.inl ⟨by kernel_rfl, ?y8_4⟩) (by assumption) ?r8_4
            case y8_4 => (intro W hSW; (try dsimp only at hSW); go_simp; (try with_reducible rfl))
            change wpAnyH _ _ _ _ _ _ _ (Act.put _ (some 25) _) _
            (try simp only [Act.put, List.setIfInBounds_toArray, List.set_cons_zero, List.set_cons_succ])
            refine wpAnyH_take (i := 5) (v := ?v8_5) rfl (by kernel_rfl) (by kernel_rfl) (by kernel_rfl) (fun _ _ _ h => h) (Or.inl ⟨by kernel_rfl, ?y8_5⟩) (by assumption) ?r8_5
            case y8_5 => (intro W hSW; (try dsimp only at hSW); go_simp; (try with_reducible rfl))
            change wpAnyH _ _ _ _ _ _ _ (Act.put _ (some 26) _) _
            (try simp only [Act.put, List.setIfInBounds_toArray, List.set_cons_zero, List.set_cons_succ])
            refine wpAnyH_take (i := 6) (v := ?v8_6) rfl (by kernel_rfl) (by kernel_rfl) (by kernel_rfl) (fun _ _ _ h => h) (Or.inl ⟨by kernel_rfl, ?y8_6⟩) (by assumption) ?r8_6
            case y8_6 => (intro W hSW; (try dsimp only at hSW); go_simp; (try with_reducible rfl))
            change wpAnyH _ _ _ _ _ _ _ (Act.put _ (some 27) _) _
            (try simp only [Act.put, List.setIfInBounds_toArray, List.set_cons_zero, List.set_cons_succ])
            refine wpAnyH_take (i := 7) (v := ?v8_7) rfl (by kernel_rfl) (by kernel_rfl) (by kernel_rfl) (fun _ _ _ h => h) (Or.inl ⟨by kernel_rfl, ?y8_7⟩) (by assumption) ?r8_7
            case y8_7 => (intro W hSW; (try dsimp only at hSW); go_simp; (try with_reducible rfl))
            change wpAnyH _ _ _ _ _ _ _ (Act.put _ (some 28) _) _
            (try simp only [Act.put, List.setIfInBounds_toArray, List.set_cons_zero, List.set_cons_succ])
            refine wpAnyH_take (i := 8) (v := ?v8_8) rfl (by kernel_rfl) (by kernel_rfl) (by kernel_rfl) (fun _ _ _ h => h) (Or.inl ⟨by kernel_rfl, ?y8_8⟩) (by assumption) ?r8_8
            case y8_8 => (intro W hSW; (try dsimp only at hSW); go_simp; (try with_reducible rfl))
            change wpAnyH _ _ _ _ _ _ _ (Act.put _ (some 29) _) _
            (try simp only [Act.put, List.setIfInBounds_toArray, List.set_cons_zero, List.set_cons_succ])
            refine wpAnyH_take (i := 9) (v := ?v8_9) rfl (by kernel_rfl) (by kernel_rfl) (by kernel_rfl) (fun _ _ _ h => h) (Or.inl ⟨by kernel_rfl, ?y8_9⟩) (by assumption) ?r8_9
            case y8_9 => (intro W hSW; (try dsimp only at hSW); go_simp; (try with_reducible rfl))
            change wpAnyH _ _ _ _ _ _ _ (Act.put _ (some 30) _) _
            (try simp only [Act.put, List.setIfInBounds_toArray, List.set_cons_zero, List.set_cons_succ])
            refine wpAnyH_take (i := 10) (v := ?v8_10) rfl (by kernel_rfl) (by kernel_rfl) (by kernel_rfl) (fun _ _ _ h => h) (Or.inl ⟨by kernel_rfl, ?y8_10⟩) (by assumption) ?r8_10
            case y8_10 => (intro W hSW; (try dsimp only at hSW); go_simp; (try with_reducible rfl))
            change wpAnyH _ _ _ _ _ _ _ (Act.put _ (some 31) _) _
            (try simp only [Act.put, List.setIfInBounds_toArray, List.set_cons_zero, List.set_cons_succ])
            refine wpAnyH_ready (rs := [11]) (by kernel_rfl) (by simp) ?_
            refine AllReadyH.cons rfl (fun K hK => ?_) AllReadyH.nil
            rw [if_pos (by rfl)]
            go_simp
            refine (within_any _ _ _ _).mono ?_
            rintro e w1 ⟨rfl, hb1⟩
            clear hb hl c0 c1 c2 c3 c4 c5 d0 d1 f0 f1 hg hHeld
            replace hS := hS.below hb1
            clear hb1
            obtain ⟨hb, ⟨hl, c0, c1, c2, c3, c4, c5⟩, hg⟩ := id hS
            dsimp only at c0 c1 c2 c3 c4 c5
            have d0 := hg.d 4 1 rfl
            have d1 := hg.d 5 8 rfl
            have f0 := hg.f 14 0 rfl
            have f1 := hg.f 15 0 rfl
            (first | rw [h1.out] | rw [h2.out] | rw [h3.out])
            go_wp2_with fail
            refine hK.out _ _ (⟨c1, c2, c3, c4, c5, d0, d1, f0, f1⟩) (fun hHeld => ?_)
            clear hK K
            (try simp only [Act.put, List.setIfInBounds_toArray, List.set_cons_zero, List.set_cons_succ])
            refine wpAnyH_take (i := 12) (v := ?v8_12) rfl (by kernel_rfl) (by kernel_rfl) (by kernel_rfl) (fun _ _ _ h => h) (Or.inl ⟨by kernel_rfl, ?y8_12⟩) (by assumption) ?r8_12
            case y8_12 => (intro W hSW; (try dsimp only at hSW); go_simp; (try with_reducible rfl))
            change wpAnyH _ _ _ _ _ _ _ (Act.put _ (some 33) _) _
            (try simp only [Act.put, List.setIfInBounds_toArray, List.set_cons_zero, List.set_cons_succ])
            refine wpAnyH_take (i := 13) (v := ?v8_13) rfl (by kernel_rfl) (by kernel_rfl) (by kernel_rfl) (fun _ _ _ h => h) (Or.inl ⟨by kernel_rfl, ?y8_13⟩) (by assumption) ?r8_13
            case y8_13 => (intro W hSW; (try dsimp only at hSW); go_simp; (try with_reducible rfl))
            change wpAnyH _ _ _ _ _ _ _ (Act.put _ (some 34) _) _
            (try simp only [Act.put, List.setIfInBounds_toArray, List.set_cons_zero, List.set_cons_succ])
            refine wpAnyH_take (i := 14) (v := undef) rfl (by kernel_rfl) (by kernel_rfl) (by kernel_rfl) (fun _ _ _ h => h) (Or.inr ⟨by kernel_rfl, rfl⟩) (by assumption) ?_
            change wpAnyH _ _ _ _ _ _ _ (Act.put _ (some 35) _) _
            (try simp only [Act.put, List.setIfInBounds_toArray, List.set_cons_zero, List.set_cons_succ])
            refine wpAnyH_take (i := 15) (v := undef) rfl (by kernel_rfl) (by kernel_rfl) (by kernel_rfl) (fun _ _ _ h => h) (Or.inr ⟨by kernel_rfl, rfl⟩) (by assumption) ?_
            change wpAnyH _ _ _ _ _ _ _ (Act.put _ (some 36) _) _
            (try simp only [Act.put, List.setIfInBounds_toArray, List.set_cons_zero, List.set_cons_succ])
            refine wpAnyH_take (i := 16) (v := undef) rfl (by kernel_rfl) (by kernel_rfl) (by kernel_rfl) (fun _ _ _ h => h) (Or.inr ⟨by kernel_rfl, rfl⟩) (by assumption) ?_
            change wpAnyH _ _ _ _ _ _ _ (Act.put _ (some 37) _) _
            (try simp only [Act.put, List.setIfInBounds_toArray, List.set_cons_zero, List.set_cons_succ])
            refine wpAnyH_take (i := 17) (v := undef) rfl (by kernel_rfl) (by kernel_rfl) (by kernel_rfl) (fun _ _ _ h => h) (Or.inr ⟨by kernel_rfl, rfl⟩) (by assumption) ?_
            change wpAnyH _ _ _ _ _ _ _ (Act.put _ (some 38) _) _
            (try simp only [Act.put, List.setIfInBounds_toArray, List.set_cons_zero, List.set_cons_succ])
            refine wpAnyH_take (i := 18) (v := undef) rfl (by kernel_rfl) (by kernel_rfl) (by kernel_rfl) (fun _ _ _ h => h) (Or.inr ⟨by kernel_rfl, rfl⟩) (by assumption) ?_
            change wpAnyH _ _ _ _ _ _ _ (Act.put _ (some 39) _) _
            (try simp only [Act.put, List.setIfInBounds_toArray, List.set_cons_zero, List.set_cons_succ])
            refine wpAnyH_take (i := 19) (v := undef) rfl (by kernel_rfl) (by kernel_rfl) (by kernel_rfl) (fun _ _ _ h => h) (Or.inr ⟨by kernel_rfl, rfl⟩) (by assumption) ?_
            change wpAnyH _ _ _ _ _ _ _ (Act.put _ (some 40) _) _
            (try simp only [Act.put, List.setIfInBounds_toArray, List.set_cons_zero, List.set_cons_succ])
            refine wpAnyH_take (i := 20) (v := undef) rfl (by kernel_rfl) (by kernel_rfl) (by kernel_rfl) (fun _ _ _ h => h) (Or.inr ⟨by kernel_rfl, rfl⟩) (by assumption) ?_
            change wpAnyH _ _ _ _ _ _ _ (Act.put _ (some 41) _) _
            (try simp only [Act.put, List.setIfInBounds_toArray, List.set_cons_zero, List.set_cons_succ])
            refine wpAnyH_take (i := 21) (v := undef) rfl (by kernel_rfl) (by kernel_rfl) (by kernel_rfl) (fun _ _ _ h => h) (Or.inr ⟨by kernel_rfl, rfl⟩) (by assumption) ?_
            change wpAnyH _ _ _ _ _ _ _ (Act.put _ (some 42) _) _
            (try simp only [Act.put, List.setIfInBounds_toArray, List.set_cons_zero, List.set_cons_succ])
            refine wpAnyH_take (i := 22) (v := undef) rfl (by kernel_rfl) (by kernel_rfl) (by kernel_rfl) (fun _ _ _ h => h) (Or.inr ⟨by kernel_rfl, rfl⟩) (by assumption) ?_
            change wpAnyH _ _ _ _ _ _ _ (Act.put _ (some 43) _) _
            (try simp only [Act.put, List.setIfInBounds_toArray, List.set_cons_zero, List.set_cons_succ])
            refine wpAnyH_take (i := 23) (v := undef) rfl (by kernel_rfl) (by kernel_rfl) (by kernel_rfl) (fun _ _ _ h => h) (Or.inr ⟨by kernel_rfl, rfl⟩) (by assumption) ?_
            change wpAnyH _ _ _ _ _ _ _ (Act.put _ (some 44) _) _
            (try simp only [Act.put, List.setIfInBounds_toArray, List.set_cons_zero, List.set_cons_succ])
            refine wpAnyH_take (i := 24) (v := ?v8_24) rfl (by kernel_rfl) (by kernel_rfl) (by kernel_rfl) (fun _ _ _ h => h) (Or.inl ⟨by kernel_rfl, ?y8_24⟩) (by assumption) ?r8_24
            case y8_24 => (intro W hSW; (try dsimp only at hSW); go_simp; (try with_reducible rfl))
            change wpAnyH _ _ _ _ _ _ _ (Act.put _ (some 45) _) _
            (try simp only [Act.put, List.setIfInBounds_toArray, List.set_cons_zero, List.set_cons_succ])
            refine wpAnyH_take (i := 25) (v := ?v8_25) rfl (by kernel_rfl) (by kernel_rfl) (by kernel_rfl) (fun _ _ _ h => h) (Or.inl ⟨by kernel_rfl, ?y8_25⟩) (by assumption) ?r8_25
            case y8_25 => (intro W hSW; (try dsimp only at hSW); go_simp; (try with_reducible rfl))
            change wpAnyH _ _ _ _ _ _ _ (Act.put _ (some 2) _) _
            (try simp only [Act.put, List.setIfInBounds_toArray, List.set_cons_zero, List.set_cons_succ])
            refine wpAnyH_done (by kernel_rfl) ?_ _
            go_wp2_with fail
            go_ret
            exact ⟨by rw [HK.out]; rfl, hb⟩
          · go_upto_region 3 with fail
            replace hS := hS.drew
            refine wp_region_held_drew (S := fun w' => w'.cell? ⟨w.heap.size, 1, none⟩ = some (.int .i64 2) ∧ w'.cell? ⟨w.heap.size, 2, none⟩ = some (.int .i64 1) ∧ w'.cell? ⟨w.heap.size, 3, none⟩ = some (.int .i64 size) ∧ w'.cell? ⟨w.heap.size, 4, none⟩ = some (.int .i64 depth) ∧ w'.cell? ⟨w.heap.size, 5, none⟩ = some (.int .i64 fresh) ∧ w'.cell? ⟨0, 4, none⟩ = some (.int .i64 1) ∧ w'.cell? ⟨0, 5, none⟩ = some (.int .i64 8) ∧ w'.cell? ⟨1, 14, none⟩ = some (.int .i64 0) ∧ w'.cell? ⟨1, 15, none⟩ = some (.int .i64 0)) (by kernel_rfl) (⟨c1, c2, c3, c4, c5, d0, d1, f0, f1⟩) (fun hHeld => ?_)
            refine wpAnyH_take (i := 0) (v := ?v9_0) rfl (by kernel_rfl) (by kernel_rfl) (by kernel_rfl) (fun _ _ _ h => h) (Or.inl ⟨by kernel_rfl, ?y9_0⟩) (by assumption) ?r9_0
            case y9_0 => (intro W hSW; (try dsimp only at hSW); go_simp; (try with_reducible rfl))
            change wpAnyH _ _ _ _ _ _ _ (Act.put _ (some 21) _) _
            (try simp only [Act.put, List.setIfInBounds_toArray, List.set_cons_zero, List.set_cons_succ])
            refine wpAnyH_take (i := 1) (v := ?v9_1) rfl (by kernel_rfl) (by kernel_rfl) (by kernel_rfl) (fun _ _ _ h => h) (Or.inl ⟨by kernel_rfl, ?y9_1⟩) (by assumption) ?r9_1
            case y9_1 => (intro W hSW; (try dsimp only at hSW); go_simp; (try with_reducible rfl))
            change wpAnyH _ _ _ _ _ _ _ (Act.put _ (some 22) _) _
            (try simp only [Act.put, List.setIfInBounds_toArray, List.set_cons_zero, List.set_cons_succ])
            refine wpAnyH_take (i := 2) (v := ?v9_2) rfl (by kernel_rfl) (by kernel_rfl) (by kernel_rfl) (fun _ _ _ h => h) (Or.inl ⟨by kernel_rfl, ?y9_2⟩) (by assumption) ?r9_2
            case y9_2 => (intro W hSW; (try dsimp only at hSW); go_simp; (try with_reducible rfl))
            change wpAnyH _ _ _ _ _ _ _ (Act.put _ (some 23) _) _
            (try simp only [Act.put, List.setIfInBounds_toArray, List.set_cons_zero, List.set_cons_succ])
            refine wpAnyH_ready (rs := [3]) (by kernel_rfl) (by simp) ?_
            refine AllReadyH.cons rfl (fun K hK => ?_) AllReadyH.nil
            rw [if_pos (by rfl)]
            go_simp
            refine (within_any _ _ _ _).mono ?_
            rintro e w1 ⟨rfl, hb1⟩
            clear hb hl c0 c1 c2 c3 c4 c5 d0 d1 f0 f1 hg hHeld
            replace hS := hS.below hb1
            clear hb1
            obtain ⟨hb, ⟨hl, c0, c1, c2, c3, c4, c5⟩, hg⟩ := id hS
            dsimp only at c0 c1 c2 c3 c4 c5
            have d0 := hg.d 4 1 rfl
            have d1 := hg.d 5 8 rfl
            have f0 := hg.f 14 0 rfl
            have f1 := hg.f 15 0 rfl
            (first | rw [h1.out] | rw [h2.out] | rw [h3.out])
            go_wp2_with fail
            refine hK.out _ _ (⟨c1, c2, c3, c4, c5, d0, d1, f0, f1⟩) (fun hHeld => ?_)
            clear hK K
            (try simp only [Act.put, List.setIfInBounds_toArray, List.set_cons_zero, List.set_cons_succ])
            refine wpAnyH_take (i := 4) (v := ?v9_4) rfl (by kernel_rfl) (by kernel_rfl) (by kernel_rfl) (fun _ _ _ h => h) (Or.inl ⟨by kernel_rfl, ?y9_4⟩) (by assumption) ?r9_4
            case y9_4 => (intro W hSW; (try dsimp only at hSW); go_simp; (try with_reducible rfl))
            change wpAnyH _ _ _ _ _ _ _ (Act.put _ (some 25) _) _
            (try simp only [Act.put, List.setIfInBounds_toArray, List.set_cons_zero, List.set_cons_succ])
            refine wpAnyH_take (i := 5) (v := ?v9_5) rfl (by kernel_rfl) (by kernel_rfl) (by kernel_rfl) (fun _ _ _ h => h) (Or.inl ⟨by kernel_rfl, ?y9_5⟩) (by assumption) ?r9_5
            case y9_5 => (intro W hSW; (try dsimp only at hSW); go_simp; (try with_reducible rfl))
            change wpAnyH _ _ _ _ _ _ _ (Act.put _ (some 26) _) _
            (try simp only [Act.put, List.setIfInBounds_toArray, List.set_cons_zero, List.set_cons_succ])
            refine wpAnyH_take (i := 6) (v := ?v9_6) rfl (by kernel_rfl) (by kernel_rfl) (by kernel_rfl) (fun _ _ _ h => h) (Or.inl ⟨by kernel_rfl, ?y9_6⟩) (by assumption) ?r9_6
            case y9_6 => (intro W hSW; (try dsimp only at hSW); go_simp; (try with_reducible rfl))
            change wpAnyH _ _ _ _ _ _ _ (Act.put _ (some 27) _) _
            (try simp only [Act.put, List.setIfInBounds_toArray, List.set_cons_zero, List.set_cons_succ])
            refine wpAnyH_take (i := 7) (v := ?v9_7) rfl (by kernel_rfl) (by kernel_rfl) (by kernel_rfl) (fun _ _ _ h => h) (Or.inl ⟨by kernel_rfl, ?y9_7⟩) (by assumption) ?r9_7
            case y9_7 => (intro W hSW; (try dsimp only at hSW); go_simp; (try with_reducible rfl))
            change wpAnyH _ _ _ _ _ _ _ (Act.put _ (some 28) _) _
            (try simp only [Act.put, List.setIfInBounds_toArray, List.set_cons_zero, List.set_cons_succ])
            refine wpAnyH_take (i := 8) (v := ?v9_8) rfl (by kernel_rfl) (by kernel_rfl) (by kernel_rfl) (fun _ _ _ h => h) (Or.inl ⟨by kernel_rfl, ?y9_8⟩) (by assumption) ?r9_8
            case y9_8 => (intro W hSW; (try dsimp only at hSW); go_simp; (try with_reducible rfl))
            change wpAnyH _ _ _ _ _ _ _ (Act.put _ (some 29) _) _
            (try simp only [Act.put, List.setIfInBounds_toArray, List.set_cons_zero, List.set_cons_succ])
            refine wpAnyH_take (i := 9) (v := ?v9_9) rfl (by kernel_rfl) (by kernel_rfl) (by kernel_rfl) (fun _ _ _ h => h) (Or.inl ⟨by kernel_rfl, ?y9_9⟩) (by assumption) ?r9_9
            case y9_9 => (intro W hSW; (try dsimp only at hSW); go_simp; (try with_reducible rfl))
            change wpAnyH _ _ _ _ _ _ _ (Act.put _ (some 30) _) _
            (try simp only [Act.put, List.setIfInBounds_toArray, List.set_cons_zero, List.set_cons_succ])
            refine wpAnyH_take (i := 10) (v := ?v9_10) rfl (by kernel_rfl) (by kernel_rfl) (by kernel_rfl) (fun _ _ _ h => h) (Or.inl ⟨by kernel_rfl, ?y9_10⟩) (by assumption) ?r9_10
            case y9_10 => (intro W hSW; (try dsimp only at hSW); go_simp; (try with_reducible rfl))
            change wpAnyH _ _ _ _ _ _ _ (Act.put _ (some 31) _) _
            (try simp only [Act.put, List.setIfInBounds_toArray, List.set_cons_zero, List.set_cons_succ])
            refine wpAnyH_ready (rs := [11]) (by kernel_rfl) (by simp) ?_
            refine AllReadyH.cons rfl (fun K hK => ?_) AllReadyH.nil
            rw [if_pos (by rfl)]
            go_simp
            refine (within_any _ _ _ _).mono ?_
            rintro e w1 ⟨rfl, hb1⟩
            clear hb hl c0 c1 c2 c3 c4 c5 d0 d1 f0 f1 hg hHeld
            replace hS := hS.below hb1
            clear hb1
            obtain ⟨hb, ⟨hl, c0, c1, c2, c3, c4, c5⟩, hg⟩ := id hS
            dsimp only at c0 c1 c2 c3 c4 c5
            have d0 := hg.d 4 1 rfl
            have d1 := hg.d 5 8 rfl
            have f0 := hg.f 14 0 rfl
            have f1 := hg.f 15 0 rfl
            (first | rw [h1.out] | rw [h2.out] | rw [h3.out])
            go_wp2_with fail
            refine hK.out _ _ (⟨c1, c2, c3, c4, c5, d0, d1, f0, f1⟩) (fun hHeld => ?_)
            clear hK K
            (try simp only [Act.put, List.setIfInBounds_toArray, List.set_cons_zero, List.set_cons_succ])
            refine wpAnyH_take (i := 12) (v := ?v9_12) rfl (by kernel_rfl) (by kernel_rfl) (by kernel_rfl) (fun _ _ _ h => h) (Or.inl ⟨by kernel_rfl, ?y9_12⟩) (by assumption) ?r9_12
            case y9_12 => (intro W hSW; (try dsimp only at hSW); go_simp; (try with_reducible rfl))
            change wpAnyH _ _ _ _ _ _ _ (Act.put _ (some 33) _) _
            (try simp only [Act.put, List.setIfInBounds_toArray, List.set_cons_zero, List.set_cons_succ])
            refine wpAnyH_take (i := 13) (v := ?v9_13) rfl (by kernel_rfl) (by kernel_rfl) (by kernel_rfl) (fun _ _ _ h => h) (Or.inl ⟨by kernel_rfl, ?y9_13⟩) (by assumption) ?r9_13
            case y9_13 => (intro W hSW; (try dsimp only at hSW); go_simp; (try with_reducible rfl))
            change wpAnyH _ _ _ _ _ _ _ (Act.put _ (some 34) _) _
            (try simp only [Act.put, List.setIfInBounds_toArray, List.set_cons_zero, List.set_cons_succ])
            refine wpAnyH_take (i := 14) (v := ?v9_14) rfl (by kernel_rfl) (by kernel_rfl) (by kernel_rfl) (fun _ _ _ h => h) (Or.inl ⟨by kernel_rfl, ?y9_14⟩) (by assumption) ?r9_14
            case y9_14 => (intro W hSW; (try dsimp only at hSW); go_simp; (try with_reducible rfl))
            change wpAnyH _ _ _ _ _ _ _ (Act.put _ (some 35) _) _
            (try simp only [Act.put, List.setIfInBounds_toArray, List.set_cons_zero, List.set_cons_succ])
            refine wpAnyH_take (i := 15) (v := ?v9_15) rfl (by kernel_rfl) (by kernel_rfl) (by kernel_rfl) (fun _ _ _ h => h) (Or.inl ⟨by kernel_rfl, ?y9_15⟩) (by assumption) ?r9_15
            case y9_15 => (intro W hSW; (try dsimp only at hSW); go_simp; (try with_reducible rfl))
            change wpAnyH _ _ _ _ _ _ _ (Act.put _ (some 36) _) _
            (try simp only [Act.put, List.setIfInBounds_toArray, List.set_cons_zero, List.set_cons_succ])
            refine wpAnyH_take (i := 16) (v := ?v9_16) rfl (by kernel_rfl) (by kernel_rfl) (by kernel_rfl) (fun _ _ _ h => h) (Or.inl ⟨by kernel_rfl, ?y9_16⟩) (by assumption) ?r9_16
            case y9_16 => (intro W hSW; (try dsimp only at hSW); go_simp; (try with_reducible rfl))
            change wpAnyH _ _ _ _ _ _ _ (Act.put _ (some 37) _) _
            (try simp only [Act.put, List.setIfInBounds_toArray, List.set_cons_zero, List.set_cons_succ])
            refine wpAnyH_take (i := 17) (v := ?v9_17) rfl (by kernel_rfl) (by kernel_rfl) (by kernel_rfl) (fun _ _ _ h => h) (Or.inl ⟨by kernel_rfl, ?y9_17⟩) (by assumption) ?r9_17
            case y9_17 => (intro W hSW; (try dsimp only at hSW); go_simp; (try with_reducible rfl))
            change wpAnyH _ _ _ _ _ _ _ (Act.put _ (some 38) _) _
            (try simp only [Act.put, List.setIfInBounds_toArray, List.set_cons_zero, List.set_cons_succ])
            refine wpAnyH_take (i := 18) (v := ?v9_18) rfl (by kernel_rfl) (by kernel_rfl) (by kernel_rfl) (fun _ _ _ h => h) (Or.inl ⟨by kernel_rfl, ?y9_18⟩) (by assumption) ?r9_18
            case y9_18 => (intro W hSW; (try dsimp only at hSW); go_simp; (try with_reducible rfl))
            change wpAnyH _ _ _ _ _ _ _ (Act.put _ (some 39) _) _
            (try simp only [Act.put, List.setIfInBounds_toArray, List.set_cons_zero, List.set_cons_succ])
            refine wpAnyH_take (i := 19) (v := ?v9_19) rfl (by kernel_rfl) (by kernel_rfl) (by kernel_rfl) (fun _ _ _ h => h) (Or.inl ⟨by kernel_rfl, ?y9_19⟩) (by assumption) ?r9_19
            case y9_19 => (intro W hSW; (try dsimp only at hSW); go_simp; (try with_reducible rfl))
            change wpAnyH _ _ _ _ _ _ _ (Act.put _ (some 40) _) _
            (try simp only [Act.put, List.setIfInBounds_toArray, List.set_cons_zero, List.set_cons_succ])
            refine wpAnyH_take (i := 20) (v := ?v9_20) rfl (by kernel_rfl) (by kernel_rfl) (by kernel_rfl) (fun _ _ _ h => h) (Or.inl ⟨by kernel_rfl, ?y9_20⟩) (by assumption) ?r9_20
            case y9_20 => (intro W hSW; (try dsimp only at hSW); go_simp; (try with_reducible rfl))
            change wpAnyH _ _ _ _ _ _ _ (Act.put _ (some 41) _) _
            (try simp only [Act.put, List.setIfInBounds_toArray, List.set_cons_zero, List.set_cons_succ])
            refine wpAnyH_take (i := 21) (v := ?v9_21) rfl (by kernel_rfl) (by kernel_rfl) (by kernel_rfl) (fun _ _ _ h => h) (Or.inl ⟨by kernel_rfl, ?y9_21⟩) (by assumption) ?r9_21
            case y9_21 => (intro W hSW; (try dsimp only at hSW); go_simp; (try with_reducible rfl))
            change wpAnyH _ _ _ _ _ _ _ (Act.put _ (some 42) _) _
            (try simp only [Act.put, List.setIfInBounds_toArray, List.set_cons_zero, List.set_cons_succ])
            refine wpAnyH_take (i := 22) (v := ?v9_22) rfl (by kernel_rfl) (by kernel_rfl) (by kernel_rfl) (fun _ _ _ h => h) (Or.inl ⟨by kernel_rfl, ?y9_22⟩) (by assumption) ?r9_22
            case y9_22 => (intro W hSW; (try dsimp only at hSW); go_simp; (try with_reducible rfl))
            change wpAnyH _ _ _ _ _ _ _ (Act.put _ (some 43) _) _
            (try simp only [Act.put, List.setIfInBounds_toArray, List.set_cons_zero, List.set_cons_succ])
            refine wpAnyH_ready (rs := [23]) (by kernel_rfl) (by simp) ?_
            refine AllReadyH.cons rfl (fun K hK => ?_) AllReadyH.nil
            rw [if_pos (by rfl)]
            go_simp
            refine (within_any _ _ _ _).mono ?_
            rintro e w1 ⟨rfl, hb1⟩
            clear hb hl c0 c1 c2 c3 c4 c5 d0 d1 f0 f1 hg hHeld
            replace hS := hS.below hb1
            clear hb1
            obtain ⟨hb, ⟨hl, c0, c1, c2, c3, c4, c5⟩, hg⟩ := id hS
            dsimp only at c0 c1 c2 c3 c4 c5
            have d0 := hg.d 4 1 rfl
            have d1 := hg.d 5 8 rfl
            have f0 := hg.f 14 0 rfl
            have f1 := hg.f 15 0 rfl
            (first | rw [h1.out] | rw [h2.out] | rw [h3.out])
            go_wp2_with fail
            refine hK.out _ _ (⟨c1, c2, c3, c4, c5, d0, d1, f0, f1⟩) (fun hHeld => ?_)
            clear hK K
            (try simp only [Act.put, List.setIfInBounds_toArray, List.set_cons_zero, List.set_cons_succ])
            refine wpAnyH_take (i := 24) (v := ?v9_24) rfl (by kernel_rfl) (by kernel_rfl) (by kernel_rfl) (fun _ _ _ h => h) (Or.inl ⟨by kernel_rfl, ?y9_24⟩) (by assumption) ?r9_24
            case y9_24 => (intro W hSW; (try dsimp only at hSW); go_simp; (try with_reducible rfl))
            change wpAnyH _ _ _ _ _ _ _ (Act.put _ (some 45) _) _
            (try simp only [Act.put, List.setIfInBounds_toArray, List.set_cons_zero, List.set_cons_succ])
            refine wpAnyH_take (i := 25) (v := ?v9_25) rfl (by kernel_rfl) (by kernel_rfl) (by kernel_rfl) (fun _ _ _ h => h) (Or.inl ⟨by kernel_rfl, ?y9_25⟩) (by assumption) ?r9_25
            case y9_25 => (intro W hSW; (try dsimp only at hSW); go_simp; (try with_reducible rfl))
            change wpAnyH _ _ _ _ _ _ _ (Act.put _ (some 2) _) _
            (try simp only [Act.put, List.setIfInBounds_toArray, List.set_cons_zero, List.set_cons_succ])
            refine wpAnyH_done (by kernel_rfl) ?_ _
            go_wp2_with fail
            go_ret
            exact ⟨by rw [HK.out]; rfl, hb⟩
      · have d0 := hg.d 4 1 rfl
        have d1 := hg.d 5 8 rfl
        have f0 := hg.f 16 0 rfl
        have f1 := hg.f 17 0 rfl
        obtain ⟨q1, h1⟩ : ∃ q, inB size 1 32 = q := ⟨_, rfl⟩
        obtain ⟨q2, h2⟩ : ∃ q, inB depth 1 8 = q := ⟨_, rfl⟩
        obtain ⟨q3, h3⟩ : ∃ q, inB fresh 0 0 = q := ⟨_, rfl⟩
        have HK : Hid (PortB ⟨part, 2, 2, size, depth, fresh⟩ = (q1 && q2 && q3)) := by
          show _ = _
          unfold PortB
          simp [h1, h2, h3]
        replace h1 := hide h1
        replace h2 := hide h2
        replace h3 := hide h3
        cases q1
        · go_upto_region 3 with fail
          replace hS := hS.drew
          refine wp_region_held_drew (S := fun w' => w'.cell? ⟨w.heap.size, 1, none⟩ = some (.int .i64 2) ∧ w'.cell? ⟨w.heap.size, 2, none⟩ = some (.int .i64 2) ∧ w'.cell? ⟨w.heap.size, 3, none⟩ = some (.int .i64 size) ∧ w'.cell? ⟨w.heap.size, 4, none⟩ = some (.int .i64 depth) ∧ w'.cell? ⟨w.heap.size, 5, none⟩ = some (.int .i64 fresh) ∧ w'.cell? ⟨0, 4, none⟩ = some (.int .i64 1) ∧ w'.cell? ⟨0, 5, none⟩ = some (.int .i64 8) ∧ w'.cell? ⟨1, 16, none⟩ = some (.int .i64 0) ∧ w'.cell? ⟨1, 17, none⟩ = some (.int .i64 0)) (by kernel_rfl) (⟨c1, c2, c3, c4, c5, d0, d1, f0, f1⟩) (fun hHeld => ?_)
          refine wpAnyH_take (i := 0) (v := ?v10_0) rfl (by kernel_rfl) (by kernel_rfl) (by kernel_rfl) (fun _ _ _ h => h) (Or.inl ⟨by kernel_rfl, ?y10_0⟩) (by assumption) ?r10_0
          case y10_0 => (intro W hSW; (try dsimp only at hSW); go_simp; (try with_reducible rfl))
          change wpAnyH _ _ _ _ _ _ _ (Act.put _ (some 21) _) _
          (try simp only [Act.put, List.setIfInBounds_toArray, List.set_cons_zero, List.set_cons_succ])
          refine wpAnyH_take (i := 1) (v := ?v10_1) rfl (by kernel_rfl) (by kernel_rfl) (by kernel_rfl) (fun _ _ _ h => h) (Or.inl ⟨by kernel_rfl, ?y10_1⟩) (by assumption) ?r10_1
          case y10_1 => (intro W hSW; (try dsimp only at hSW); go_simp; (try with_reducible rfl))
          change wpAnyH _ _ _ _ _ _ _ (Act.put _ (some 22) _) _
          (try simp only [Act.put, List.setIfInBounds_toArray, List.set_cons_zero, List.set_cons_succ])
          refine wpAnyH_take (i := 2) (v := ?v10_2) rfl (by kernel_rfl) (by kernel_rfl) (by kernel_rfl) (fun _ _ _ h => h) (Or.inl ⟨by kernel_rfl, ?y10_2⟩) (by assumption) ?r10_2
          case y10_2 => (intro W hSW; (try dsimp only at hSW); go_simp; (try with_reducible rfl))
          change wpAnyH _ _ _ _ _ _ _ (Act.put _ (some 23) _) _
          (try simp only [Act.put, List.setIfInBounds_toArray, List.set_cons_zero, List.set_cons_succ])
          refine wpAnyH_ready (rs := [3]) (by kernel_rfl) (by simp) ?_
          refine AllReadyH.cons rfl (fun K hK => ?_) AllReadyH.nil
          rw [if_pos (by rfl)]
          go_simp
          refine (within_any _ _ _ _).mono ?_
          rintro e w1 ⟨rfl, hb1⟩
          clear hb hl c0 c1 c2 c3 c4 c5 d0 d1 f0 f1 hg hHeld
          replace hS := hS.below hb1
          clear hb1
          obtain ⟨hb, ⟨hl, c0, c1, c2, c3, c4, c5⟩, hg⟩ := id hS
          dsimp only at c0 c1 c2 c3 c4 c5
          have d0 := hg.d 4 1 rfl
          have d1 := hg.d 5 8 rfl
          have f0 := hg.f 16 0 rfl
          have f1 := hg.f 17 0 rfl
          (first | rw [h1.out] | rw [h2.out] | rw [h3.out])
          go_wp2_with fail
          refine hK.out _ _ (⟨c1, c2, c3, c4, c5, d0, d1, f0, f1⟩) (fun hHeld => ?_)
          clear hK K
          (try simp only [Act.put, List.setIfInBounds_toArray, List.set_cons_zero, List.set_cons_succ])
          refine wpAnyH_take (i := 4) (v := ?v10_4) rfl (by kernel_rfl) (by kernel_rfl) (by kernel_rfl) (fun _ _ _ h => h) (Or.inl ⟨by kernel_rfl, ?y10_4⟩) (by assumption) ?r10_4
          case y10_4 => (intro W hSW; (try dsimp only at hSW); go_simp; (try with_reducible rfl))
          change wpAnyH _ _ _ _ _ _ _ (Act.put _ (some 25) _) _
          (try simp only [Act.put, List.setIfInBounds_toArray, List.set_cons_zero, List.set_cons_succ])
          refine wpAnyH_take (i := 5) (v := undef) rfl (by kernel_rfl) (by kernel_rfl) (by kernel_rfl) (fun _ _ _ h => h) (Or.inr ⟨by kernel_rfl, rfl⟩) (by assumption) ?_
          change wpAnyH _ _ _ _ _ _ _ (Act.put _ (some 26) _) _
          (try simp only [Act.put, List.setIfInBounds_toArray, List.set_cons_zero, List.set_cons_succ])
          refine wpAnyH_take (i := 6) (v := undef) rfl (by kernel_rfl) (by kernel_rfl) (by kernel_rfl) (fun _ _ _ h => h) (Or.inr ⟨by kernel_rfl, rfl⟩) (by assumption) ?_
          change wpAnyH _ _ _ _ _ _ _ (Act.put _ (some 27) _) _
          (try simp only [Act.put, List.setIfInBounds_toArray, List.set_cons_zero, List.set_cons_succ])
          refine wpAnyH_take (i := 7) (v := undef) rfl (by kernel_rfl) (by kernel_rfl) (by kernel_rfl) (fun _ _ _ h => h) (Or.inr ⟨by kernel_rfl, rfl⟩) (by assumption) ?_
          change wpAnyH _ _ _ _ _ _ _ (Act.put _ (some 28) _) _
          (try simp only [Act.put, List.setIfInBounds_toArray, List.set_cons_zero, List.set_cons_succ])
          refine wpAnyH_take (i := 8) (v := undef) rfl (by kernel_rfl) (by kernel_rfl) (by kernel_rfl) (fun _ _ _ h => h) (Or.inr ⟨by kernel_rfl, rfl⟩) (by assumption) ?_
          change wpAnyH _ _ _ _ _ _ _ (Act.put _ (some 29) _) _
          (try simp only [Act.put, List.setIfInBounds_toArray, List.set_cons_zero, List.set_cons_succ])
          refine wpAnyH_take (i := 9) (v := undef) rfl (by kernel_rfl) (by kernel_rfl) (by kernel_rfl) (fun _ _ _ h => h) (Or.inr ⟨by kernel_rfl, rfl⟩) (by assumption) ?_
          change wpAnyH _ _ _ _ _ _ _ (Act.put _ (some 30) _) _
          (try simp only [Act.put, List.setIfInBounds_toArray, List.set_cons_zero, List.set_cons_succ])
          refine wpAnyH_take (i := 10) (v := undef) rfl (by kernel_rfl) (by kernel_rfl) (by kernel_rfl) (fun _ _ _ h => h) (Or.inr ⟨by kernel_rfl, rfl⟩) (by assumption) ?_
          change wpAnyH _ _ _ _ _ _ _ (Act.put _ (some 31) _) _
          (try simp only [Act.put, List.setIfInBounds_toArray, List.set_cons_zero, List.set_cons_succ])
          refine wpAnyH_take (i := 11) (v := undef) rfl (by kernel_rfl) (by kernel_rfl) (by kernel_rfl) (fun _ _ _ h => h) (Or.inr ⟨by kernel_rfl, rfl⟩) (by assumption) ?_
          change wpAnyH _ _ _ _ _ _ _ (Act.put _ (some 32) _) _
          (try simp only [Act.put, List.setIfInBounds_toArray, List.set_cons_zero, List.set_cons_succ])
          refine wpAnyH_take (i := 12) (v := ?v10_12) rfl (by kernel_rfl) (by kernel_rfl) (by kernel_rfl) (fun _ _ _ h => h) (Or.inl ⟨by kernel_rfl, ?y10_12⟩) (by assumption) ?r10_12
          case y10_12 => (intro W hSW; (try dsimp only at hSW); go_simp; (try with_reducible rfl))
          change wpAnyH _ _ _ _ _ _ _ (Act.put _ (some 33) _) _
          (try simp only [Act.put, List.setIfInBounds_toArray, List.set_cons_zero, List.set_cons_succ])
          refine wpAnyH_take (i := 13) (v := ?v10_13) rfl (by kernel_rfl) (by kernel_rfl) (by kernel_rfl) (fun _ _ _ h => h) (Or.inl ⟨by kernel_rfl, ?y10_13⟩) (by assumption) ?r10_13
          case y10_13 => (intro W hSW; (try dsimp only at hSW); go_simp; (try with_reducible rfl))
          change wpAnyH _ _ _ _ _ _ _ (Act.put _ (some 34) _) _
          (try simp only [Act.put, List.setIfInBounds_toArray, List.set_cons_zero, List.set_cons_succ])
          refine wpAnyH_take (i := 14) (v := undef) rfl (by kernel_rfl) (by kernel_rfl) (by kernel_rfl) (fun _ _ _ h => h) (Or.inr ⟨by kernel_rfl, rfl⟩) (by assumption) ?_
          change wpAnyH _ _ _ _ _ _ _ (Act.put _ (some 35) _) _
          (try simp only [Act.put, List.setIfInBounds_toArray, List.set_cons_zero, List.set_cons_succ])
          refine wpAnyH_take (i := 15) (v := undef) rfl (by kernel_rfl) (by kernel_rfl) (by kernel_rfl) (fun _ _ _ h => h) (Or.inr ⟨by kernel_rfl, rfl⟩) (by assumption) ?_
          change wpAnyH _ _ _ _ _ _ _ (Act.put _ (some 36) _) _
          (try simp only [Act.put, List.setIfInBounds_toArray, List.set_cons_zero, List.set_cons_succ])
          refine wpAnyH_take (i := 16) (v := undef) rfl (by kernel_rfl) (by kernel_rfl) (by kernel_rfl) (fun _ _ _ h => h) (Or.inr ⟨by kernel_rfl, rfl⟩) (by assumption) ?_
          change wpAnyH _ _ _ _ _ _ _ (Act.put _ (some 37) _) _
          (try simp only [Act.put, List.setIfInBounds_toArray, List.set_cons_zero, List.set_cons_succ])
          refine wpAnyH_take (i := 17) (v := undef) rfl (by kernel_rfl) (by kernel_rfl) (by kernel_rfl) (fun _ _ _ h => h) (Or.inr ⟨by kernel_rfl, rfl⟩) (by assumption) ?_
          change wpAnyH _ _ _ _ _ _ _ (Act.put _ (some 38) _) _
          (try simp only [Act.put, List.setIfInBounds_toArray, List.set_cons_zero, List.set_cons_succ])
          refine wpAnyH_take (i := 18) (v := undef) rfl (by kernel_rfl) (by kernel_rfl) (by kernel_rfl) (fun _ _ _ h => h) (Or.inr ⟨by kernel_rfl, rfl⟩) (by assumption) ?_
          change wpAnyH _ _ _ _ _ _ _ (Act.put _ (some 39) _) _
          (try simp only [Act.put, List.setIfInBounds_toArray, List.set_cons_zero, List.set_cons_succ])
          refine wpAnyH_take (i := 19) (v := undef) rfl (by kernel_rfl) (by kernel_rfl) (by kernel_rfl) (fun _ _ _ h => h) (Or.inr ⟨by kernel_rfl, rfl⟩) (by assumption) ?_
          change wpAnyH _ _ _ _ _ _ _ (Act.put _ (some 40) _) _
          (try simp only [Act.put, List.setIfInBounds_toArray, List.set_cons_zero, List.set_cons_succ])
          refine wpAnyH_take (i := 20) (v := undef) rfl (by kernel_rfl) (by kernel_rfl) (by kernel_rfl) (fun _ _ _ h => h) (Or.inr ⟨by kernel_rfl, rfl⟩) (by assumption) ?_
          change wpAnyH _ _ _ _ _ _ _ (Act.put _ (some 41) _) _
          (try simp only [Act.put, List.setIfInBounds_toArray, List.set_cons_zero, List.set_cons_succ])
          refine wpAnyH_take (i := 21) (v := undef) rfl (by kernel_rfl) (by kernel_rfl) (by kernel_rfl) (fun _ _ _ h => h) (Or.inr ⟨by kernel_rfl, rfl⟩) (by assumption) ?_
          change wpAnyH _ _ _ _ _ _ _ (Act.put _ (some 42) _) _
          (try simp only [Act.put, List.setIfInBounds_toArray, List.set_cons_zero, List.set_cons_succ])
          refine wpAnyH_take (i := 22) (v := undef) rfl (by kernel_rfl) (by kernel_rfl) (by kernel_rfl) (fun _ _ _ h => h) (Or.inr ⟨by kernel_rfl, rfl⟩) (by assumption) ?_
          change wpAnyH _ _ _ _ _ _ _ (Act.put _ (some 43) _) _
          (try simp only [Act.put, List.setIfInBounds_toArray, List.set_cons_zero, List.set_cons_succ])
          refine wpAnyH_take (i := 23) (v := undef) rfl (by kernel_rfl) (by kernel_rfl) (by kernel_rfl) (fun _ _ _ h => h) (Or.inr ⟨by kernel_rfl, rfl⟩) (by assumption) ?_
          change wpAnyH _ _ _ _ _ _ _ (Act.put _ (some 44) _) _
          (try simp only [Act.put, List.setIfInBounds_toArray, List.set_cons_zero, List.set_cons_succ])
          refine wpAnyH_take (i := 24) (v := ?v10_24) rfl (by kernel_rfl) (by kernel_rfl) (by kernel_rfl) (fun _ _ _ h => h) (Or.inl ⟨by kernel_rfl, ?y10_24⟩) (by assumption) ?r10_24
          case y10_24 => (intro W hSW; (try dsimp only at hSW); go_simp; (try with_reducible rfl))
          change wpAnyH _ _ _ _ _ _ _ (Act.put _ (some 45) _) _
          (try simp only [Act.put, List.setIfInBounds_toArray, List.set_cons_zero, List.set_cons_succ])
          refine wpAnyH_take (i := 25) (v := ?v10_25) rfl (by kernel_rfl) (by kernel_rfl) (by kernel_rfl) (fun _ _ _ h => h) (Or.inl ⟨by kernel_rfl, ?y10_25⟩) (by assumption) ?r10_25
          case y10_25 => (intro W hSW; (try dsimp only at hSW); go_simp; (try with_reducible rfl))
          change wpAnyH _ _ _ _ _ _ _ (Act.put _ (some 2) _) _
          (try simp only [Act.put, List.setIfInBounds_toArray, List.set_cons_zero, List.set_cons_succ])
          refine wpAnyH_done (by kernel_rfl) ?_ _
          go_wp2_with fail
          go_ret
          exact ⟨by rw [HK.out]; rfl, hb⟩
        · cases q2
          · go_upto_region 3 with fail
            replace hS := hS.drew
            refine wp_region_held_drew (S := fun w' => w'.cell? ⟨w.heap.size, 1, none⟩ = some (.int .i64 2) ∧ w'.cell? ⟨w.heap.size, 2, none⟩ = some (.int .i64 2) ∧ w'.cell? ⟨w.heap.size, 3, none⟩ = some (.int .i64 size) ∧ w'.cell? ⟨w.heap.size, 4, none⟩ = some (.int .i64 depth) ∧ w'.cell? ⟨w.heap.size, 5, none⟩ = some (.int .i64 fresh) ∧ w'.cell? ⟨0, 4, none⟩ = some (.int .i64 1) ∧ w'.cell? ⟨0, 5, none⟩ = some (.int .i64 8) ∧ w'.cell? ⟨1, 16, none⟩ = some (.int .i64 0) ∧ w'.cell? ⟨1, 17, none⟩ = some (.int .i64 0)) (by kernel_rfl) (⟨c1, c2, c3, c4, c5, d0, d1, f0, f1⟩) (fun hHeld => ?_)
            refine wpAnyH_take (i := 0) (v := ?v11_0) rfl (by kernel_rfl) (by kernel_rfl) (by kernel_rfl) (fun _ _ _ h => h) (Or.inl ⟨by kernel_rfl, ?y11_0⟩) (by assumption) ?r11_0
            case y11_0 => (intro W hSW; (try dsimp only at hSW); go_simp; (try with_reducible rfl))
            change wpAnyH _ _ _ _ _ _ _ (Act.put _ (some 21) _) _
            (try simp only [Act.put, List.setIfInBounds_toArray, List.set_cons_zero, List.set_cons_succ])
            refine wpAnyH_take (i := 1) (v := ?v11_1) rfl (by kernel_rfl) (by kernel_rfl) (by kernel_rfl) (fun _ _ _ h => h) (Or.inl ⟨by kernel_rfl, ?y11_1⟩) (by assumption) ?r11_1
            case y11_1 => (intro W hSW; (try dsimp only at hSW); go_simp; (try with_reducible rfl))
            change wpAnyH _ _ _ _ _ _ _ (Act.put _ (some 22) _) _
            (try simp only [Act.put, List.setIfInBounds_toArray, List.set_cons_zero, List.set_cons_succ])
            refine wpAnyH_take (i := 2) (v := ?v11_2) rfl (by kernel_rfl) (by kernel_rfl) (by kernel_rfl) (fun _ _ _ h => h) (Or.inl ⟨by kernel_rfl, ?y11_2⟩) (by assumption) ?r11_2
            case y11_2 => (intro W hSW; (try dsimp only at hSW); go_simp; (try with_reducible rfl))
            change wpAnyH _ _ _ _ _ _ _ (Act.put _ (some 23) _) _
            (try simp only [Act.put, List.setIfInBounds_toArray, List.set_cons_zero, List.set_cons_succ])
            refine wpAnyH_ready (rs := [3]) (by kernel_rfl) (by simp) ?_
            refine AllReadyH.cons rfl (fun K hK => ?_) AllReadyH.nil
            rw [if_pos (by rfl)]
            go_simp
            refine (within_any _ _ _ _).mono ?_
            rintro e w1 ⟨rfl, hb1⟩
            clear hb hl c0 c1 c2 c3 c4 c5 d0 d1 f0 f1 hg hHeld
            replace hS := hS.below hb1
            clear hb1
            obtain ⟨hb, ⟨hl, c0, c1, c2, c3, c4, c5⟩, hg⟩ := id hS
            dsimp only at c0 c1 c2 c3 c4 c5
            have d0 := hg.d 4 1 rfl
            have d1 := hg.d 5 8 rfl
            have f0 := hg.f 16 0 rfl
            have f1 := hg.f 17 0 rfl
            (first | rw [h1.out] | rw [h2.out] | rw [h3.out])
            go_wp2_with fail
            refine hK.out _ _ (⟨c1, c2, c3, c4, c5, d0, d1, f0, f1⟩) (fun hHeld => ?_)
            clear hK K
            (try simp only [Act.put, List.setIfInBounds_toArray, List.set_cons_zero, List.set_cons_succ])
            refine wpAnyH_take (i := 4) (v := ?v11_4) rfl (by kernel_rfl) (by kernel_rfl) (by kernel_rfl) (fun _ _ _ h => h) (Or.inl ⟨by kernel_rfl, ?y11_4⟩) (by assumption) ?r11_4
            case y11_4 => (intro W hSW; (try dsimp only at hSW); go_simp; (try with_reducible rfl))
            change wpAnyH _ _ _ _ _ _ _ (Act.put _ (some 25) _) _
            (try simp only [Act.put, List.setIfInBounds_toArray, List.set_cons_zero, List.set_cons_succ])
            refine wpAnyH_take (i := 5) (v := ?v11_5) rfl (by kernel_rfl) (by kernel_rfl) (by kernel_rfl) (fun _ _ _ h => h) (Or.inl ⟨by kernel_rfl, ?y11_5⟩) (by assumption) ?r11_5
            case y11_5 => (intro W hSW; (try dsimp only at hSW); go_simp; (try with_reducible rfl))
            change wpAnyH _ _ _ _ _ _ _ (Act.put _ (some 26) _) _
            (try simp only [Act.put, List.setIfInBounds_toArray, List.set_cons_zero, List.set_cons_succ])
            refine wpAnyH_take (i := 6) (v := ?v11_6) rfl (by kernel_rfl) (by kernel_rfl) (by kernel_rfl) (fun _ _ _ h => h) (Or.inl ⟨by kernel_rfl, ?y11_6⟩) (by assumption) ?r11_6
            case y11_6 => (intro W hSW; (try dsimp only at hSW); go_simp; (try with_reducible rfl))
            change wpAnyH _ _ _ _ _ _ _ (Act.put _ (some 27) _) _
            (try simp only [Act.put, List.setIfInBounds_toArray, List.set_cons_zero, List.set_cons_succ])
            refine wpAnyH_take (i := 7) (v := ?v11_7) rfl (by kernel_rfl) (by kernel_rfl) (by kernel_rfl) (fun _ _ _ h => h) (Or.inl ⟨by kernel_rfl, ?y11_7⟩) (by assumption) ?r11_7
            case y11_7 => (intro W hSW; (try dsimp only at hSW); go_simp; (try with_reducible rfl))
            change wpAnyH _ _ _ _ _ _ _ (Act.put _ (some 28) _) _
            (try simp only [Act.put, List.setIfInBounds_toArray, List.set_cons_zero, List.set_cons_succ])
            refine wpAnyH_take (i := 8) (v := ?v11_8) rfl (by kernel_rfl) (by kernel_rfl) (by kernel_rfl) (fun _ _ _ h => h) (Or.inl ⟨by kernel_rfl, ?y11_8⟩) (by assumption) ?r11_8
            case y11_8 => (intro W hSW; (try dsimp only at hSW); go_simp; (try with_reducible rfl))
            change wpAnyH _ _ _ _ _ _ _ (Act.put _ (some 29) _) _
            (try simp only [Act.put, List.setIfInBounds_toArray, List.set_cons_zero, List.set_cons_succ])
            refine wpAnyH_take (i := 9) (v := ?v11_9) rfl (by kernel_rfl) (by kernel_rfl) (by kernel_rfl) (fun _ _ _ h => h) (Or.inl ⟨by kernel_rfl, ?y11_9⟩) (by assumption) ?r11_9
            case y11_9 => (intro W hSW; (try dsimp only at hSW); go_simp; (try with_reducible rfl))
            change wpAnyH _ _ _ _ _ _ _ (Act.put _ (some 30) _) _
            (try simp only [Act.put, List.setIfInBounds_toArray, List.set_cons_zero, List.set_cons_succ])
            refine wpAnyH_take (i := 10) (v := ?v11_10) rfl (by kernel_rfl) (by kernel_rfl) (by kernel_rfl) (fun _ _ _ h => h) (Or.inl ⟨by kernel_rfl, ?y11_10⟩) (by assumption) ?r11_10
            case y11_10 => (intro W hSW; (try dsimp only at hSW); go_simp; (try with_reducible rfl))
            change wpAnyH _ _ _ _ _ _ _ (Act.put _ (some 31) _) _
            (try simp only [Act.put, List.setIfInBounds_toArray, List.set_cons_zero, List.set_cons_succ])
            refine wpAnyH_ready (rs := [11]) (by kernel_rfl) (by simp) ?_
            refine AllReadyH.cons rfl (fun K hK => ?_) AllReadyH.nil
            rw [if_pos (by rfl)]
            go_simp
            refine (within_any _ _ _ _).mono ?_
            rintro e w1 ⟨rfl, hb1⟩
            clear hb hl c0 c1 c2 c3 c4 c5 d0 d1 f0 f1 hg hHeld
            replace hS := hS.below hb1
            clear hb1
            obtain ⟨hb, ⟨hl, c0, c1, c2, c3, c4, c5⟩, hg⟩ := id hS
            dsimp only at c0 c1 c2 c3 c4 c5
            have d0 := hg.d 4 1 rfl
            have d1 := hg.d 5 8 rfl
            have f0 := hg.f 16 0 rfl
            have f1 := hg.f 17 0 rfl
            (first | rw [h1.out] | rw [h2.out] | rw [h3.out])
            go_wp2_with fail
            refine hK.out _ _ (⟨c1, c2, c3, c4, c5, d0, d1, f0, f1⟩) (fun hHeld => ?_)
            clear hK K
            (try simp only [Act.put, List.setIfInBounds_toArray, List.set_cons_zero, List.set_cons_succ])
            refine wpAnyH_take (i := 12) (v := ?v11_12) rfl (by kernel_rfl) (by kernel_rfl) (by kernel_rfl) (fun _ _ _ h => h) (Or.inl ⟨by kernel_rfl, ?y11_12⟩) (by assumption) ?r11_12
            case y11_12 => (intro W hSW; (try dsimp only at hSW); go_simp; (try with_reducible rfl))
            change wpAnyH _ _ _ _ _ _ _ (Act.put _ (some 33) _) _
            (try simp only [Act.put, List.setIfInBounds_toArray, List.set_cons_zero, List.set_cons_succ])
            refine wpAnyH_take (i := 13) (v := ?v11_13) rfl (by kernel_rfl) (by kernel_rfl) (by kernel_rfl) (fun _ _ _ h => h) (Or.inl ⟨by kernel_rfl, ?y11_13⟩) (by assumption) ?r11_13
            case y11_13 => (intro W hSW; (try dsimp only at hSW); go_simp; (try with_reducible rfl))
            change wpAnyH _ _ _ _ _ _ _ (Act.put _ (some 34) _) _
            (try simp only [Act.put, List.setIfInBounds_toArray, List.set_cons_zero, List.set_cons_succ])
            refine wpAnyH_take (i := 14) (v := undef) rfl (by kernel_rfl) (by kernel_rfl) (by kernel_rfl) (fun _ _ _ h => h) (Or.inr ⟨by kernel_rfl, rfl⟩) (by assumption) ?_
            change wpAnyH _ _ _ _ _ _ _ (Act.put _ (some 35) _) _
            (try simp only [Act.put, List.setIfInBounds_toArray, List.set_cons_zero, List.set_cons_succ])
            refine wpAnyH_take (i := 15) (v := undef) rfl (by kernel_rfl) (by kernel_rfl) (by kernel_rfl) (fun _ _ _ h => h) (Or.inr ⟨by kernel_rfl, rfl⟩) (by assumption) ?_
            change wpAnyH _ _ _ _ _ _ _ (Act.put _ (some 36) _) _
            (try simp only [Act.put, List.setIfInBounds_toArray, List.set_cons_zero, List.set_cons_succ])
            refine wpAnyH_take (i := 16) (v := undef) rfl (by kernel_rfl) (by kernel_rfl) (by kernel_rfl) (fun _ _ _ h => h) (Or.inr ⟨by kernel_rfl, rfl⟩) (by assumption) ?_
            change wpAnyH _ _ _ _ _ _ _ (Act.put _ (some 37) _) _
            (try simp only [Act.put, List.setIfInBounds_toArray, List.set_cons_zero, List.set_cons_succ])
            refine wpAnyH_take (i := 17) (v := undef) rfl (by kernel_rfl) (by kernel_rfl) (by kernel_rfl) (fun _ _ _ h => h) (Or.inr ⟨by kernel_rfl, rfl⟩) (by assumption) ?_
            change wpAnyH _ _ _ _ _ _ _ (Act.put _ (some 38) _) _
            (try simp only [Act.put, List.setIfInBounds_toArray, List.set_cons_zero, List.set_cons_succ])
            refine wpAnyH_take (i := 18) (v := undef) rfl (by kernel_rfl) (by kernel_rfl) (by kernel_rfl) (fun _ _ _ h => h) (Or.inr ⟨by kernel_rfl, rfl⟩) (by assumption) ?_
            change wpAnyH _ _ _ _ _ _ _ (Act.put _ (some 39) _) _
            (try simp only [Act.put, List.setIfInBounds_toArray, List.set_cons_zero, List.set_cons_succ])
            refine wpAnyH_take (i := 19) (v := undef) rfl (by kernel_rfl) (by kernel_rfl) (by kernel_rfl) (fun _ _ _ h => h) (Or.inr ⟨by kernel_rfl, rfl⟩) (by assumption) ?_
            change wpAnyH _ _ _ _ _ _ _ (Act.put _ (some 40) _) _
            (try simp only [Act.put, List.setIfInBounds_toArray, List.set_cons_zero, List.set_cons_succ])
            refine wpAnyH_take (i := 20) (v := undef) rfl (by kernel_rfl) (by kernel_rfl) (by kernel_rfl) (fun _ _ _ h => h) (Or.inr ⟨by kernel_rfl, rfl⟩) (by assumption) ?_
            change wpAnyH _ _ _ _ _ _ _ (Act.put _ (some 41) _) _
            (try simp only [Act.put, List.setIfInBounds_toArray, List.set_cons_zero, List.set_cons_succ])
            refine wpAnyH_take (i := 21) (v := undef) rfl (by kernel_rfl) (by kernel_rfl) (by kernel_rfl) (fun _ _ _ h => h) (Or.inr ⟨by kernel_rfl, rfl⟩) (by assumption) ?_
            change wpAnyH _ _ _ _ _ _ _ (Act.put _ (some 42) _) _
            (try simp only [Act.put, List.setIfInBounds_toArray, List.set_cons_zero, List.set_cons_succ])
            refine wpAnyH_take (i := 22) (v := undef) rfl (by kernel_rfl) (by kernel_rfl) (by kernel_rfl) (fun _ _ _ h => h) (Or.inr ⟨by kernel_rfl, rfl⟩) (by assumption) ?_
            change wpAnyH _ _ _ _ _ _ _ (Act.put _ (some 43) _) _
            (try simp only [Act.put, List.setIfInBounds_toArray, List.set_cons_zero, List.set_cons_succ])
            refine wpAnyH_take (i := 23) (v := undef) rfl (by kernel_rfl) (by kernel_rfl) (by kernel_rfl) (fun _ _ _ h => h) (Or.inr ⟨by kernel_rfl, rfl⟩) (by assumption) ?_
            change wpAnyH _ _ _ _ _ _ _ (Act.put _ (some 44) _) _
            (try simp only [Act.put, List.setIfInBounds_toArray, List.set_cons_zero, List.set_cons_succ])
            refine wpAnyH_take (i := 24) (v := ?v11_24) rfl (by kernel_rfl) (by kernel_rfl) (by kernel_rfl) (fun _ _ _ h => h) (Or.inl ⟨by kernel_rfl, ?y11_24⟩) (by assumption) ?r11_24
            case y11_24 => (intro W hSW; (try dsimp only at hSW); go_simp; (try with_reducible rfl))
            change wpAnyH _ _ _ _ _ _ _ (Act.put _ (some 45) _) _
            (try simp only [Act.put, List.setIfInBounds_toArray, List.set_cons_zero, List.set_cons_succ])
            refine wpAnyH_take (i := 25) (v := ?v11_25) rfl (by kernel_rfl) (by kernel_rfl) (by kernel_rfl) (fun _ _ _ h => h) (Or.inl ⟨by kernel_rfl, ?y11_25⟩) (by assumption) ?r11_25
            case y11_25 => (intro W hSW; (try dsimp only at hSW); go_simp; (try with_reducible rfl))
            change wpAnyH _ _ _ _ _ _ _ (Act.put _ (some 2) _) _
            (try simp only [Act.put, List.setIfInBounds_toArray, List.set_cons_zero, List.set_cons_succ])
            refine wpAnyH_done (by kernel_rfl) ?_ _
            go_wp2_with fail
            go_ret
            exact ⟨by rw [HK.out]; rfl, hb⟩
          · go_upto_region 3 with fail
            replace hS := hS.drew
            refine wp_region_held_drew (S := fun w' => w'.cell? ⟨w.heap.size, 1, none⟩ = some (.int .i64 2) ∧ w'.cell? ⟨w.heap.size, 2, none⟩ = some (.int .i64 2) ∧ w'.cell? ⟨w.heap.size, 3, none⟩ = some (.int .i64 size) ∧ w'.cell? ⟨w.heap.size, 4, none⟩ = some (.int .i64 depth) ∧ w'.cell? ⟨w.heap.size, 5, none⟩ = some (.int .i64 fresh) ∧ w'.cell? ⟨0, 4, none⟩ = some (.int .i64 1) ∧ w'.cell? ⟨0, 5, none⟩ = some (.int .i64 8) ∧ w'.cell? ⟨1, 16, none⟩ = some (.int .i64 0) ∧ w'.cell? ⟨1, 17, none⟩ = some (.int .i64 0)) (by kernel_rfl) (⟨c1, c2, c3, c4, c5, d0, d1, f0, f1⟩) (fun hHeld => ?_)
            refine wpAnyH_take (i := 0) (v := ?v12_0) rfl (by kernel_rfl) (by kernel_rfl) (by kernel_rfl) (fun _ _ _ h => h) (Or.inl ⟨by kernel_rfl, ?y12_0⟩) (by assumption) ?r12_0
            case y12_0 => (intro W hSW; (try dsimp only at hSW); go_simp; (try with_reducible rfl))
            change wpAnyH _ _ _ _ _ _ _ (Act.put _ (some 21) _) _
            (try simp only [Act.put, List.setIfInBounds_toArray, List.set_cons_zero, List.set_cons_succ])
            refine wpAnyH_take (i := 1) (v := ?v12_1) rfl (by kernel_rfl) (by kernel_rfl) (by kernel_rfl) (fun _ _ _ h => h) (Or.inl ⟨by kernel_rfl, ?y12_1⟩) (by assumption) ?r12_1
            case y12_1 => (intro W hSW; (try dsimp only at hSW); go_simp; (try with_reducible rfl))
            change wpAnyH _ _ _ _ _ _ _ (Act.put _ (some 22) _) _
            (try simp only [Act.put, List.setIfInBounds_toArray, List.set_cons_zero, List.set_cons_succ])
            refine wpAnyH_take (i := 2) (v := ?v12_2) rfl (by kernel_rfl) (by kernel_rfl) (by kernel_rfl) (fun _ _ _ h => h) (Or.inl ⟨by kernel_rfl, ?y12_2⟩) (by assumption) ?r12_2
            case y12_2 => (intro W hSW; (try dsimp only at hSW); go_simp; (try with_reducible rfl))
            change wpAnyH _ _ _ _ _ _ _ (Act.put _ (some 23) _) _
            (try simp only [Act.put, List.setIfInBounds_toArray, List.set_cons_zero, List.set_cons_succ])
            refine wpAnyH_ready (rs := [3]) (by kernel_rfl) (by simp) ?_
            refine AllReadyH.cons rfl (fun K hK => ?_) AllReadyH.nil
            rw [if_pos (by rfl)]
            go_simp
            refine (within_any _ _ _ _).mono ?_
            rintro e w1 ⟨rfl, hb1⟩
            clear hb hl c0 c1 c2 c3 c4 c5 d0 d1 f0 f1 hg hHeld
            replace hS := hS.below hb1
            clear hb1
            obtain ⟨hb, ⟨hl, c0, c1, c2, c3, c4, c5⟩, hg⟩ := id hS
            dsimp only at c0 c1 c2 c3 c4 c5
            have d0 := hg.d 4 1 rfl
            have d1 := hg.d 5 8 rfl
            have f0 := hg.f 16 0 rfl
            have f1 := hg.f 17 0 rfl
            (first | rw [h1.out] | rw [h2.out] | rw [h3.out])
            go_wp2_with fail
            refine hK.out _ _ (⟨c1, c2, c3, c4, c5, d0, d1, f0, f1⟩) (fun hHeld => ?_)
            clear hK K
            (try simp only [Act.put, List.setIfInBounds_toArray, List.set_cons_zero, List.set_cons_succ])
            refine wpAnyH_take (i := 4) (v := ?v12_4) rfl (by kernel_rfl) (by kernel_rfl) (by kernel_rfl) (fun _ _ _ h => h) (Or.inl ⟨by kernel_rfl, ?y12_4⟩) (by assumption) ?r12_4
            case y12_4 => (intro W hSW; (try dsimp only at hSW); go_simp; (try with_reducible rfl))
            change wpAnyH _ _ _ _ _ _ _ (Act.put _ (some 25) _) _
            (try simp only [Act.put, List.setIfInBounds_toArray, List.set_cons_zero, List.set_cons_succ])
            refine wpAnyH_take (i := 5) (v := ?v12_5) rfl (by kernel_rfl) (by kernel_rfl) (by kernel_rfl) (fun _ _ _ h => h) (Or.inl ⟨by kernel_rfl, ?y12_5⟩) (by assumption) ?r12_5
            case y12_5 => (intro W hSW; (try dsimp only at hSW); go_simp; (try with_reducible rfl))
            change wpAnyH _ _ _ _ _ _ _ (Act.put _ (some 26) _) _
            (try simp only [Act.put, List.setIfInBounds_toArray, List.set_cons_zero, List.set_cons_succ])
            refine wpAnyH_take (i := 6) (v := ?v12_6) rfl (by kernel_rfl) (by kernel_rfl) (by kernel_rfl) (fun _ _ _ h => h) (Or.inl ⟨by kernel_rfl, ?y12_6⟩) (by assumption) ?r12_6
            case y12_6 => (intro W hSW; (try dsimp only at hSW); go_simp; (try with_reducible rfl))
            change wpAnyH _ _ _ _ _ _ _ (Act.put _ (some 27) _) _
            (try simp only [Act.put, List.setIfInBounds_toArray, List.set_cons_zero, List.set_cons_succ])
            refine wpAnyH_take (i := 7) (v := ?v12_7) rfl (by kernel_rfl) (by kernel_rfl) (by kernel_rfl) (fun _ _ _ h => h) (Or.inl ⟨by kernel_rfl, ?y12_7⟩) (by assumption) ?r12_7
            case y12_7 => (intro W hSW; (try dsimp only at hSW); go_simp; (try with_reducible rfl))
            change wpAnyH _ _ _ _ _ _ _ (Act.put _ (some 28) _) _
            (try simp only [Act.put, List.setIfInBounds_toArray, List.set_cons_zero, List.set_cons_succ])
            refine wpAnyH_take (i := 8) (v := ?v12_8) rfl (by kernel_rfl) (by kernel_rfl) (by kernel_rfl) (fun _ _ _ h => h) (Or.inl ⟨by kernel_rfl, ?y12_8⟩) (by assumption) ?r12_8
            case y12_8 => (intro W hSW; (try dsimp only at hSW); go_simp; (try with_reducible rfl))
            change wpAnyH _ _ _ _ _ _ _ (Act.put _ (some 29) _) _
            (try simp only [Act.put, List.setIfInBounds_toArray, List.set_cons_zero, List.set_cons_succ])
            refine wpAnyH_take (i := 9) (v := ?v12_9) rfl (by kernel_rfl) (by kernel_rfl) (by kernel_rfl) (fun _ _ _ h => h) (Or.inl ⟨by kernel_rfl, ?y12_9⟩) (by assumption) ?r12_9
            case y12_9 => (intro W hSW; (try dsimp only at hSW); go_simp; (try with_reducible rfl))
            change wpAnyH _ _ _ _ _ _ _ (Act.put _ (some 30) _) _
            (try simp only [Act.put, List.setIfInBounds_toArray, List.set_cons_zero, List.set_cons_succ])
            refine wpAnyH_take (i := 10) (v := ?v12_10) rfl (by kernel_rfl) (by kernel_rfl) (by kernel_rfl) (fun _ _ _ h => h) (Or.inl ⟨by kernel_rfl, ?y12_10⟩) (by assumption) ?r12_10
            case y12_10 => (intro W hSW; (try dsimp only at hSW); go_simp; (try with_reducible rfl))
            change wpAnyH _ _ _ _ _ _ _ (Act.put _ (some 31) _) _
            (try simp only [Act.put, List.setIfInBounds_toArray, List.set_cons_zero, List.set_cons_succ])
            refine wpAnyH_ready (rs := [11]) (by kernel_rfl) (by simp) ?_
            refine AllReadyH.cons rfl (fun K hK => ?_) AllReadyH.nil
            rw [if_pos (by rfl)]
            go_simp
            refine (within_any _ _ _ _).mono ?_
            rintro e w1 ⟨rfl, hb1⟩
            clear hb hl c0 c1 c2 c3 c4 c5 d0 d1 f0 f1 hg hHeld
            replace hS := hS.below hb1
            clear hb1
            obtain ⟨hb, ⟨hl, c0, c1, c2, c3, c4, c5⟩, hg⟩ := id hS
            dsimp only at c0 c1 c2 c3 c4 c5
            have d0 := hg.d 4 1 rfl
            have d1 := hg.d 5 8 rfl
            have f0 := hg.f 16 0 rfl
            have f1 := hg.f 17 0 rfl
            (first | rw [h1.out] | rw [h2.out] | rw [h3.out])
            go_wp2_with fail
            refine hK.out _ _ (⟨c1, c2, c3, c4, c5, d0, d1, f0, f1⟩) (fun hHeld => ?_)
            clear hK K
            (try simp only [Act.put, List.setIfInBounds_toArray, List.set_cons_zero, List.set_cons_succ])
            refine wpAnyH_take (i := 12) (v := ?v12_12) rfl (by kernel_rfl) (by kernel_rfl) (by kernel_rfl) (fun _ _ _ h => h) (Or.inl ⟨by kernel_rfl, ?y12_12⟩) (by assumption) ?r12_12
            case y12_12 => (intro W hSW; (try dsimp only at hSW); go_simp; (try with_reducible rfl))
            change wpAnyH _ _ _ _ _ _ _ (Act.put _ (some 33) _) _
            (try simp only [Act.put, List.setIfInBounds_toArray, List.set_cons_zero, List.set_cons_succ])
            refine wpAnyH_take (i := 13) (v := ?v12_13) rfl (by kernel_rfl) (by kernel_rfl) (by kernel_rfl) (fun _ _ _ h => h) (Or.inl ⟨by kernel_rfl, ?y12_13⟩) (by assumption) ?r12_13
            case y12_13 => (intro W hSW; (try dsimp only at hSW); go_simp; (try with_reducible rfl))
            change wpAnyH _ _ _ _ _ _ _ (Act.put _ (some 34) _) _
            (try simp only [Act.put, List.setIfInBounds_toArray, List.set_cons_zero, List.set_cons_succ])
            refine wpAnyH_take (i := 14) (v := ?v12_14) rfl (by kernel_rfl) (by kernel_rfl) (by kernel_rfl) (fun _ _ _ h => h) (Or.inl ⟨by kernel_rfl, ?y12_14⟩) (by assumption) ?r12_14
            case y12_14 => (intro W hSW; (try dsimp only at hSW); go_simp; (try with_reducible rfl))
            change wpAnyH _ _ _ _ _ _ _ (Act.put _ (some 35) _) _
            (try simp only [Act.put, List.setIfInBounds_toArray, List.set_cons_zero, List.set_cons_succ])
            refine wpAnyH_take (i := 15) (v := ?v12_15) rfl (by kernel_rfl) (by kernel_rfl) (by kernel_rfl) (fun _ _ _ h => h) (Or.inl ⟨by kernel_rfl, ?y12_15⟩) (by assumption) ?r12_15
            case y12_15 => (intro W hSW; (try dsimp only at hSW); go_simp; (try with_reducible rfl))
            change wpAnyH _ _ _ _ _ _ _ (Act.put _ (some 36) _) _
            (try simp only [Act.put, List.setIfInBounds_toArray, List.set_cons_zero, List.set_cons_succ])
            refine wpAnyH_take (i := 16) (v := ?v12_16) rfl (by kernel_rfl) (by kernel_rfl) (by kernel_rfl) (fun _ _ _ h => h) (Or.inl ⟨by kernel_rfl, ?y12_16⟩) (by assumption) ?r12_16
            case y12_16 => (intro W hSW; (try dsimp only at hSW); go_simp; (try with_reducible rfl))
            change wpAnyH _ _ _ _ _ _ _ (Act.put _ (some 37) _) _
            (try simp only [Act.put, List.setIfInBounds_toArray, List.set_cons_zero, List.set_cons_succ])
            refine wpAnyH_take (i := 17) (v := ?v12_17) rfl (by kernel_rfl) (by kernel_rfl) (by kernel_rfl) (fun _ _ _ h => h) (Or.inl ⟨by kernel_rfl, ?y12_17⟩) (by assumption) ?r12_17
            case y12_17 => (intro W hSW; (try dsimp only at hSW); go_simp; (try with_reducible rfl))
            change wpAnyH _ _ _ _ _ _ _ (Act.put _ (some 38) _) _
            (try simp only [Act.put, List.setIfInBounds_toArray, List.set_cons_zero, List.set_cons_succ])
            refine wpAnyH_take (i := 18) (v := ?v12_18) rfl (by kernel_rfl) (by kernel_rfl) (by kernel_rfl) (fun _ _ _ h => h) (Or.inl ⟨by kernel_rfl, ?y12_18⟩) (by assumption) ?r12_18
            case y12_18 => (intro W hSW; (try dsimp only at hSW); go_simp; (try with_reducible rfl))
            change wpAnyH _ _ _ _ _ _ _ (Act.put _ (some 39) _) _
            (try simp only [Act.put, List.setIfInBounds_toArray, List.set_cons_zero, List.set_cons_succ])
            refine wpAnyH_take (i := 19) (v := ?v12_19) rfl (by kernel_rfl) (by kernel_rfl) (by kernel_rfl) (fun _ _ _ h => h) (Or.inl ⟨by kernel_rfl, ?y12_19⟩) (by assumption) ?r12_19
            case y12_19 => (intro W hSW; (try dsimp only at hSW); go_simp; (try with_reducible rfl))
            change wpAnyH _ _ _ _ _ _ _ (Act.put _ (some 40) _) _
            (try simp only [Act.put, List.setIfInBounds_toArray, List.set_cons_zero, List.set_cons_succ])
            refine wpAnyH_take (i := 20) (v := ?v12_20) rfl (by kernel_rfl) (by kernel_rfl) (by kernel_rfl) (fun _ _ _ h => h) (Or.inl ⟨by kernel_rfl, ?y12_20⟩) (by assumption) ?r12_20
            case y12_20 => (intro W hSW; (try dsimp only at hSW); go_simp; (try with_reducible rfl))
            change wpAnyH _ _ _ _ _ _ _ (Act.put _ (some 41) _) _
            (try simp only [Act.put, List.setIfInBounds_toArray, List.set_cons_zero, List.set_cons_succ])
            refine wpAnyH_take (i := 21) (v := ?v12_21) rfl (by kernel_rfl) (by kernel_rfl) (by kernel_rfl) (fun _ _ _ h => h) (Or.inl ⟨by kernel_rfl, ?y12_21⟩) (by assumption) ?r12_21
            case y12_21 => (intro W hSW; (try dsimp only at hSW); go_simp; (try with_reducible rfl))
            change wpAnyH _ _ _ _ _ _ _ (Act.put _ (some 42) _) _
            (try simp only [Act.put, List.setIfInBounds_toArray, List.set_cons_zero, List.set_cons_succ])
            refine wpAnyH_take (i := 22) (v := ?v12_22) rfl (by kernel_rfl) (by kernel_rfl) (by kernel_rfl) (fun _ _ _ h => h) (Or.inl ⟨by kernel_rfl, ?y12_22⟩) (by assumption) ?r12_22
            case y12_22 => (intro W hSW; (try dsimp only at hSW); go_simp; (try with_reducible rfl))
            change wpAnyH _ _ _ _ _ _ _ (Act.put _ (some 43) _) _
            (try simp only [Act.put, List.setIfInBounds_toArray, List.set_cons_zero, List.set_cons_succ])
            refine wpAnyH_ready (rs := [23]) (by kernel_rfl) (by simp) ?_
            refine AllReadyH.cons rfl (fun K hK => ?_) AllReadyH.nil
            rw [if_pos (by rfl)]
            go_simp
            refine (within_any _ _ _ _).mono ?_
            rintro e w1 ⟨rfl, hb1⟩
            clear hb hl c0 c1 c2 c3 c4 c5 d0 d1 f0 f1 hg hHeld
            replace hS := hS.below hb1
            clear hb1
            obtain ⟨hb, ⟨hl, c0, c1, c2, c3, c4, c5⟩, hg⟩ := id hS
            dsimp only at c0 c1 c2 c3 c4 c5
            have d0 := hg.d 4 1 rfl
            have d1 := hg.d 5 8 rfl
            have f0 := hg.f 16 0 rfl
            have f1 := hg.f 17 0 rfl
            (first | rw [h1.out] | rw [h2.out] | rw [h3.out])
            go_wp2_with fail
            refine hK.out _ _ (⟨c1, c2, c3, c4, c5, d0, d1, f0, f1⟩) (fun hHeld => ?_)
            clear hK K
            (try simp only [Act.put, List.setIfInBounds_toArray, List.set_cons_zero, List.set_cons_succ])
            refine wpAnyH_take (i := 24) (v := ?v12_24) rfl (by kernel_rfl) (by kernel_rfl) (by kernel_rfl) (fun _ _ _ h => h) (Or.inl ⟨by kernel_rfl, ?y12_24⟩) (by assumption) ?r12_24
            case y12_24 => (intro W hSW; (try dsimp only at hSW); go_simp; (try with_reducible rfl))
            change wpAnyH _ _ _ _ _ _ _ (Act.put _ (some 45) _) _
            (try simp only [Act.put, List.setIfInBounds_toArray, List.set_cons_zero, List.set_cons_succ])
            refine wpAnyH_take (i := 25) (v := ?v12_25) rfl (by kernel_rfl) (by kernel_rfl) (by kernel_rfl) (fun _ _ _ h => h) (Or.inl ⟨by kernel_rfl, ?y12_25⟩) (by assumption) ?r12_25
            case y12_25 => (intro W hSW; (try dsimp only at hSW); go_simp; (try with_reducible rfl))
            change wpAnyH _ _ _ _ _ _ _ (Act.put _ (some 2) _) _
            (try simp only [Act.put, List.setIfInBounds_toArray, List.set_cons_zero, List.set_cons_succ])
            refine wpAnyH_done (by kernel_rfl) ?_ _
            go_wp2_with fail
            go_ret
            exact ⟨by rw [HK.out]; rfl, hb⟩
    · have H : Hid (PortB ⟨part, kind, dir, size, depth, fresh⟩ = false) := by
        show _ = _
        unfold PortB
        simp
        intro _ h
        exact absurd h hd
      obtain ⟨hb, ⟨hl, c0, c1, c2, c3, c4, c5⟩, hg⟩ := id hS
      dsimp only at c0 c1 c2 c3 c4 c5
      have d1 : (dir != 1) = true := by simp; exact fun e => hd (.inl e)
      have d2 : (dir != 2) = true := by simp; exact fun e => hd (.inr e)
      clear hd
      rcases hk with rfl | rfl
      all_goals
        go_wp2
        go_ret
        exact ⟨by rw [H.out]; rfl, hb⟩
  · have H : Hid (PortB ⟨part, kind, dir, size, depth, fresh⟩ = false) := by
      show _ = _
      unfold PortB
      simp
      intro h
      exact absurd h hk
    obtain ⟨hb, ⟨hl, c0, c1, c2, c3, c4, c5⟩, hg⟩ := id hS
    dsimp only at c0 c1 c2 c3 c4 c5
    have k1 : (kind != 1) = true := by simp; exact fun e => hk (.inl e)
    have k2 : (kind != 2) = true := by simp; exact fun e => hk (.inr e)
    clear hk
    go_wp2
    go_ret
    exact ⟨by rw [H.out]; rfl, hb⟩
end Go.Proofs.YtmckidepbibpgaaGreatDoor
