/-
  What the program asks of a configuration's clocks.
-/
import Derived.Test.YtmckidepbibpgaaGreatDoorChkA
import Derived.Deep.LoopGhost
import Derived.Deep.DeepCutAuto
import Derived.Deep.CutBlock
import Derived.Deep.RegionWith
namespace Go.Proofs.YtmckidepbibpgaaGreatDoor
open Go.RowKit Go.Deep
set_option linter.unusedVariables false

def precF (c : Conf) : Int := 2 * (c.drift + c.reading) + 1
set_option maxRecDepth 100000 in
set_option maxHeartbeats 1000000 in
theorem precision_any (c : Conf) (d : Ad) (w : World) (h1 : 0 ≤ c.drift) (h2 : c.drift ≤ 1048576) (h3 : 0 ≤ c.reading) (h4 : c.reading ≤ 1048576) :
    Calls Tryz.prog 222 #[c.val d] w fun e w' => e = .returned (.int .i64 (precF c)) ∧ Below w.heap.size w w' := by
  have H : Hid (precF c = 2 * (c.drift + c.reading) + 1) := rfl
  unfold Conf.val
  go_enter Tryz.func222, Tryz.ntmps222
  go_wp2
  go_ret
  exact ⟨by rw [H.out]; rfl, (Below.refl _ _).alloc (Nat.le_refl _) _⟩

/-- the second row -/
def ClockK (c : Conf) : Bool := inB c.drift 0 1048576 && inB c.reading 0 1048576 && inB c.margin (2 * precF c + c.reading) 16777216 && inB c.bound (2 * precF c + c.reading) 16777216 && inB c.rejoin 1 8 && inB c.quota 1 16


/-- two numbers in a block of a function's own -/
structure Bd (w : World) (b : Nat) (x y : Int) : Prop where
  lt : b < w.heap.size
  c0 : w.cell? ⟨b, 0, none⟩ = some (.int .i64 x)
  c1 : w.cell? ⟨b, 1, none⟩ = some (.int .i64 y)
theorem Bd.below {w w' : World} {b B : Nat} {x y : Int} (h : Bd w b x y) (hb : Below B w w') (hB : w.heap.size ≤ B) : Bd w' b x y :=
  ⟨Nat.lt_of_lt_of_le h.lt hb.size, cell_below hb hB h.lt h.c0, cell_below hb hB h.lt h.c1⟩
theorem bd_new (w : World) (x y : Int) (t : TypeId) : Bd (w.alloc (.cells #[.int .i64 x, .int .i64 y] t)) w.heap.size x y := by
  have h : ∀ k v, (#[.int .i64 x, .int .i64 y] : Array Value)[k]? = some v → (w.alloc (.cells #[.int .i64 x, .int .i64 y] t)).cell? ⟨w.heap.size, k, none⟩ = some v := fun k v hv => by
    unfold World.cell?
    rw [heap_alloc_new]
    exact hv
  exact ⟨alloc_lt w _, h 0 _ rfl, h 1 _ rfl⟩

/-- what stands while clocks are looked at -/
structure ClkS (w W : World) (c : Conf) (d : Ad) : Prop where
  b : Below w.heap.size w W
  x : Boxed W w.heap.size c d
  m : Bd W (w.heap.size + 1) 0 1048576
theorem ClkS.below {w W W' : World} {c : Conf} {d : Ad} (h : ClkS w W c d) (hb : Below W.heap.size W W') : ClkS w W' c d :=
  ⟨h.b.trans (hb.mono h.b.size), h.x.below hb (Nat.le_refl _), h.m.below hb (Nat.le_refl _)⟩
theorem ClkS.first (w : World) (c : Conf) (d : Ad) (t u : TypeId) : ClkS w ((w.alloc (.cells (c.cells d) t)).alloc (.cells #[.int .i64 0, .int .i64 1048576] u)) c d := by
  have h1 := (Below.refl w.heap.size w).alloc (Nat.le_refl _) (.cells (c.cells d) t)
  have h2 := (Below.refl (w.alloc (.cells (c.cells d) t)).heap.size (w.alloc (.cells (c.cells d) t))).alloc (Nat.le_refl _) (.cells #[.int .i64 0, .int .i64 1048576] u)
  have hm := bd_new (w.alloc (.cells (c.cells d) t)) 0 1048576 u
  rw [show (w.alloc (.cells (c.cells d) t)).heap.size = w.heap.size + 1 from Array.size_push _] at hm
  exact ⟨h1.trans (h2.mono (Nat.le_of_lt (alloc_lt w _))), (boxed_new w c d t).below h2 (Nat.le_refl _), hm⟩

theorem zero_new (w1 w2 : World) (t : TypeId) (hb : Below (w1.drew.alloc (.cells #[.int .i64 0, .int .i64 0] t)).heap.size (w1.drew.alloc (.cells #[.int .i64 0, .int .i64 0] t)) w2) :
    w2.cell? ⟨w1.heap.size, 0, none⟩ = some (.int .i64 0) ∧ w2.cell? ⟨w1.heap.size, 1, none⟩ = some (.int .i64 0) ∧ w2.frozen? ⟨w1.heap.size, 0, none⟩ = false ∧ w2.frozen? ⟨w1.heap.size, 1, none⟩ = false ∧ w1.heap.size < w2.heap.size ∧ Below w1.heap.size w1 w2 := by
  have hlt := alloc_lt w1.drew (.cells #[.int .i64 0, .int .i64 0] t)
  have hbl := hb.block w1.heap.size hlt
  have hn : (w1.drew.alloc (.cells #[.int .i64 0, .int .i64 0] t)).heap[w1.heap.size]? = some (.cells #[.int .i64 0, .int .i64 0] t) := heap_alloc_new w1.drew _
  have hh := hbl.trans hn
  refine ⟨?_, ?_, ?_, ?_, Nat.lt_of_lt_of_le hlt hb.size, ((Below.refl _ _).drew.alloc (Nat.le_refl _) _).trans (hb.mono (Nat.le_of_lt hlt))⟩
  · simp [World.cell?, hh]
  · simp [World.cell?, hh]
  · simp [World.frozen?, hh]
  · simp [World.frozen?, hh]

theorem clk_newA {w w2 : World} {c : Conf} {d : Ad} {x y z : Int} {t : TypeId} (hS : ClkS w w2 c d) (hz : z = x) :
    ∃ b4, Value.pointer (some ⟨w2.heap.size, 0, none⟩) = .pointer (some ⟨b4, 0, none⟩) ∧ ClkS w (w2.alloc (.cells #[.int .i64 z, .int .i64 y] t)) c d ∧ Bd (w2.alloc (.cells #[.int .i64 z, .int .i64 y] t)) b4 x y := by
  subst hz
  exact ⟨_, rfl, hS.below ((Below.refl _ _).alloc (Nat.le_refl _) _), bd_new _ _ _ _⟩
theorem set_new {w : World} {b : Nat} {x y u v : Int} (hb : b < w.heap.size) (z0 : w.cell? ⟨b, 0, none⟩ = some (.int .i64 u)) (z1 : w.cell? ⟨b, 1, none⟩ = some (.int .i64 v)) :
    Bd ((w.setCell ⟨b, 0, none⟩ (.int .i64 x)).setCell ⟨b, 1, none⟩ (.int .i64 y)) b x y := by
  have hs : ∀ (w : World) (a : Addr) (v : Value), (w.setCell a v).heap.size = w.heap.size := fun w a v => by simp [World.setCell]
  refine ⟨by rw [hs, hs]; exact hb, ?_, ?_⟩
  · exact (World.cell?_setCell_other (w := w.setCell ⟨b, 0, none⟩ (.int .i64 x)) (a := ⟨b, 1, none⟩) (b := ⟨b, 0, none⟩) (v := .int .i64 y) (by simp)).trans (World.cell?_setCell_same _ _ _ (u := .int .i64 u) z0)
  · exact World.cell?_setCell_same _ _ _ (u := .int .i64 v) ((World.cell?_setCell_other (w := w) (a := ⟨b, 0, none⟩) (b := ⟨b, 1, none⟩) (v := .int .i64 x) (by simp)).trans z1)
theorem clk_newB {w w1 w2 : World} {c : Conf} {d : Ad} {x y z u v : Int} (hS : ClkS w w2 c d) (hk : w.heap.size + 1 < w1.heap.size) (hl : w1.heap.size < w2.heap.size) (z0 : w2.cell? ⟨w1.heap.size, 0, none⟩ = some (.int .i64 u)) (z1 : w2.cell? ⟨w1.heap.size, 1, none⟩ = some (.int .i64 v)) (hz : z = x) :
    ∃ b4, Value.pointer (some ⟨w1.heap.size, 0, none⟩) = .pointer (some ⟨b4, 0, none⟩) ∧ ClkS w ((w2.setCell ⟨w1.heap.size, 0, none⟩ (.int .i64 z)).setCell ⟨w1.heap.size, 1, none⟩ (.int .i64 y)) c d ∧
      Bd ((w2.setCell ⟨w1.heap.size, 0, none⟩ (.int .i64 z)).setCell ⟨w1.heap.size, 1, none⟩ (.int .i64 y)) b4 x y := by
  subst hz
  have hb : Below w1.heap.size w2 ((w2.setCell ⟨w1.heap.size, 0, none⟩ (.int .i64 z)).setCell ⟨w1.heap.size, 1, none⟩ (.int .i64 y)) := Below.setCell (p := ⟨w1.heap.size, 1, none⟩) (Below.setCell (p := ⟨w1.heap.size, 0, none⟩) (Below.refl _ _) (Nat.le_refl _) _) (Nat.le_refl _) _
  have old : ∀ {k o : Nat} {v : Value}, k < w1.heap.size → w2.cell? ⟨k, o, none⟩ = some v → ((w2.setCell ⟨w1.heap.size, 0, none⟩ (.int .i64 z)).setCell ⟨w1.heap.size, 1, none⟩ (.int .i64 y)).cell? ⟨k, o, none⟩ = some v := fun {k o v} hk h => (hb.cell (p := ⟨k, o, none⟩) hk).trans h
  obtain ⟨h1, h2, h3⟩ := hS
  refine ⟨_, rfl, ⟨h1.trans (hb.mono (by omega)), ?_, ?_⟩, set_new hl z0 z1⟩
  · exact ⟨Nat.lt_of_lt_of_le h2.lt hb.size, old (by omega) h2.c0, old (by omega) h2.c1, old (by omega) h2.c2, old (by omega) h2.c3, old (by omega) h2.c4, old (by omega) h2.c5, old (by omega) h2.c6, old (by omega) h2.c7, old (by omega) h2.c8, old (by omega) h2.c9, old (by omega) h2.c10, old (by omega) h2.c11⟩
  · exact ⟨Nat.lt_of_lt_of_le h3.lt hb.size, old (by omega) h3.c0, old (by omega) h3.c1⟩

set_option maxRecDepth 100000 in
set_option maxHeartbeats 1000000 in
theorem clock_any (c : Conf) (d : Ad) (w : World) :
    Calls Tryz.prog 172 #[c.val d] w fun e w' => e = .returned (.bool (ClockK c)) ∧ Below w.heap.size w w' := by
  have hS := ClkS.first w c d 28 316
  unfold Conf.val
  unfold Conf.cells at hS
  obtain ⟨hb, ⟨hl, e0, e1, e2, e3, e4, e5, e6, e7, e8, e9, e10, e11⟩, ⟨hlm, m0, m1⟩⟩ := id hS
  go_enter Tryz.func172, Tryz.ntmps172
  by_cases h1 : inB c.drift 0 1048576 = true
  · by_cases h2 : inB c.reading 0 1048576 = true
    · have H1 := hide h1
      have H2 := hide h2
      simp only [inB, Bool.and_eq_true, decide_eq_true_eq] at h1 h2
      obtain ⟨n1, n2⟩ := h1
      obtain ⟨n3, n4⟩ := h2
      have HP : Hid (precF c = 2 * (c.drift + c.reading) + 1) := rfl
      go_upto_region 4 with (go_at_call 221; refine (within_any _ _ _ _).mono ?_; rintro e w1 ⟨rfl, hb1⟩; clear hb hl e0 e1 e2 e3 e4 e5 e6 e7 e8 e9 e10 e11 hlm m0 m1; replace hS := hS.below hb1; clear hb1; obtain ⟨hb, ⟨hl, e0, e1, e2, e3, e4, e5, e6, e7, e8, e9, e10, e11⟩, ⟨hlm, m0, m1⟩⟩ := id hS; first | rw [H1.out] | rw [H2.out])
      have hk1 := hlm
      go_cut [4] (fun v wc => ∃ b4, v = .pointer (some ⟨b4, 0, none⟩) ∧ ClkS w wc c d ∧ Bd wc b4 (2 * precF c + c.reading) 16777216)
      case first =>
        have HW : Hid (IntKind.i64.wrap (IntKind.i64.wrap (2 * (2 * (c.drift + c.reading) + 1)) + c.reading) = 2 * precF c + c.reading) := by
          show _ = _
          unfold precF
          rw [IntWalk.i64_in (2 * (2 * (c.drift + c.reading) + 1)) (by omega), IntWalk.i64_in _ (by omega)]
        go_region_with (go_at_call 222; refine (precision_any c d _ n1 n2 n3 n4).mono ?_; rintro e w2 ⟨rfl, hb2⟩; (first
          | (have hq : Below w1.heap.size w1 w2 := (Below.refl _ _).drew.trans hb2)
          | (obtain ⟨z0, z1, f0, f1, hz, hq⟩ := zero_new w1 w2 _ hb2)); clear hb2; clear hb hl e0 e1 e2 e3 e4 e5 e6 e7 e8 e9 e10 e11 hlm m0 m1; replace hS := hS.below hq; clear hq; obtain ⟨hb, ⟨hl, e0, e1, e2, e3, e4, e5, e6, e7, e8, e9, e10, e11⟩, ⟨hlm, m0, m1⟩⟩ := id hS; rw [HP.out])
        all_goals (go_wp2_with fail; go_meet)
        all_goals first | exact clk_newA hS HW.out | exact clk_newB hS hk1 hz z0 z1 HW.out | trace_state
      case rest =>
        obtain ⟨b4, rfl, hS4, hB4⟩ := hcut
        have HK : Hid (ClockK c = (inB c.margin (2 * precF c + c.reading) 16777216 && inB c.bound (2 * precF c + c.reading) 16777216 && inB c.rejoin 1 8 && inB c.quota 1 16)) := by
          show _ = _
          unfold ClockK
          rw [H1.out, H2.out, Bool.true_and, Bool.true_and]
        clear hS hb hl e0 e1 e2 e3 e4 e5 e6 e7 e8 e9 e10 e11 hlm m0 m1 hk1 H1 H2 n1 n2 n3 n4 HP
        generalize 2 * precF c + c.reading = least at HK hB4
        obtain ⟨hb, ⟨hl, e0, e1, e2, e3, e4, e5, e6, e7, e8, e9, e10, e11⟩, ⟨hlm, m0, m1⟩⟩ := id hS4
        obtain ⟨hg, g0, g1⟩ := id hB4
        obtain ⟨q1, h1⟩ : ∃ q, inB c.margin least 16777216 = q := ⟨_, rfl⟩
        obtain ⟨q2, h2⟩ : ∃ q, inB c.bound least 16777216 = q := ⟨_, rfl⟩
        obtain ⟨q3, h3⟩ : ∃ q, inB c.rejoin 1 8 = q := ⟨_, rfl⟩
        obtain ⟨q4, h4⟩ : ∃ q, inB c.quota 1 16 = q := ⟨_, rfl⟩
        rw [h1, h2, h3, h4] at HK
        have h1 := hide h1
        have h2 := hide h2
        have h3 := hide h3
        have h4 := hide h4
        cases q1
        · go_wp2_with (go_at_call 221; refine (within_any _ _ _ _).mono ?_; rintro e w1 ⟨rfl, hb1⟩; clear hb hl e0 e1 e2 e3 e4 e5 e6 e7 e8 e9 e10 e11 hlm m0 m1 hg g0 g1; replace hS4 := hS4.below hb1; replace hB4 := hB4.below hb1 (Nat.le_refl _); clear hb1; obtain ⟨hb, ⟨hl, e0, e1, e2, e3, e4, e5, e6, e7, e8, e9, e10, e11⟩, ⟨hlm, m0, m1⟩⟩ := id hS4; obtain ⟨hg, g0, g1⟩ := id hB4; first | rw [h1.out] | rw [h2.out] | rw [h3.out] | rw [h4.out])
          go_ret
          exact ⟨by rw [HK.out]; rfl, hb⟩
        · cases q2
          · go_wp2_with (go_at_call 221; refine (within_any _ _ _ _).mono ?_; rintro e w1 ⟨rfl, hb1⟩; clear hb hl e0 e1 e2 e3 e4 e5 e6 e7 e8 e9 e10 e11 hlm m0 m1 hg g0 g1; replace hS4 := hS4.below hb1; replace hB4 := hB4.below hb1 (Nat.le_refl _); clear hb1; obtain ⟨hb, ⟨hl, e0, e1, e2, e3, e4, e5, e6, e7, e8, e9, e10, e11⟩, ⟨hlm, m0, m1⟩⟩ := id hS4; obtain ⟨hg, g0, g1⟩ := id hB4; first | rw [h1.out] | rw [h2.out] | rw [h3.out] | rw [h4.out])
            go_ret
            exact ⟨by rw [HK.out]; rfl, hb⟩
          · cases q3
            · go_wp2_with (go_at_call 221; refine (within_any _ _ _ _).mono ?_; rintro e w1 ⟨rfl, hb1⟩; clear hb hl e0 e1 e2 e3 e4 e5 e6 e7 e8 e9 e10 e11 hlm m0 m1 hg g0 g1; replace hS4 := hS4.below hb1; replace hB4 := hB4.below hb1 (Nat.le_refl _); clear hb1; obtain ⟨hb, ⟨hl, e0, e1, e2, e3, e4, e5, e6, e7, e8, e9, e10, e11⟩, ⟨hlm, m0, m1⟩⟩ := id hS4; obtain ⟨hg, g0, g1⟩ := id hB4; first | rw [h1.out] | rw [h2.out] | rw [h3.out] | rw [h4.out])
              go_ret
              exact ⟨by rw [HK.out]; rfl, hb⟩
            · go_wp2_with (go_at_call 221; refine (within_any _ _ _ _).mono ?_; rintro e w1 ⟨rfl, hb1⟩; clear hb hl e0 e1 e2 e3 e4 e5 e6 e7 e8 e9 e10 e11 hlm m0 m1 hg g0 g1; replace hS4 := hS4.below hb1; replace hB4 := hB4.below hb1 (Nat.le_refl _); clear hb1; obtain ⟨hb, ⟨hl, e0, e1, e2, e3, e4, e5, e6, e7, e8, e9, e10, e11⟩, ⟨hlm, m0, m1⟩⟩ := id hS4; obtain ⟨hg, g0, g1⟩ := id hB4; first | rw [h1.out] | rw [h2.out] | rw [h3.out] | rw [h4.out])
              go_ret
              exact ⟨by rw [HK.out]; rfl, hb⟩
    · have HK : Hid (ClockK c = false) := by
        show _ = _
        unfold ClockK
        rw [Bool.not_eq_true] at h2
        rw [h2]
        simp
      have H1 := hide h1
      have H2 : Hid (inB c.reading 0 1048576 = false) := Bool.not_eq_true _ ▸ h2
      clear h1 h2
      go_wp2_with (go_at_call 221; refine (within_any _ _ _ _).mono ?_; rintro e w1 ⟨rfl, hb1⟩; clear hb hl e0 e1 e2 e3 e4 e5 e6 e7 e8 e9 e10 e11 hlm m0 m1; replace hS := hS.below hb1; clear hb1; obtain ⟨hb, ⟨hl, e0, e1, e2, e3, e4, e5, e6, e7, e8, e9, e10, e11⟩, ⟨hlm, m0, m1⟩⟩ := id hS; first | rw [H1.out] | rw [H2.out])
      go_ret
      exact ⟨by rw [HK.out]; rfl, hb⟩
  · have HK : Hid (ClockK c = false) := by
      show _ = _
      unfold ClockK
      rw [Bool.not_eq_true] at h1
      rw [h1]
      simp
    have H1 : Hid (inB c.drift 0 1048576 = false) := Bool.not_eq_true _ ▸ h1
    clear h1
    go_wp2_with (go_at_call 221; refine (within_any _ _ _ _).mono ?_; rintro e w1 ⟨rfl, hb1⟩; clear hb hl e0 e1 e2 e3 e4 e5 e6 e7 e8 e9 e10 e11 hlm m0 m1; replace hS := hS.below hb1; clear hb1; obtain ⟨hb, ⟨hl, e0, e1, e2, e3, e4, e5, e6, e7, e8, e9, e10, e11⟩, ⟨hlm, m0, m1⟩⟩ := id hS; rw [H1.out])
    go_ret
    exact ⟨by rw [HK.out]; rfl, hb⟩
end Go.Proofs.YtmckidepbibpgaaGreatDoor
