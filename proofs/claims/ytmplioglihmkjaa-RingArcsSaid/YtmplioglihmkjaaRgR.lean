/-
  Whether a place is in an arc, and whether two arcs meet: the program's own.
-/
import Derived.Test.YtmplioglihmkjaaRgF
namespace Go.Proofs.Ytmplioglihmkjaa
open Go.RowKit Go.Shelf
set_option linter.unusedVariables false
set_option linter.unusedSimpArgs false

/-- an arc, as numbers that are not below 0 -/
def tA (a : Ai) : Ar := (a.1.toNat, a.2.toNat)
theorem okB_t {n : Nat} {a : Ai} (h : okB n a = true) : okA n (tA a) ∧ a = (((tA a).1 : Int), ((tA a).2 : Int)) := by
  obtain ⟨f, g⟩ := a
  have hp : 0 ≤ f ∧ f < (n : Int) ∧ 0 ≤ g ∧ g ≤ (n : Int) := of_decide_eq_true h
  unfold okA tA
  dsimp only
  refine ⟨⟨by omega, by omega⟩, ?_⟩
  rw [Int.toNat_of_nonneg hp.1, Int.toNat_of_nonneg hp.2.2.1]
abbrev arcN (a : Ar) : Value := .agg #[.int .i64 (a.1 : Nat), .int .i64 (a.2 : Nat)]
theorem stp_nat {n f p : Nat} (hf : f < n) (hp : p < n) : stp (f : Int) (p : Int) (n : Int) = (((p + n - f) % n : Nat) : Int) := by
  rw [stp_eq (by omega) (by omega), back_eq hf hp]
  split <;> split <;> omega

set_option maxHeartbeats 1000000 in
theorem has_at (a : Ar) (p n : Nat) (ha : a.1 < n) (hp : p < n) (hn : n ≤ 1048576) (w : World) :
    Calls Try.prog 44 #[arcN a, .int .i64 p, .int .i64 n] w fun e w' => e = .returned (.bool (inA n a p)) ∧ Below w.heap.size w w' := by
  obtain ⟨f, g⟩ := a
  show Calls Try.prog 44 #[.agg #[.int .i64 (f : Nat), .int .i64 (g : Nat)], .int .i64 p, .int .i64 n] w _
  have ha : f < n := ha
  have HS := hide (fun W => steps_at f p n (by omega) (by omega) (by omega) (by omega) W)
  rw [stp_nat ha hp] at HS
  have H : Hid (inA n (f, g) p = decide ((p + n - f) % n < g)) := rfl
  generalize (p + n - f) % n = s at *
  have HC := hide (show decide ((s : Int) < (g : Int)) = decide (s < g) by simp)
  go_enter Try.func44, Try.ntmps44
  go_wp2_with fail
  have c0 : (w.alloc (.cells #[.int .i64 f, .int .i64 g] 41)).cell? ⟨w.heap.size, 0, none⟩ = some (.int .i64 f) := by rw [cell_of_row _ _ _ _ _ _ (heap_alloc_new w _)]; rfl
  have c1 : (w.alloc (.cells #[.int .i64 f, .int .i64 g] 41)).cell? ⟨w.heap.size, 1, none⟩ = some (.int .i64 g) := by rw [cell_of_row _ _ _ _ _ _ (heap_alloc_new w _)]; rfl
  have HB : Hid (Below w.heap.size w (w.alloc (.cells #[.int .i64 f, .int .i64 g] 41))) := bal w _
  generalize w.alloc (.cells #[.int .i64 f, .int .i64 g] 41) = wa at *
  have HS0 : Hid ((fun w' => w'.cell? ⟨w.heap.size, 0, none⟩ = some (.int .i64 f) ∧ w'.cell? ⟨w.heap.size, 1, none⟩ = some (.int .i64 g) ∧ Below w.heap.size w w') wa.drew) := ⟨c0, c1, below_drew HB.out⟩
  have HKp : Hid (∀ (V V' : World), (fun w' => w'.cell? ⟨w.heap.size, 0, none⟩ = some (.int .i64 f) ∧ w'.cell? ⟨w.heap.size, 1, none⟩ = some (.int .i64 g) ∧ Below w.heap.size w w') V → V = V' → (fun w' => w'.cell? ⟨w.heap.size, 0, none⟩ = some (.int .i64 f) ∧ w'.cell? ⟨w.heap.size, 1, none⟩ = some (.int .i64 g) ∧ Below w.heap.size w w') V') := fun V V' h e => e ▸ h
  go_wp2_with fail
  refine wp_region_held_drew (S := fun w' => w'.cell? ⟨w.heap.size, 0, none⟩ = some (.int .i64 f) ∧ w'.cell? ⟨w.heap.size, 1, none⟩ = some (.int .i64 g) ∧ Below w.heap.size w w') (by kernel_rfl) (by (first | exact HKp.out _ _ hHeld hb1 | exact HS0.out)) (fun hHeld => ?_)
  refine wpAnyH_take (i := 0) (v := ?v1_0) rfl (by kernel_rfl) (by kernel_rfl) (by kernel_rfl) (fun _ _ _ h => h) (Or.inl ⟨by kernel_rfl, ?y1_0⟩) (by assumption) ?r1_0
  case y1_0 => (intro W hSW; (try dsimp only at hSW); go_simp; (try with_reducible rfl))
  change wpAnyH _ _ _ _ _ _ _ (Act.put _ (some 7) _) _
  (try simp only [Act.put, List.setIfInBounds_toArray, List.set_cons_zero, List.set_cons_succ])
  refine wpAnyH_take (i := 1) (v := ?v1_1) rfl (by kernel_rfl) (by kernel_rfl) (by kernel_rfl) (fun _ _ _ h => h) (Or.inl ⟨by kernel_rfl, ?y1_1⟩) (by assumption) ?r1_1
  case y1_1 => (intro W hSW; (try dsimp only at hSW); go_simp; (try with_reducible rfl))
  change wpAnyH _ _ _ _ _ _ _ (Act.put _ (some 8) _) _
  (try simp only [Act.put, List.setIfInBounds_toArray, List.set_cons_zero, List.set_cons_succ])
  refine wpAnyH_take (i := 2) (v := ?v1_2) rfl (by kernel_rfl) (by kernel_rfl) (by kernel_rfl) (fun _ _ _ h => h) (Or.inl ⟨by kernel_rfl, ?y1_2⟩) (by assumption) ?r1_2
  case y1_2 => (intro W hSW; (try dsimp only at hSW); go_simp; (try with_reducible rfl))
  change wpAnyH _ _ _ _ _ _ _ (Act.put _ (some 9) _) _
  (try simp only [Act.put, List.setIfInBounds_toArray, List.set_cons_zero, List.set_cons_succ])
  refine wpAnyH_take (i := 3) (v := ?v1_3) rfl (by kernel_rfl) (by kernel_rfl) (by kernel_rfl) (fun _ _ _ h => h) (Or.inl ⟨by kernel_rfl, ?y1_3⟩) (by assumption) ?r1_3
  case y1_3 => (intro W hSW; (try dsimp only at hSW); go_simp; (try with_reducible rfl))
  change wpAnyH _ _ _ _ _ _ _ (Act.put _ (some 10) _) _
  (try simp only [Act.put, List.setIfInBounds_toArray, List.set_cons_zero, List.set_cons_succ])
  refine wpAnyH_take (i := 5) (v := ?v1_5) rfl (by kernel_rfl) (by kernel_rfl) (by kernel_rfl) (fun _ _ _ h => h) (Or.inl ⟨by kernel_rfl, ?y1_5⟩) (by assumption) ?r1_5
  case y1_5 => (intro W hSW; (try dsimp only at hSW); go_simp; (try with_reducible rfl))
  change wpAnyH _ _ _ _ _ _ _ (Act.put _ (some 12) _) _
  (try simp only [Act.put, List.setIfInBounds_toArray, List.set_cons_zero, List.set_cons_succ])
  refine wpAnyH_take (i := 6) (v := ?v1_6) rfl (by kernel_rfl) (by kernel_rfl) (by kernel_rfl) (fun _ _ _ h => h) (Or.inl ⟨by kernel_rfl, ?y1_6⟩) (by assumption) ?r1_6
  case y1_6 => (intro W hSW; (try dsimp only at hSW); go_simp; (try with_reducible rfl))
  change wpAnyH _ _ _ _ _ _ _ (Act.put _ (some 13) _) _
  (try simp only [Act.put, List.setIfInBounds_toArray, List.set_cons_zero, List.set_cons_succ])
  refine wpAnyH_ready (rs := [4]) (by kernel_rfl) (by simp) ?_
  refine AllReadyH.cons rfl (fun K hK => ?_) AllReadyH.nil
  rw [if_pos (by rfl)]
  go_simp
  refine (HS.out _).mono ?_
  rintro e w5 ⟨rfl, hb1⟩
  go_simp
  refine hK.out _ _ (by (first | exact HKp.out _ _ hHeld hb1 | exact HS0.out)) (fun hHeld => ?_)
  clear hK K
  (try simp only [Act.put, List.setIfInBounds_toArray, List.set_cons_zero, List.set_cons_succ])
  refine wpAnyH_take (i := 7) (v := ?v1_7) rfl (by kernel_rfl) (by kernel_rfl) (by kernel_rfl) (fun _ _ _ h => h) (Or.inl ⟨by kernel_rfl, ?y1_7⟩) (by assumption) ?r1_7
  case y1_7 => (intro W hSW; (try dsimp only at hSW); go_simp; (try with_reducible rfl))
  change wpAnyH _ _ _ _ _ _ _ (Act.put _ (some 14) _) _
  (try simp only [Act.put, List.setIfInBounds_toArray, List.set_cons_zero, List.set_cons_succ])
  refine wpAnyH_take (i := 8) (v := ?v1_8) rfl (by kernel_rfl) (by kernel_rfl) (by kernel_rfl) (fun _ _ _ h => h) (Or.inl ⟨by kernel_rfl, ?y1_8⟩) (by assumption) ?r1_8
  case y1_8 => (intro W hSW; (try dsimp only at hSW); go_simp; (try with_reducible rfl))
  change wpAnyH _ _ _ _ _ _ _ (Act.put _ (some 6) _) _
  (try simp only [Act.put, List.setIfInBounds_toArray, List.set_cons_zero, List.set_cons_succ])
  refine wpAnyH_done (by kernel_rfl) ?_ _
  obtain ⟨_, _, hbw⟩ := hHeld
  go_wp2_with fail
  go_ret
  exact ⟨by rw [H.out, ← HC.out]; rfl, hbw⟩

def meetV (a b : Ai) (n : Int) : Value := if ringB n && okB n a && okB n b then .tuple #[.bool (meetB n.toNat (tA a) (tA b)), .int .i64 0] else .tuple #[.bool false, .int .i64 130]
/-- two arcs that lie in blocks of the call's own -/
structure Two (w W : World) (a b : Ai) : Prop where
  bel : Below w.heap.size w W
  ra : W.heap[w.heap.size]? = some (.cells #[.int .i64 a.1, .int .i64 a.2] 41 (0, 0))
  rb : W.heap[w.heap.size + 1]? = some (.cells #[.int .i64 b.1, .int .i64 b.2] 41 (0, 0))
theorem Two.on {w W W' : World} {a b : Ai} (h : Two w W a b) (hb : Below W.heap.size W W') : Two w W' a b :=
  ⟨h.bel.trans (hb.mono h.bel.size), (hb.block _ (Array.getElem?_eq_some_iff.1 h.ra).1).trans h.ra, (hb.block _ (Array.getElem?_eq_some_iff.1 h.rb).1).trans h.rb⟩
theorem Two.cells {w W : World} {a b : Ai} (h : Two w W a b) : W.cell? ⟨w.heap.size, 0, none⟩ = some (.int .i64 a.1) ∧ W.cell? ⟨w.heap.size, 1, none⟩ = some (.int .i64 a.2) ∧ W.cell? ⟨w.heap.size + 1, 0, none⟩ = some (.int .i64 b.1) ∧ W.cell? ⟨w.heap.size + 1, 1, none⟩ = some (.int .i64 b.2) := by
  refine ⟨?_, ?_, ?_, ?_⟩
  · rw [cell_of_row _ _ _ _ _ _ h.ra]; rfl
  · rw [cell_of_row _ _ _ _ _ _ h.ra]; rfl
  · rw [cell_of_row _ _ _ _ _ _ h.rb]; rfl
  · rw [cell_of_row _ _ _ _ _ _ h.rb]; rfl

set_option maxHeartbeats 2000000 in
theorem Meet_at (a b : Ai) (n : Int) (w : World) :
    Calls Try.prog 24 #[arcV a, arcV b, .int .i64 n] w fun e w' => e = .returned (meetV a b n) ∧ Below w.heap.size w w' := by
  obtain ⟨f, g⟩ := a
  obtain ⟨x, y⟩ := b
  show Calls Try.prog 24 #[.agg #[.int .i64 f, .int .i64 g], .agg #[.int .i64 x, .int .i64 y], .int .i64 n] w _
  have HA := hide (fun W => isArc_at (f, g) n W)
  have HB := hide (fun W => isArc_at (x, y) n W)
  have HR := hide (fun W => isRing_at n W)
  have HT : Hid (Two w ((w.alloc (.cells #[.int .i64 f, .int .i64 g] 41)).alloc (.cells #[.int .i64 x, .int .i64 y] 41)) (f, g) (x, y)) :=
    ⟨(bal w _).alloc (by simp) _, heap_alloc2_old w _ _, heap_alloc2_new w _ _⟩
  cases hr : ringB n with
  | false =>
    have HV := hide (show meetV (f, g) (x, y) n = .tuple #[.bool false, .int .i64 130] by simp [meetV, hr])
    rw [hr] at HR
    clear hr
    go_enter Try.func24, Try.ntmps24
    go_wp2_with fail
    generalize (w.alloc (.cells #[.int .i64 f, .int .i64 g] 41)).alloc (.cells #[.int .i64 x, .int .i64 y] 41) = V0 at *
    refine (HR.out _).mono ?_
    rintro e w' ⟨rfl, rfl⟩
    go_wp2_with fail
    go_ret2
    exact ⟨by rw [HV.out]; rfl, HT.out.bel⟩
  | true =>
  rw [hr] at HR
  cases ho : okB n (f, g) with
  | false =>
    have HV := hide (show meetV (f, g) (x, y) n = .tuple #[.bool false, .int .i64 130] by simp [meetV, ho])
    rw [ho] at HA
    clear hr ho
    go_enter Try.func24, Try.ntmps24
    go_wp2_with fail
    obtain ⟨c0, c1, c2, c3⟩ := HT.out.cells
    generalize (w.alloc (.cells #[.int .i64 f, .int .i64 g] 41)).alloc (.cells #[.int .i64 x, .int .i64 y] 41) = V0 at *
    refine (HR.out _).mono ?_
    rintro e w' ⟨rfl, rfl⟩
    dsimp only at c0 c1 c2 c3
    go_wp2_with fail
    refine (HA.out _).mono ?_
    rintro e V1 ⟨rfl, hb1⟩
    replace HT := hide (HT.out.on hb1)
    go_wp2_with fail
    go_ret2
    exact ⟨by rw [HV.out]; rfl, HT.out.bel⟩
  | true =>
  rw [ho] at HA
  cases hq : okB n (x, y) with
  | false =>
    have HV := hide (show meetV (f, g) (x, y) n = .tuple #[.bool false, .int .i64 130] by simp [meetV, hq])
    rw [hq] at HB
    clear hr ho hq
    go_enter Try.func24, Try.ntmps24
    go_wp2_with fail
    obtain ⟨c0, c1, c2, c3⟩ := HT.out.cells
    generalize (w.alloc (.cells #[.int .i64 f, .int .i64 g] 41)).alloc (.cells #[.int .i64 x, .int .i64 y] 41) = V0 at *
    refine (HR.out _).mono ?_
    rintro e w' ⟨rfl, rfl⟩
    dsimp only at c0 c1 c2 c3
    go_wp2_with fail
    refine (HA.out _).mono ?_
    rintro e V1 ⟨rfl, hb1⟩
    replace HT := hide (HT.out.on hb1)
    clear hb1 c0 c1 c2 c3
    obtain ⟨c0, c1, c2, c3⟩ := HT.out.cells
    dsimp only at c0 c1 c2 c3
    go_wp2_with fail
    refine (HB.out _).mono ?_
    rintro e V2 ⟨rfl, hb1⟩
    replace HT := hide (HT.out.on hb1)
    go_wp2_with fail
    go_ret2
    exact ⟨by rw [HV.out]; rfl, HT.out.bel⟩
  | true =>
  rw [hq] at HB
  obtain ⟨r1, r2⟩ := ringB_t hr
  obtain ⟨N, rfl⟩ := Int.eq_ofNat_of_zero_le (show 0 ≤ n by omega)
  obtain ⟨⟨k1, k2⟩, e1⟩ := okB_t ho
  obtain ⟨⟨k3, k4⟩, e2⟩ := okB_t hq
  have HV := hide (show meetV (f, g) (x, y) N = .tuple #[.bool (meetB N (tA (f, g)) (tA (x, y))), .int .i64 0] by simp [meetV, hq, hr, ho])
  generalize tA (f, g) = a at *
  generalize tA (x, y) = b at *
  obtain ⟨F, G⟩ := a
  obtain ⟨X, Y⟩ := b
  simp only [Prod.mk.injEq] at e1 e2
  obtain ⟨rfl, rfl⟩ := e1
  obtain ⟨rfl, rfl⟩ := e2
  dsimp only at k1 k2 k3 k4
  have HH1 := hide (fun W => has_at (X, Y) F N k3 k1 (by omega) W)
  have HH2 := hide (fun W => has_at (F, G) X N k1 k3 (by omega) W)
  have HM := hide (show meetB N (F, G) (X, Y) = (decide (0 < G) && inA N (X, Y) F || decide (0 < Y) && inA N (F, G) X) from rfl)
  generalize inA N (X, Y) F = m1 at *
  generalize inA N (F, G) X = m2 at *
  generalize meetB N (F, G) (X, Y) = m at *
  clear hr ho hq
  go_enter Try.func24, Try.ntmps24
  go_wp2_with fail
  obtain ⟨c0, c1, c2, c3⟩ := HT.out.cells
  generalize (w.alloc (.cells #[.int .i64 F, .int .i64 G] 41)).alloc (.cells #[.int .i64 X, .int .i64 Y] 41) = V0 at *
  refine (HR.out _).mono ?_
  rintro e w' ⟨rfl, rfl⟩
  dsimp only at c0 c1 c2 c3
  go_wp2_with fail
  refine (HA.out _).mono ?_
  rintro e V1 ⟨rfl, hb1⟩
  replace HT := hide (HT.out.on hb1)
  clear hb1 c0 c1 c2 c3
  obtain ⟨c0, c1, c2, c3⟩ := HT.out.cells
  dsimp only at c0 c1 c2 c3
  go_wp2_with fail
  refine (HB.out _).mono ?_
  rintro e V2 ⟨rfl, hb1⟩
  replace HT := hide (HT.out.on hb1)
  clear hb1 c0 c1 c2 c3
  obtain ⟨c0, c1, c2, c3⟩ := HT.out.cells
  dsimp only at c0 c1 c2 c3
  by_cases hG : 0 < G
  · go_wp2_with fail
    refine (HH1.out _).mono ?_
    rintro e V3 ⟨rfl, hb1⟩
    replace HT := hide (HT.out.on hb1)
    clear hb1 c0 c1 c2 c3
    obtain ⟨c0, c1, c2, c3⟩ := HT.out.cells
    dsimp only at c0 c1 c2 c3
    cases m1 with
    | true =>
      have HE := hide (show m = true by rw [HM.out]; simp [hG])
      go_wp2_with fail
      go_ret2
      exact ⟨by rw [HV.out, HE.out]; rfl, HT.out.bel⟩
    | false =>
      have hm : (decide (0 < G) && false) = false := by simp
      by_cases hY : 0 < Y
      · have HE := hide (show m = m2 by rw [HM.out]; simp [hY, hm])
        clear hm
        go_wp2_with fail
        refine (HH2.out _).mono ?_
        rintro e V3 ⟨rfl, hb1⟩
        replace HT := hide (HT.out.on hb1)
        clear hb1 c0 c1 c2 c3
        obtain ⟨c0, c1, c2, c3⟩ := HT.out.cells
        dsimp only at c0 c1 c2 c3
        go_wp2_with fail
        go_ret2
        exact ⟨by rw [HV.out, HE.out]; rfl, HT.out.bel⟩
      · have HE := hide (show m = false by rw [HM.out]; simp [hY, hm])
        clear hm
        go_wp2_with fail
        go_ret2
        exact ⟨by rw [HV.out, HE.out]; rfl, HT.out.bel⟩
  · have hm : (decide (0 < G) && m1) = false := by simp [hG]
    by_cases hY : 0 < Y
    · have HE := hide (show m = m2 by rw [HM.out]; simp [hY, hm])
      clear hm
      go_wp2_with fail
      refine (HH2.out _).mono ?_
      rintro e V3 ⟨rfl, hb1⟩
      replace HT := hide (HT.out.on hb1)
      clear hb1 c0 c1 c2 c3
      obtain ⟨c0, c1, c2, c3⟩ := HT.out.cells
      dsimp only at c0 c1 c2 c3
      go_wp2_with fail
      go_ret2
      exact ⟨by rw [HV.out, HE.out]; rfl, HT.out.bel⟩
    · have HE := hide (show m = false by rw [HM.out]; simp [hY, hm])
      clear hm
      go_wp2_with fail
      go_ret2
      exact ⟨by rw [HV.out, HE.out]; rfl, HT.out.bel⟩
end Go.Proofs.Ytmplioglihmkjaa
