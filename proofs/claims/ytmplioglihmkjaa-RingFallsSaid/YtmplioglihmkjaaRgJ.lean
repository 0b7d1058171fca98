/-
  The document's Hyper and Falls; RingNumbers' walk.
-/
import Derived.Test.YtmplioglihmkjaaRgI
namespace Go.Proofs.Ytmplioglihmkjaa
open Go.RowKit Go.Shelf
set_option linter.unusedVariables false
set_option linter.unusedSimpArgs false

theorem rbelow_at (b a : Int) (hb : 0 < b) (ha : -8589934592 ≤ a ∧ a ≤ 8589934592) (hb2 : b ≤ 2147483647) (w : World) :
    Calls Try.prog 51 #[.int .i64 b, .int .i64 a] w fun e w' => e = .returned (.int .i64 (cl a b)) ∧ w = w' := by
  have H := hide (cl_t (a := a) hb)
  have hr := cl_rng hb ha
  have hb0 : (b == 0) = false := beq_eq_false_iff_ne.2 (by omega)
  by_cases hc : 0 < a.tmod b
  · have HV := hide (show cl a b = a.tdiv b + 1 from by rw [H.out, if_pos hc])
    rw [HV.out] at hr
    have h1 : -9223372036854775808 ≤ a.tdiv b ∧ a.tdiv b ≤ 9223372036854775807 := by omega
    go_enter Try.func51, Try.ntmps51
    go_wp2
    go_ret
    exact ⟨by rw [HV.out]; rfl, rfl⟩
  · have HV := hide (show cl a b = a.tdiv b from by rw [H.out, if_neg hc])
    rw [HV.out] at hr
    go_enter Try.func51, Try.ntmps51
    go_wp2
    go_ret
    exact ⟨by rw [HV.out]; rfl, rfl⟩

set_option maxHeartbeats 2000000 in
theorem rfalls_at (p o f t : Int) (w : World) :
    Calls Try.prog 32 #[.int .i64 p, .int .i64 o, .int .i64 f, .int .i64 t] w fun e w' => e = .returned (twoV (fallsF p o f t)) ∧ w = w' := by
  by_cases hc : num p ∧ num o ∧ num f ∧ num t ∧ 1 ≤ p
  · obtain ⟨hp, ho, hf, ht, hp1⟩ := hc
    have HV := hide (show fallsF p o f t = (max (cl (t - o) p - cl (f - o) p) 0, 0) from if_pos ⟨⟨hp1, hp.2⟩, ho, hf, ht⟩)
    obtain ⟨p1, p2⟩ := id hp
    obtain ⟨o1, o2⟩ := id ho
    obtain ⟨f1, f2⟩ := id hf
    obtain ⟨t1, t2⟩ := id ht
    have HP := hide (decide_eq_true hp)
    have HO := hide (decide_eq_true ho)
    have HF := hide (decide_eq_true hf)
    have HT := hide (decide_eq_true ht)
    have HU := hide (fun W => rbelow_at p (t - o) (by omega) (by omega) p2 W)
    have HD := hide (fun W => rbelow_at p (f - o) (by omega) (by omega) p2 W)
    have r1 := cl_rng (a := t - o) (b := p) (by omega) (by omega)
    have r2 := cl_rng (a := f - o) (b := p) (by omega) (by omega)
    have HM1 := hide (show t ≤ f → cl (t - o) p ≤ cl (f - o) p from fun h => cl_mono (by omega) (by omega))
    have HM2 := hide (show f ≤ t → cl (f - o) p ≤ cl (t - o) p from fun h => cl_mono (by omega) (by omega))
    generalize cl (t - o) p = x at *
    generalize cl (f - o) p = y at *
    clear hp ho hf ht
    go_enter Try.func32, Try.ntmps32
    go_wp2_with fail
    refine (small_at p _).mono ?_
    rintro e w' ⟨rfl, rfl⟩
    rw [HP.out]
    go_wp2_with fail
    refine (small_at o _).mono ?_
    rintro e w' ⟨rfl, rfl⟩
    rw [HO.out]
    go_wp2_with fail
    refine (small_at f _).mono ?_
    rintro e w' ⟨rfl, rfl⟩
    rw [HF.out]
    go_wp2_with fail
    refine (small_at t _).mono ?_
    rintro e w' ⟨rfl, rfl⟩
    rw [HT.out]
    by_cases hle : t ≤ f
    · have := HM1.out hle
      have HX := hide this
      clear this
      go_wp2_with fail
      go_ret2
      exact ⟨by rw [HV.out]; unfold twoV; dsimp only; rw [show max (x - y) 0 = 0 by have := HX.out; omega]; rfl, rfl⟩
    · have HX := hide (HM2.out (by omega))
      go_wp2_with fail
      refine (HU.out _).mono ?_
      rintro e w' ⟨rfl, rfl⟩
      go_wp2_with fail
      refine (HD.out _).mono ?_
      rintro e w' ⟨rfl, rfl⟩
      go_wp2_with fail
      go_ret2
      exact ⟨by rw [HV.out]; unfold twoV; dsimp only; rw [show max (x - y) 0 = x - y by have := HX.out; omega]; rfl, rfl⟩
  · have HV := hide (show fallsF p o f t = (0, 2) from if_neg fun h => hc ⟨⟨by have := h.1.1; omega, h.1.2⟩, h.2.1, h.2.2.1, h.2.2.2, h.1.1⟩)
    have HC := hide (show (decide (num p) && decide (num o) && decide (num f) && decide (num t) && decide (1 ≤ p)) = false from by
      cases h : (decide (num p) && decide (num o) && decide (num f) && decide (num t) && decide (1 ≤ p)) with
      | false => rfl
      | true =>
        simp only [Bool.and_eq_true, decide_eq_true_iff] at h
        exact absurd ⟨h.1.1.1.1, h.1.1.1.2, h.1.1.2, h.1.2, h.2⟩ hc)
    have HPn := hide (show decide (num p) = true → 1 ≤ p → per p from fun h h1 => ⟨h1, (of_decide_eq_true h).2⟩)
    clear hc
    go_enter Try.func32, Try.ntmps32
    go_wp2_with fail
    refine (small_at p _).mono ?_
    rintro e w' ⟨rfl, rfl⟩
    go_wp2_with fail
    refine (small_at o _).mono ?_
    rintro e w' ⟨rfl, rfl⟩
    go_wp2_with fail
    refine (small_at f _).mono ?_
    rintro e w' ⟨rfl, rfl⟩
    go_wp2_with fail
    refine (small_at t _).mono ?_
    rintro e w' ⟨rfl, rfl⟩
    have HC := HC.out
    generalize decide (num p) = b1 at *
    generalize decide (num o) = b2 at *
    generalize decide (num f) = b3 at *
    generalize decide (num t) = b4 at *
    cases b1 with
    | false =>
      clear HC
      go_wp2_with fail
      go_ret2
      exact ⟨by rw [HV.out]; rfl, rfl⟩
    | true =>
    cases b2 with
    | false =>
      clear HC
      go_wp2_with fail
      go_ret2
      exact ⟨by rw [HV.out]; rfl, rfl⟩
    | true =>
    cases b3 with
    | false =>
      clear HC
      go_wp2_with fail
      go_ret2
      exact ⟨by rw [HV.out]; rfl, rfl⟩
    | true =>
    cases b4 with
    | false =>
      clear HC
      go_wp2_with fail
      go_ret2
      exact ⟨by rw [HV.out]; rfl, rfl⟩
    | true =>
      have hp1 : p < 1 := by
        have := of_decide_eq_false (show decide (1 ≤ p) = false by simpa using HC)
        omega
      clear HC
      go_wp2_with fail
      go_ret2
      exact ⟨by rw [HV.out]; rfl, rfl⟩

set_option maxHeartbeats 1000000 in
theorem rhyper_at (l : List Int) (A : Option Addr) (c : Nat) (w : World) (hI : Ints w A l) (hl : l.length ≤ 9223372036854775806) :
    Calls Try.prog 30 #[.slice A l.length c] w fun e w' => e = .returned (twoV (hypF l)) ∧ w = w' := by
  have HI := hide hI
  obtain ⟨n, hn⟩ : ∃ n, n = l.length := ⟨_, rfl⟩
  have HN := hide hn
  rw [← hn] at hl ⊢
  clear hI hn
  go_enter Try.func30, Try.ntmps30
  go_wp2_with fail
  go_loop [2, 3, 4, 5, 6, 7] (fun r0 r1 nv iv m e => ∃ k : Nat, k ≤ n ∧ iv = .int .i64 k ∧ (hypF (l.take k)).2 = 0 ∧ nv = .int .i64 (hypF (l.take k)).1) (fun _ _ _ iv _ _ => n - (intOf iv).toNat)
  case atStart => exact ⟨0, Nat.zero_le _, rfl, rfl, rfl⟩
  case round =>
    obtain ⟨k, hk, rfl, h0, rfl⟩ := hrel
    have HE := hide h0
    by_cases hlt : k < n
    · have hkl : k < l.length := by rw [← HN.out]; exact hlt
      obtain ⟨b, off, rfl, hbl, hc⟩ := HI.out.at hkl
      have HK := hide (show hypF (l.take (k + 1)) = lcmF (hypF (l.take k)).1 (l.getD k 0) from by
        rw [take_snoc l 0 k hkl, hyp_snoc]; exact if_pos HE.out)
      have HTk := hide (fun (h : (hypF (l.take (k + 1))).2 ≠ 0) => hyp_take (l := l) (k := k + 1) rfl h)
      have HJ := hide (fun W => rlcm_at (hypF (l.take k)).1 (l.getD k 0) W)
      have HBad := hide (fun (h : (lcmF (hypF (l.take k)).1 (l.getD k 0)).2 ≠ 0) => lcmF_bad h)
      rw [← HK.out] at HJ HBad
      generalize l.getD k 0 = z at *
      generalize hypF (l.take k) = s at *
      generalize hG : hypF (l.take (k + 1)) = t at *
      have HG := hide hG
      clear h0 hkl hG HK
      obtain ⟨t1, t2⟩ := t
      by_cases ht : t2 = 0
      · have HT := hide ht
        subst ht
        unfold twoV at HJ
        dsimp only at HJ
        go_wp2_with fail
        refine (HJ.out _).mono ?_
        rintro e w' ⟨rfl, rfl⟩
        go_wp2_with fail
        go_round
        case rel => exact ⟨k + 1, by omega, by go_num, by rw [HG.out], by rw [HG.out]⟩
        case measure => simp [intOf]; omega
      · have HV := hide (HTk.out ht)
        have hb := HBad.out ht
        simp only [Prod.mk.injEq] at hb
        obtain ⟨rfl, rfl⟩ := hb
        clear ht
        unfold twoV at HJ
        dsimp only at HJ
        go_wp2_with fail
        refine (HJ.out _).mono ?_
        rintro e w' ⟨rfl, rfl⟩
        go_wp2_with fail
        go_ret2
        exact ⟨by rw [HV.out]; rfl, rfl⟩
    · have HT := hide (show hypF (l.take k) = hypF l from by rw [all_same (show k = n by omega) HN.out])
      rw [HT.out] at HE ⊢
      generalize hG : hypF l = t at *
      have HG := hide hG
      clear h0 hG
      obtain ⟨t1, t2⟩ := t
      obtain rfl : t2 = 0 := HE.out
      dsimp only
      go_wp2_with fail
      go_ret2
      exact ⟨by rw [HG.out]; rfl, rfl⟩

structure Nu (W V : World) (x0 x1 x2 x3 : Int) : Prop where
  bel : Below W.heap.size W V
  row : V.heap[W.heap.size]? = some (.cells #[.int .i64 x0, .int .i64 x1, .int .i64 x2, .int .i64 x3] 49 (0, 0))
theorem Nu.on {W V V' : World} {x0 x1 x2 x3 : Int} (h : Nu W V x0 x1 x2 x3) (hb : Below V.heap.size V V') : Nu W V' x0 x1 x2 x3 :=
  ⟨h.bel.trans (hb.mono h.bel.size), (hb.block _ (Array.getElem?_eq_some_iff.1 h.row).1).trans h.row⟩
theorem Nu.cells {W V : World} {x0 x1 x2 x3 : Int} (h : Nu W V x0 x1 x2 x3) : V.cell? ⟨W.heap.size, 0, none⟩ = some (.int .i64 x0) ∧ V.cell? ⟨W.heap.size, 1, none⟩ = some (.int .i64 x1) ∧ V.cell? ⟨W.heap.size, 2, none⟩ = some (.int .i64 x2) ∧ V.cell? ⟨W.heap.size, 3, none⟩ = some (.int .i64 x3) := by
  refine ⟨?_, ?_, ?_, ?_⟩ <;> (rw [cell_of_row _ _ _ _ _ _ h.row]; rfl)

set_option maxRecDepth 100000 in
set_option maxHeartbeats 4000000 in
theorem numbers_walk (l : List Int) (A : Option Addr) (c : Nat) (x0 x1 x2 x3 : Int) (W : World) (hI : Ints W A l) (hc : l.length ≤ 9223372036854775806) :
    Calls Try.prog 5 #[.slice A l.length c, .agg #[.int .i64 x0, .int .i64 x1, .int .i64 x2, .int .i64 x3]] W fun e w' => e = .returned (.bool true) ∧ Below W.heap.size W w' := by
  have HI := hide hI
  have HL := hide (fun V => lcm_at x0 x1 V)
  have HRL := hide (fun V => rlcm_at x0 x1 V)
  have HH := hide (fun V (h : Ints V A l) => hyper_at l A c V h hc)
  have HRH := hide (fun V (h : Ints V A l) => rhyper_at l A c V h hc)
  have HF := hide (fun V => falls_at x0 x1 x2 x3 V)
  have HRF := hide (fun V => rfalls_at x0 x1 x2 x3 V)
  have HG := hide (fun V => gcd_at x0 x1 V)
  have HRG := hide (fun V => rgcd_at x0 x1 V)
  generalize lcmF x0 x1 = v1 at *
  generalize hypF l = v2 at *
  generalize fallsF x0 x1 x2 x3 = v3 at *
  generalize gcdF x0 x1 = v4 at *
  obtain ⟨p1, q1⟩ := v1
  obtain ⟨p2, q2⟩ := v2
  obtain ⟨p3, q3⟩ := v3
  unfold twoV at HL HRL HH HRH HF HRF
  dsimp only at HL HRL HH HRH HF HRF
  have HIk := hide (fun V (h : Below W.heap.size W V) => HI.out.of_below h (Nat.le_refl _))
  generalize l.length = n at *
  clear hI HI
  by_cases hbig : 100 < n
  · go_enter Try.func5, Try.ntmps5
    go_wp2_with fail
    go_ret
    exact ⟨rfl, bal W _⟩
  go_enter Try.func5, Try.ntmps5
  go_wp2_with fail
  have HN : Hid (Nu W (W.alloc (.cells #[.int .i64 x0, .int .i64 x1, .int .i64 x2, .int .i64 x3] 49)) x0 x1 x2 x3) := ⟨bal W _, heap_alloc_new W _⟩
  obtain ⟨c0, c1, c2, c3⟩ := HN.out.cells
  generalize W.alloc (.cells #[.int .i64 x0, .int .i64 x1, .int .i64 x2, .int .i64 x3] 49) = V0 at *
  refine (HL.out _).mono ?_
  rintro e V1 ⟨rfl, hb⟩
  replace HN := hide (HN.out.on hb)
  clear hb c0 c1 c2 c3
  obtain ⟨c0, c1, c2, c3⟩ := HN.out.cells
  go_wp2_with fail
  refine (HRL.out _).mono ?_
  rintro e w' ⟨rfl, rfl⟩
  go_wp2_with fail
  refine (HH.out _ (HIk.out _ HN.out.bel)).mono ?_
  rintro e V2 ⟨rfl, hb⟩
  replace HN := hide (HN.out.on hb)
  clear hb c0 c1 c2 c3
  obtain ⟨c0, c1, c2, c3⟩ := HN.out.cells
  go_wp2_with fail
  refine (HRH.out _ (HIk.out _ HN.out.bel)).mono ?_
  rintro e w' ⟨rfl, rfl⟩
  go_wp2_with fail
  refine (HF.out _).mono ?_
  rintro e V3 ⟨rfl, hb⟩
  replace HN := hide (HN.out.on hb)
  clear hb c0 c1 c2 c3
  obtain ⟨c0, c1, c2, c3⟩ := HN.out.cells
  go_wp2_with fail
  refine (HRF.out _).mono ?_
  rintro e w' ⟨rfl, rfl⟩
  go_wp2_with fail
  have HS0 : Hid ((fun w' => w'.cell? ⟨W.heap.size, 0, none⟩ = some (.int .i64 x0) ∧ w'.cell? ⟨W.heap.size, 1, none⟩ = some (.int .i64 x1) ∧ Nu W w' x0 x1 x2 x3) V3.drew) := ⟨c0, c1, ⟨below_drew HN.out.bel, HN.out.row⟩⟩
  have HKp : Hid (∀ (V V' : World), (fun w' => w'.cell? ⟨W.heap.size, 0, none⟩ = some (.int .i64 x0) ∧ w'.cell? ⟨W.heap.size, 1, none⟩ = some (.int .i64 x1) ∧ Nu W w' x0 x1 x2 x3) V → Below V.heap.size V V' → (fun w' => w'.cell? ⟨W.heap.size, 0, none⟩ = some (.int .i64 x0) ∧ w'.cell? ⟨W.heap.size, 1, none⟩ = some (.int .i64 x1) ∧ Nu W w' x0 x1 x2 x3) V') := fun V V' h hb => ⟨(h.2.2.on hb).cells.1, (h.2.2.on hb).cells.2.1, h.2.2.on hb⟩
  refine wp_region_held_drew (S := fun w' => w'.cell? ⟨W.heap.size, 0, none⟩ = some (.int .i64 x0) ∧ w'.cell? ⟨W.heap.size, 1, none⟩ = some (.int .i64 x1) ∧ Nu W w' x0 x1 x2 x3) (by kernel_rfl) (by (first | exact HKp.out _ _ hHeld hb1 | exact HS0.out)) (fun hHeld => ?_)
  refine wpAnyH_take (i := 0) (v := ?v1_0) rfl (by kernel_rfl) (by kernel_rfl) (by kernel_rfl) (fun _ _ _ h => h) (Or.inl ⟨by kernel_rfl, ?y1_0⟩) (by assumption) ?r1_0
  case y1_0 => (intro W hSW; (try dsimp only at hSW); go_simp; (try with_reducible rfl))
  change wpAnyH _ _ _ _ _ _ _ (Act.put _ (some 70) _) _
  (try simp only [Act.put, List.setIfInBounds_toArray, List.set_cons_zero, List.set_cons_succ])
  refine wpAnyH_take (i := 1) (v := ?v1_1) rfl (by kernel_rfl) (by kernel_rfl) (by kernel_rfl) (fun _ _ _ h => h) (Or.inl ⟨by kernel_rfl, ?y1_1⟩) (by assumption) ?r1_1
  case y1_1 => (intro W hSW; (try dsimp only at hSW); go_simp; (try with_reducible rfl))
  change wpAnyH _ _ _ _ _ _ _ (Act.put _ (some 71) _) _
  (try simp only [Act.put, List.setIfInBounds_toArray, List.set_cons_zero, List.set_cons_succ])
  refine wpAnyH_take (i := 2) (v := ?v1_2) rfl (by kernel_rfl) (by kernel_rfl) (by kernel_rfl) (fun _ _ _ h => h) (Or.inl ⟨by kernel_rfl, ?y1_2⟩) (by assumption) ?r1_2
  case y1_2 => (intro W hSW; (try dsimp only at hSW); go_simp; (try with_reducible rfl))
  change wpAnyH _ _ _ _ _ _ _ (Act.put _ (some 72) _) _
  (try simp only [Act.put, List.setIfInBounds_toArray, List.set_cons_zero, List.set_cons_succ])
  refine wpAnyH_take (i := 3) (v := ?v1_3) rfl (by kernel_rfl) (by kernel_rfl) (by kernel_rfl) (fun _ _ _ h => h) (Or.inl ⟨by kernel_rfl, ?y1_3⟩) (by assumption) ?r1_3
  case y1_3 => (intro W hSW; (try dsimp only at hSW); go_simp; (try with_reducible rfl))
  change wpAnyH _ _ _ _ _ _ _ (Act.put _ (some 73) _) _
  (try simp only [Act.put, List.setIfInBounds_toArray, List.set_cons_zero, List.set_cons_succ])
  refine wpAnyH_take (i := 5) (v := ?v1_5) rfl (by kernel_rfl) (by kernel_rfl) (by kernel_rfl) (fun _ _ _ h => h) (Or.inl ⟨by kernel_rfl, ?y1_5⟩) (by assumption) ?r1_5
  case y1_5 => (intro W hSW; (try dsimp only at hSW); go_simp; (try with_reducible rfl))
  change wpAnyH _ _ _ _ _ _ _ (Act.put _ (some 75) _) _
  (try simp only [Act.put, List.setIfInBounds_toArray, List.set_cons_zero, List.set_cons_succ])
  refine wpAnyH_take (i := 6) (v := ?v1_6) rfl (by kernel_rfl) (by kernel_rfl) (by kernel_rfl) (fun _ _ _ h => h) (Or.inl ⟨by kernel_rfl, ?y1_6⟩) (by assumption) ?r1_6
  case y1_6 => (intro W hSW; (try dsimp only at hSW); go_simp; (try with_reducible rfl))
  change wpAnyH _ _ _ _ _ _ _ (Act.put _ (some 76) _) _
  (try simp only [Act.put, List.setIfInBounds_toArray, List.set_cons_zero, List.set_cons_succ])
  refine wpAnyH_take (i := 7) (v := ?v1_7) rfl (by kernel_rfl) (by kernel_rfl) (by kernel_rfl) (fun _ _ _ h => h) (Or.inl ⟨by kernel_rfl, ?y1_7⟩) (by assumption) ?r1_7
  case y1_7 => (intro W hSW; (try dsimp only at hSW); go_simp; (try with_reducible rfl))
  change wpAnyH _ _ _ _ _ _ _ (Act.put _ (some 77) _) _
  (try simp only [Act.put, List.setIfInBounds_toArray, List.set_cons_zero, List.set_cons_succ])
  refine wpAnyH_take (i := 8) (v := ?v1_8) rfl (by kernel_rfl) (by kernel_rfl) (by kernel_rfl) (fun _ _ _ h => h) (Or.inl ⟨by kernel_rfl, ?y1_8⟩) (by assumption) ?r1_8
  case y1_8 => (intro W hSW; (try dsimp only at hSW); go_simp; (try with_reducible rfl))
  change wpAnyH _ _ _ _ _ _ _ (Act.put _ (some 78) _) _
  (try simp only [Act.put, List.setIfInBounds_toArray, List.set_cons_zero, List.set_cons_succ])
  refine wpAnyH_ready (rs := [4]) (by kernel_rfl) (by simp) ?_
  refine AllReadyH.cons rfl (fun K hK => ?_) AllReadyH.nil
  rw [if_pos (by rfl)]
  go_simp
  first | (refine (HG.out _).mono ?_; rintro e w5 ⟨rfl, hb1⟩) | (refine (HRG.out _).mono ?_; rintro e w5 ⟨rfl, rfl⟩; have hb1 := Below.refl w5.heap.size w5)
  go_simp
  refine hK.out _ _ (by (first | exact HKp.out _ _ hHeld hb1 | exact HS0.out)) (fun hHeld => ?_)
  clear hK K
  (try simp only [Act.put, List.setIfInBounds_toArray, List.set_cons_zero, List.set_cons_succ])
  refine wpAnyH_ready (rs := [9]) (by kernel_rfl) (by simp) ?_
  refine AllReadyH.cons rfl (fun K hK => ?_) AllReadyH.nil
  rw [if_pos (by rfl)]
  go_simp
  first | (refine (HG.out _).mono ?_; rintro e w5 ⟨rfl, hb1⟩) | (refine (HRG.out _).mono ?_; rintro e w5 ⟨rfl, rfl⟩; have hb1 := Below.refl w5.heap.size w5)
  go_simp
  refine hK.out _ _ (by (first | exact HKp.out _ _ hHeld hb1 | exact HS0.out)) (fun hHeld => ?_)
  clear hK K
  (try simp only [Act.put, List.setIfInBounds_toArray, List.set_cons_zero, List.set_cons_succ])
  refine wpAnyH_take (i := 10) (v := ?v1_10) rfl (by kernel_rfl) (by kernel_rfl) (by kernel_rfl) (fun _ _ _ h => h) (Or.inl ⟨by kernel_rfl, ?y1_10⟩) (by assumption) ?r1_10
  case y1_10 => (intro W hSW; (try dsimp only at hSW); go_simp; (try with_reducible rfl))
  change wpAnyH _ _ _ _ _ _ _ (Act.put _ (some 80) _) _
  (try simp only [Act.put, List.setIfInBounds_toArray, List.set_cons_zero, List.set_cons_succ])
  refine wpAnyH_take (i := 11) (v := ?v1_11) rfl (by kernel_rfl) (by kernel_rfl) (by kernel_rfl) (fun _ _ _ h => h) (Or.inl ⟨by kernel_rfl, ?y1_11⟩) (by assumption) ?r1_11
  case y1_11 => (intro W hSW; (try dsimp only at hSW); go_simp; (try with_reducible rfl))
  change wpAnyH _ _ _ _ _ _ _ (Act.put _ (some 81) _) _
  (try simp only [Act.put, List.setIfInBounds_toArray, List.set_cons_zero, List.set_cons_succ])
  refine wpAnyH_take (i := 12) (v := ?v1_12) rfl (by kernel_rfl) (by kernel_rfl) (by kernel_rfl) (fun _ _ _ h => h) (Or.inl ⟨by kernel_rfl, ?y1_12⟩) (by assumption) ?r1_12
  case y1_12 => (intro W hSW; (try dsimp only at hSW); go_simp; (try with_reducible rfl))
  change wpAnyH _ _ _ _ _ _ _ (Act.put _ (some 82) _) _
  (try simp only [Act.put, List.setIfInBounds_toArray, List.set_cons_zero, List.set_cons_succ])
  refine wpAnyH_take (i := 13) (v := ?v1_13) rfl (by kernel_rfl) (by kernel_rfl) (by kernel_rfl) (fun _ _ _ h => h) (Or.inl ⟨by kernel_rfl, ?y1_13⟩) (by assumption) ?r1_13
  case y1_13 => (intro W hSW; (try dsimp only at hSW); go_simp; (try with_reducible rfl))
  change wpAnyH _ _ _ _ _ _ _ (Act.put _ (some 83) _) _
  (try simp only [Act.put, List.setIfInBounds_toArray, List.set_cons_zero, List.set_cons_succ])
  refine wpAnyH_take (i := 14) (v := ?v1_14) rfl (by kernel_rfl) (by kernel_rfl) (by kernel_rfl) (fun _ _ _ h => h) (Or.inl ⟨by kernel_rfl, ?y1_14⟩) (by assumption) ?r1_14
  case y1_14 => (intro W hSW; (try dsimp only at hSW); go_simp; (try with_reducible rfl))
  change wpAnyH _ _ _ _ _ _ _ (Act.put _ (some 84) _) _
  (try simp only [Act.put, List.setIfInBounds_toArray, List.set_cons_zero, List.set_cons_succ])
  refine wpAnyH_take (i := 15) (v := ?v1_15) rfl (by kernel_rfl) (by kernel_rfl) (by kernel_rfl) (fun _ _ _ h => h) (Or.inl ⟨by kernel_rfl, ?y1_15⟩) (by assumption) ?r1_15
  case y1_15 => (intro W hSW; (try dsimp only at hSW); go_simp; (try with_reducible rfl))
  change wpAnyH _ _ _ _ _ _ _ (Act.put _ (some 85) _) _
  (try simp only [Act.put, List.setIfInBounds_toArray, List.set_cons_zero, List.set_cons_succ])
  refine wpAnyH_take (i := 16) (v := ?v1_16) rfl (by kernel_rfl) (by kernel_rfl) (by kernel_rfl) (fun _ _ _ h => h) (Or.inl ⟨by kernel_rfl, ?y1_16⟩) (by assumption) ?r1_16
  case y1_16 => (intro W hSW; (try dsimp only at hSW); go_simp; (try with_reducible rfl))
  change wpAnyH _ _ _ _ _ _ _ (Act.put _ (some 86) _) _
  (try simp only [Act.put, List.setIfInBounds_toArray, List.set_cons_zero, List.set_cons_succ])
  refine wpAnyH_take (i := 17) (v := ?v1_17) rfl (by kernel_rfl) (by kernel_rfl) (by kernel_rfl) (fun _ _ _ h => h) (Or.inl ⟨by kernel_rfl, ?y1_17⟩) (by assumption) ?r1_17
  case y1_17 => (intro W hSW; (try dsimp only at hSW); go_simp; (try with_reducible rfl))
  change wpAnyH _ _ _ _ _ _ _ (Act.put _ (some 87) _) _
  (try simp only [Act.put, List.setIfInBounds_toArray, List.set_cons_zero, List.set_cons_succ])
  refine wpAnyH_take (i := 18) (v := ?v1_18) rfl (by kernel_rfl) (by kernel_rfl) (by kernel_rfl) (fun _ _ _ h => h) (Or.inl ⟨by kernel_rfl, ?y1_18⟩) (by assumption) ?r1_18
  case y1_18 => (intro W hSW; (try dsimp only at hSW); go_simp; (try with_reducible rfl))
  change wpAnyH _ _ _ _ _ _ _ (Act.put _ (some 88) _) _
  (try simp only [Act.put, List.setIfInBounds_toArray, List.set_cons_zero, List.set_cons_succ])
  refine wpAnyH_take (i := 19) (v := ?v1_19) rfl (by kernel_rfl) (by kernel_rfl) (by kernel_rfl) (fun _ _ _ h => h) (Or.inl ⟨by kernel_rfl, ?y1_19⟩) (by assumption) ?r1_19
  case y1_19 => (intro W hSW; (try dsimp only at hSW); go_simp; (try with_reducible rfl))
  change wpAnyH _ _ _ _ _ _ _ (Act.put _ (some 89) _) _
  (try simp only [Act.put, List.setIfInBounds_toArray, List.set_cons_zero, List.set_cons_succ])
  refine wpAnyH_take (i := 20) (v := ?v1_20) rfl (by kernel_rfl) (by kernel_rfl) (by kernel_rfl) (fun _ _ _ h => h) (Or.inl ⟨by kernel_rfl, ?y1_20⟩) (by assumption) ?r1_20
  case y1_20 => (intro W hSW; (try dsimp only at hSW); go_simp; (try with_reducible rfl))
  change wpAnyH _ _ _ _ _ _ _ (Act.put _ (some 90) _) _
  (try simp only [Act.put, List.setIfInBounds_toArray, List.set_cons_zero, List.set_cons_succ])
  refine wpAnyH_take (i := 21) (v := ?v1_21) rfl (by kernel_rfl) (by kernel_rfl) (by kernel_rfl) (fun _ _ _ h => h) (Or.inl ⟨by kernel_rfl, ?y1_21⟩) (by assumption) ?r1_21
  case y1_21 => (intro W hSW; (try dsimp only at hSW); go_simp; (try with_reducible rfl))
  change wpAnyH _ _ _ _ _ _ _ (Act.put _ (some 91) _) _
  (try simp only [Act.put, List.setIfInBounds_toArray, List.set_cons_zero, List.set_cons_succ])
  refine wpAnyH_take (i := 22) (v := ?v1_22) rfl (by kernel_rfl) (by kernel_rfl) (by kernel_rfl) (fun _ _ _ h => h) (Or.inl ⟨by kernel_rfl, ?y1_22⟩) (by assumption) ?r1_22
  case y1_22 => (intro W hSW; (try dsimp only at hSW); go_simp; (try with_reducible rfl))
  change wpAnyH _ _ _ _ _ _ _ (Act.put _ (some 92) _) _
  (try simp only [Act.put, List.setIfInBounds_toArray, List.set_cons_zero, List.set_cons_succ])
  refine wpAnyH_take (i := 23) (v := ?v1_23) rfl (by kernel_rfl) (by kernel_rfl) (by kernel_rfl) (fun _ _ _ h => h) (Or.inl ⟨by kernel_rfl, ?y1_23⟩) (by assumption) ?r1_23
  case y1_23 => (intro W hSW; (try dsimp only at hSW); go_simp; (try with_reducible rfl))
  change wpAnyH _ _ _ _ _ _ _ (Act.put _ (some 93) _) _
  (try simp only [Act.put, List.setIfInBounds_toArray, List.set_cons_zero, List.set_cons_succ])
  refine wpAnyH_take (i := 24) (v := ?v1_24) rfl (by kernel_rfl) (by kernel_rfl) (by kernel_rfl) (fun _ _ _ h => h) (Or.inl ⟨by kernel_rfl, ?y1_24⟩) (by assumption) ?r1_24
  case y1_24 => (intro W hSW; (try dsimp only at hSW); go_simp; (try with_reducible rfl))
  change wpAnyH _ _ _ _ _ _ _ (Act.put _ (some 94) _) _
  (try simp only [Act.put, List.setIfInBounds_toArray, List.set_cons_zero, List.set_cons_succ])
  refine wpAnyH_take (i := 25) (v := ?v1_25) rfl (by kernel_rfl) (by kernel_rfl) (by kernel_rfl) (fun _ _ _ h => h) (Or.inl ⟨by kernel_rfl, ?y1_25⟩) (by assumption) ?r1_25
  case y1_25 => (intro W hSW; (try dsimp only at hSW); go_simp; (try with_reducible rfl))
  change wpAnyH _ _ _ _ _ _ _ (Act.put _ (some 95) _) _
  (try simp only [Act.put, List.setIfInBounds_toArray, List.set_cons_zero, List.set_cons_succ])
  refine wpAnyH_take (i := 26) (v := ?v1_26) rfl (by kernel_rfl) (by kernel_rfl) (by kernel_rfl) (fun _ _ _ h => h) (Or.inl ⟨by kernel_rfl, ?y1_26⟩) (by assumption) ?r1_26
  case y1_26 => (intro W hSW; (try dsimp only at hSW); go_simp; (try with_reducible rfl))
  change wpAnyH _ _ _ _ _ _ _ (Act.put _ (some 96) _) _
  (try simp only [Act.put, List.setIfInBounds_toArray, List.set_cons_zero, List.set_cons_succ])
  refine wpAnyH_take (i := 27) (v := ?v1_27) rfl (by kernel_rfl) (by kernel_rfl) (by kernel_rfl) (fun _ _ _ h => h) (Or.inl ⟨by kernel_rfl, ?y1_27⟩) (by assumption) ?r1_27
  case y1_27 => (intro W hSW; (try dsimp only at hSW); go_simp; (try with_reducible rfl))
  change wpAnyH _ _ _ _ _ _ _ (Act.put _ (some 97) _) _
  (try simp only [Act.put, List.setIfInBounds_toArray, List.set_cons_zero, List.set_cons_succ])
  refine wpAnyH_take (i := 28) (v := ?v1_28) rfl (by kernel_rfl) (by kernel_rfl) (by kernel_rfl) (fun _ _ _ h => h) (Or.inl ⟨by kernel_rfl, ?y1_28⟩) (by assumption) ?r1_28
  case y1_28 => (intro W hSW; (try dsimp only at hSW); go_simp; (try with_reducible rfl))
  change wpAnyH _ _ _ _ _ _ _ (Act.put _ (some 98) _) _
  (try simp only [Act.put, List.setIfInBounds_toArray, List.set_cons_zero, List.set_cons_succ])
  refine wpAnyH_take (i := 29) (v := ?v1_29) rfl (by kernel_rfl) (by kernel_rfl) (by kernel_rfl) (fun _ _ _ h => h) (Or.inl ⟨by kernel_rfl, ?y1_29⟩) (by assumption) ?r1_29
  case y1_29 => (intro W hSW; (try dsimp only at hSW); go_simp; (try with_reducible rfl))
  change wpAnyH _ _ _ _ _ _ _ (Act.put _ (some 99) _) _
  (try simp only [Act.put, List.setIfInBounds_toArray, List.set_cons_zero, List.set_cons_succ])
  refine wpAnyH_take (i := 30) (v := ?v1_30) rfl (by kernel_rfl) (by kernel_rfl) (by kernel_rfl) (fun _ _ _ h => h) (Or.inl ⟨by kernel_rfl, ?y1_30⟩) (by assumption) ?r1_30
  case y1_30 => (intro W hSW; (try dsimp only at hSW); go_simp; (try with_reducible rfl))
  change wpAnyH _ _ _ _ _ _ _ (Act.put _ (some 100) _) _
  (try simp only [Act.put, List.setIfInBounds_toArray, List.set_cons_zero, List.set_cons_succ])
  refine wpAnyH_take (i := 31) (v := ?v1_31) rfl (by kernel_rfl) (by kernel_rfl) (by kernel_rfl) (fun _ _ _ h => h) (Or.inl ⟨by kernel_rfl, ?y1_31⟩) (by assumption) ?r1_31
  case y1_31 => (intro W hSW; (try dsimp only at hSW); go_simp; (try with_reducible rfl))
  change wpAnyH _ _ _ _ _ _ _ (Act.put _ (some 101) _) _
  (try simp only [Act.put, List.setIfInBounds_toArray, List.set_cons_zero, List.set_cons_succ])
  refine wpAnyH_take (i := 32) (v := ?v1_32) rfl (by kernel_rfl) (by kernel_rfl) (by kernel_rfl) (fun _ _ _ h => h) (Or.inl ⟨by kernel_rfl, ?y1_32⟩) (by assumption) ?r1_32
  case y1_32 => (intro W hSW; (try dsimp only at hSW); go_simp; (try with_reducible rfl))
  change wpAnyH _ _ _ _ _ _ _ (Act.put _ (some 102) _) _
  (try simp only [Act.put, List.setIfInBounds_toArray, List.set_cons_zero, List.set_cons_succ])
  refine wpAnyH_take (i := 33) (v := ?v1_33) rfl (by kernel_rfl) (by kernel_rfl) (by kernel_rfl) (fun _ _ _ h => h) (Or.inl ⟨by kernel_rfl, ?y1_33⟩) (by assumption) ?r1_33
  case y1_33 => (intro W hSW; (try dsimp only at hSW); go_simp; (try with_reducible rfl))
  change wpAnyH _ _ _ _ _ _ _ (Act.put _ (some 103) _) _
  (try simp only [Act.put, List.setIfInBounds_toArray, List.set_cons_zero, List.set_cons_succ])
  refine wpAnyH_take (i := 34) (v := ?v1_34) rfl (by kernel_rfl) (by kernel_rfl) (by kernel_rfl) (fun _ _ _ h => h) (Or.inl ⟨by kernel_rfl, ?y1_34⟩) (by assumption) ?r1_34
  case y1_34 => (intro W hSW; (try dsimp only at hSW); go_simp; (try with_reducible rfl))
  change wpAnyH _ _ _ _ _ _ _ (Act.put _ (some 104) _) _
  (try simp only [Act.put, List.setIfInBounds_toArray, List.set_cons_zero, List.set_cons_succ])
  refine wpAnyH_take (i := 35) (v := ?v1_35) rfl (by kernel_rfl) (by kernel_rfl) (by kernel_rfl) (fun _ _ _ h => h) (Or.inl ⟨by kernel_rfl, ?y1_35⟩) (by assumption) ?r1_35
  case y1_35 => (intro W hSW; (try dsimp only at hSW); go_simp; (try with_reducible rfl))
  change wpAnyH _ _ _ _ _ _ _ (Act.put _ (some 105) _) _
  (try simp only [Act.put, List.setIfInBounds_toArray, List.set_cons_zero, List.set_cons_succ])
  refine wpAnyH_take (i := 36) (v := ?v1_36) rfl (by kernel_rfl) (by kernel_rfl) (by kernel_rfl) (fun _ _ _ h => h) (Or.inl ⟨by kernel_rfl, ?y1_36⟩) (by assumption) ?r1_36
  case y1_36 => (intro W hSW; (try dsimp only at hSW); go_simp; (try with_reducible rfl))
  change wpAnyH _ _ _ _ _ _ _ (Act.put _ (some 106) _) _
  (try simp only [Act.put, List.setIfInBounds_toArray, List.set_cons_zero, List.set_cons_succ])
  refine wpAnyH_take (i := 37) (v := ?v1_37) rfl (by kernel_rfl) (by kernel_rfl) (by kernel_rfl) (fun _ _ _ h => h) (Or.inl ⟨by kernel_rfl, ?y1_37⟩) (by assumption) ?r1_37
  case y1_37 => (intro W hSW; (try dsimp only at hSW); go_simp; (try with_reducible rfl))
  change wpAnyH _ _ _ _ _ _ _ (Act.put _ (some 107) _) _
  (try simp only [Act.put, List.setIfInBounds_toArray, List.set_cons_zero, List.set_cons_succ])
  refine wpAnyH_take (i := 38) (v := ?v1_38) rfl (by kernel_rfl) (by kernel_rfl) (by kernel_rfl) (fun _ _ _ h => h) (Or.inl ⟨by kernel_rfl, ?y1_38⟩) (by assumption) ?r1_38
  case y1_38 => (intro W hSW; (try dsimp only at hSW); go_simp; (try with_reducible rfl))
  change wpAnyH _ _ _ _ _ _ _ (Act.put _ (some 108) _) _
  (try simp only [Act.put, List.setIfInBounds_toArray, List.set_cons_zero, List.set_cons_succ])
  refine wpAnyH_take (i := 39) (v := ?v1_39) rfl (by kernel_rfl) (by kernel_rfl) (by kernel_rfl) (fun _ _ _ h => h) (Or.inl ⟨by kernel_rfl, ?y1_39⟩) (by assumption) ?r1_39
  case y1_39 => (intro W hSW; (try dsimp only at hSW); go_simp; (try with_reducible rfl))
  change wpAnyH _ _ _ _ _ _ _ (Act.put _ (some 109) _) _
  (try simp only [Act.put, List.setIfInBounds_toArray, List.set_cons_zero, List.set_cons_succ])
  refine wpAnyH_take (i := 40) (v := ?v1_40) rfl (by kernel_rfl) (by kernel_rfl) (by kernel_rfl) (fun _ _ _ h => h) (Or.inl ⟨by kernel_rfl, ?y1_40⟩) (by assumption) ?r1_40
  case y1_40 => (intro W hSW; (try dsimp only at hSW); go_simp; (try with_reducible rfl))
  change wpAnyH _ _ _ _ _ _ _ (Act.put _ (some 110) _) _
  (try simp only [Act.put, List.setIfInBounds_toArray, List.set_cons_zero, List.set_cons_succ])
  refine wpAnyH_take (i := 41) (v := ?v1_41) rfl (by kernel_rfl) (by kernel_rfl) (by kernel_rfl) (fun _ _ _ h => h) (Or.inl ⟨by kernel_rfl, ?y1_41⟩) (by assumption) ?r1_41
  case y1_41 => (intro W hSW; (try dsimp only at hSW); go_simp; (try with_reducible rfl))
  change wpAnyH _ _ _ _ _ _ _ (Act.put _ (some 4) _) _
  (try simp only [Act.put, List.setIfInBounds_toArray, List.set_cons_zero, List.set_cons_succ])
  refine wpAnyH_done (by kernel_rfl) ?_ _
  obtain ⟨_, _, hnu⟩ := hHeld
  go_wp2_with fail
  go_ret
  exact ⟨rfl, hnu.bel⟩
end Go.Proofs.Ytmplioglihmkjaa
