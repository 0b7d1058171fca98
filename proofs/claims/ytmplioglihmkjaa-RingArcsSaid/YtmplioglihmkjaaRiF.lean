/-
  RingArcs's walk.
-/
import Derived.Test.YtmplioglihmkjaaRiE
namespace Go.Proofs.Ytmplioglihmkjaa
open Go.RowKit Go.Shelf
attribute [local go_sem] Oper.semAt_some
set_option linter.unusedVariables false
set_option linter.unusedSimpArgs false
set_option maxRecDepth 100000

theorem meet_two {m : Nat} {a b : Ar} (ha : okA m a) (hb : okA m b) : anyT (fun p => decide (1 < cntA m [a, b] p)) m = meetB m a b := by
  rw [Bool.eq_iff_iff, anyT_iff, meet_iff ha hb]
  have h : ∀ p, decide (1 < cntA m [a, b] p) = true ↔ inA m a p = true ∧ inA m b p = true := fun p => by
    have e : cntA m [a, b] p = (if inA m a p then 1 else 0) + (if inA m b p then 1 else 0) := by
      have := cntA_snoc m [a] b p
      rw [show [a] ++ [b] = [a, b] from rfl] at this
      rw [this]
      have h2 := cntA_snoc m [] a p
      rw [show [] ++ [a] = [a] from rfl] at h2
      rw [h2]
      simp [cntA]
    rw [decide_eq_true_iff, e]
    cases inA m a p <;> cases inA m b p <;> simp
  exact ⟨fun ⟨p, hp, hh⟩ => ⟨p, hp, (h p).1 hh⟩, fun ⟨p, hp, hh⟩ => ⟨p, hp, (h p).2 hh⟩⟩
theorem arcs_two {W : World} {g : Nat} {a b : Ai} (h : W.heap[g]? = some (.cells #[.int .i64 a.1, .int .i64 a.2, .int .i64 b.1, .int .i64 b.2] 41 (0, 0))) (ha : I64 a.1 ∧ I64 a.2) (hb : I64 b.1 ∧ I64 b.2) : Arcs W (some ⟨g, 0, none⟩) [a, b] := by
  refine ⟨fun z hz => ?_, .inr ⟨g, 0, rfl, (Array.getElem?_eq_some_iff.1 h).1, fun i hi => ?_⟩⟩
  · simp at hz
    rcases hz with rfl | rfl
    · exact ha
    · exact hb
  · rcases i with _ | _ | i
    · exact ⟨by rw [cell_of_row _ _ _ _ _ _ h]; rfl, by rw [cell_of_row _ _ _ _ _ _ h]; rfl⟩
    · exact ⟨by rw [cell_of_row _ _ _ _ _ _ h]; rfl, by rw [cell_of_row _ _ _ _ _ _ h]; rfl⟩
    · simp at hi; omega
theorem getD_end (l : List Ai) : (l ++ [((77 : Int), (0 : Int))]).getD l.length ((0 : Int), (0 : Int)) = ((77 : Int), (0 : Int)) := by
  rw [List.getD_eq_getElem?_getD, List.getElem?_append_right (Nat.le_refl _)]; simp
theorem fit_both (l : List Ai) (s : Int) (m : Nat) (hmay : mayB m l = true) : ∃ cv er at_ : Int, fitV l s m = .tuple #[.int .i64 cv, .int .i64 er] ∧ rfitV l s m = .int .i64 at_ ∧ ((cv = 0 ∧ er = 2 ∧ at_ = -1) ∨ (er = 0 ∧ 0 ≤ at_ ∧ cv = at_)) := by
  unfold fitV rfitV
  rw [if_pos hmay]
  split
  · split
    · exact ⟨0, 2, -1, rfl, rfl, .inl ⟨rfl, rfl, rfl⟩⟩
    · exact ⟨_, 0, _, rfl, rfl, .inr ⟨rfl, by omega, rfl⟩⟩
  · exact ⟨0, 2, -1, rfl, rfl, .inl ⟨rfl, rfl, rfl⟩⟩
set_option maxHeartbeats 8000000 in
theorem arcs_walk (l : List Ai) (A : Option Addr) (c : Nat) (s n : Int) (w : World) (hI : Arcs w A l) (hA : ∀ a, A = some a → a.spot = none) (hs : I64 s) (hn : I64 n) (hc : l.length ≤ c) (hc2 : c ≤ maxLen) :
    Calls Try.prog 4 #[.slice A l.length c, .int .i64 s, .int .i64 n] w fun e w' => e = .returned (.bool true) ∧ Below w.heap.size w w' := by
  by_cases h1000 : 1000 < n ∧ n ≤ 1048576
  · obtain ⟨N, hN⟩ : ∃ N, N = l.length := ⟨_, rfl⟩
    rw [← hN]
    have hd1 : (decide ((1000 : Int) < n)) = true := decide_eq_true h1000.1
    have hd2 : (decide (n ≤ (1048576 : Int))) = true := decide_eq_true h1000.2
    clear hN hI hc
    go_enter Try.func4, Try.ntmps4
    go_wp2_with fail
    go_ret
    exact ⟨rfl, Below.refl _ _⟩
  by_cases h20 : 20 < l.length
  · obtain ⟨N, hN⟩ : ∃ N, N = l.length := ⟨_, rfl⟩
    rw [← hN] at h20 ⊢
    clear hN hI hc
    by_cases h1 : 1000 < n
    · have h2 : ¬ n ≤ 1048576 := by omega
      clear h1000
      go_enter Try.func4, Try.ntmps4
      go_wp2_with fail
      go_ret
      exact ⟨rfl, Below.refl _ _⟩
    · clear h1000
      go_enter Try.func4, Try.ntmps4
      go_wp2_with fail
      go_ret
      exact ⟨rfl, Below.refl _ _⟩
  have hring : ringB n = true → n ≤ 1000 := fun h => by have := ringB_t h; omega
  have HMy := hide (fun W (h : Arcs W A l) => rmay_at l A c n W h (by omega))
  have HCv := hide (fun W B d (h : Arcs W B l) hB => Covered_at l B d n W h hB hring (by omega))
  have HGp := hide (fun W B d (h : Arcs W B l) hB => Gaps_at l B d n W h hB hring (by omega))
  have HFt := hide (fun W B d (h : Arcs W B l) hB => Fit_at l B d s n W h hB hring (by omega))
  have HI := hide (fun W (h : Below w.heap.size w W) => hI.of_below h (Nat.le_refl _))
  have HTw := hide (twin_at l A c w hI (by omega) hA)
  obtain ⟨N, hN⟩ : ∃ N, N = l.length := ⟨_, rfl⟩
  have HN := hide hN
  cases hmay : mayB n l with
  | false =>
    rw [show coveredV l n = .tuple #[.int .i64 0, .int .i64 130] from if_neg (by rw [hmay]; decide)] at HCv
    rw [show fitV l s n = .tuple #[.int .i64 0, .int .i64 130] from if_neg (by rw [hmay]; decide)] at HFt
    unfold gapsR at HGp
    rw [hmay] at HGp HMy
    have hd2 : (decide ((20 : Int) < (N : Int))) = false := decide_eq_false (by omega)
    rw [← hN] at h20 HCv HGp HMy HFt HTw ⊢
    rcases (show n ≤ 1000 ∨ (1000 < n ∧ 1048576 < n) from by omega) with h1 | ⟨h1, h2⟩
    · have hd1 : (decide ((1000 : Int) < n)) = false := decide_eq_false (by omega)
      clear hI hN hmay hring h1000
      go_enter Try.func4, Try.ntmps4
      go_wp2_with fail
      refine HTw.out.mono ?_
      rintro e w1 ⟨⟨g, cp, rfl, hcp, hcp2, hg, hAr, hb⟩⟩
      rw [← HN.out] at hcp ⊢
      obtain ⟨M, hM⟩ : ∃ M, M = N + 1 := ⟨_, rfl⟩
      rw [← hM] at hcp ⊢
      have hNM : N < M := by omega
      clear hM
      have HAr := hide (fun W (h : Below w1.heap.size w1 W) => hAr.of_below h (Nat.le_refl _))
      have HB1 := hide hb
      have hsz := hb.size
      clear hAr hb HTw
      go_wp2_with fail
      refine (HMy.out _ (HI.out _ HB1.out)).mono ?_
      rintro e w' ⟨rfl, rfl⟩
      go_wp2_with fail
      refine (HCv.out _ _ _ (arcs_pre (HAr.out _ (Below.refl _ _))) (by rintro a ⟨⟩; rfl)).mono ?_
      rintro e w2 ⟨rfl, hb⟩
      have HB2 := hide hb
      have hsz2 := hb.size
      clear hb
      go_wp2_with fail
      refine (HGp.out _ _ _ (arcs_pre (HAr.out _ HB2.out)) (by rintro a ⟨⟩; rfl)).mono ?_
      rintro e w3 ⟨h, hb⟩
      obtain rfl : e = .returned (.tuple #[.slice none 0 0, .int .i64 130]) := by simpa using h
      have HB3 := hide (HB2.out.trans (hb.mono hsz2))
      have hsz3 := hb.size
      clear hb h
      go_wp2_with fail
      refine (HFt.out _ _ _ (arcs_pre (HAr.out _ HB3.out)) (by rintro a ⟨⟩; rfl)).mono ?_
      rintro e w4 ⟨rfl, hb⟩
      have HB4 := hide (HB3.out.trans (hb.mono (Nat.le_trans hsz2 hsz3)))
      have hsz4 := hb.size
      clear hb HCv HGp HFt HMy
      go_wp2_with fail
      have hN20 : N ≤ 20 := by omega
      have HUp := hide (fun W (h : Below w4.heap.size w4 W) => (HB4.out.trans (h.mono (Nat.le_trans (Nat.le_trans hsz2 hsz3) hsz4)) : Below w1.heap.size w1 W))
      have HUp0 := hide (fun W (h : Below w4.heap.size w4 W) => (HB1.out.trans ((HUp.out W h).mono hsz) : Below w.heap.size w W))
      go_loopw [15, 72] (fun _ kv wr => ∃ k : Nat, k ≤ N ∧ kv = .int .i64 k ∧ Below w4.heap.size w4 wr) (fun _ kv _ => N - (intOf kv).toNat)
      case atStart => exact ⟨0, Nat.zero_le _, rfl, Below.refl _ _⟩
      case round =>
        obtain ⟨k, hk, rfl, hb⟩ := hrel
        have HBr := hide hb
        by_cases hlt : k < N
        · have hil : k < l.length := by rw [← HN.out]; exact hlt
          obtain ⟨b2, off2, rfl, hbl2, d0, d1⟩ := (HI.out _ (below_drew (HUp0.out _ hb))).at hil
          obtain ⟨b, off, e, hbl, c0, c1⟩ := (arcs_pre (HAr.out _ (below_drew (HUp.out _ hb)))).at hil
          cases e
          rw [Nat.zero_add] at c0 c1
          generalize l.getD k (0, 0) = ar at *
          obtain ⟨F, G⟩ := ar
          dsimp only at c0 c1 d0 d1
          have hkM : k < M := by omega
          have HS0 : Hid ((fun w' => w'.cell? ⟨g, k * 2, none⟩ = some (.int .i64 F) ∧ w'.cell? ⟨g, k * 2 + 1, none⟩ = some (.int .i64 G) ∧ w'.cell? ⟨b2, off2 + k * 2, none⟩ = some (.int .i64 F) ∧ w'.cell? ⟨b2, off2 + k * 2 + 1, none⟩ = some (.int .i64 G) ∧ Below w4.heap.size w4 w') wr.drew) := ⟨c0, c1, d0, d1, below_drew hb⟩
          clear hil c0 c1 d0 d1 hb
          go_wp2_with fail
          refine wp_region_held_drew (S := fun w' => w'.cell? ⟨g, k * 2, none⟩ = some (.int .i64 F) ∧ w'.cell? ⟨g, k * 2 + 1, none⟩ = some (.int .i64 G) ∧ w'.cell? ⟨b2, off2 + k * 2, none⟩ = some (.int .i64 F) ∧ w'.cell? ⟨b2, off2 + k * 2 + 1, none⟩ = some (.int .i64 G) ∧ Below w4.heap.size w4 w') (by kernel_rfl) (HS0.out) (fun hHeld => ?_)
          refine wpAnyH_take (i := 0) (v := ?v1_0) rfl (by kernel_rfl) (by kernel_rfl) (by kernel_rfl) (fun _ _ _ h => h) (Or.inl ⟨by kernel_rfl, ?y1_0⟩) (by assumption) ?r1_0
          case y1_0 => (intro W hSW; (try dsimp only at hSW); go_simp; (try with_reducible rfl))
          change wpAnyH _ _ _ _ _ _ _ (Act.put _ (some 75) _) _
          (try simp only [Act.put, List.setIfInBounds_toArray, List.set_cons_zero, List.set_cons_succ])
          refine wpAnyH_take (i := 1) (v := ?v1_1) rfl (by kernel_rfl) (by kernel_rfl) (by kernel_rfl) (fun _ _ _ h => h) (Or.inl ⟨by kernel_rfl, ?y1_1⟩) (by assumption) ?r1_1
          case y1_1 => (intro W hSW; (try dsimp only at hSW); go_simp; (try with_reducible rfl))
          change wpAnyH _ _ _ _ _ _ _ (Act.put _ (some 76) _) _
          (try simp only [Act.put, List.setIfInBounds_toArray, List.set_cons_zero, List.set_cons_succ])
          refine wpAnyH_take (i := 2) (v := ?v1_2) rfl (by kernel_rfl) (by kernel_rfl) (by kernel_rfl) (fun _ _ _ h => h) (Or.inl ⟨by kernel_rfl, ?y1_2⟩) (by assumption) ?r1_2
          case y1_2 => (intro W hSW; (try dsimp only at hSW); go_simp; (try with_reducible rfl))
          change wpAnyH _ _ _ _ _ _ _ (Act.put _ (some 77) _) _
          (try simp only [Act.put, List.setIfInBounds_toArray, List.set_cons_zero, List.set_cons_succ])
          refine wpAnyH_take (i := 3) (v := ?v1_3) rfl (by kernel_rfl) (by kernel_rfl) (by kernel_rfl) (fun _ _ _ h => h) (Or.inl ⟨by kernel_rfl, ?y1_3⟩) (by assumption) ?r1_3
          case y1_3 => (intro W hSW; (try dsimp only at hSW); go_simp; (try with_reducible rfl))
          change wpAnyH _ _ _ _ _ _ _ (Act.put _ (some 78) _) _
          (try simp only [Act.put, List.setIfInBounds_toArray, List.set_cons_zero, List.set_cons_succ])
          refine wpAnyH_take (i := 4) (v := ?v1_4) rfl (by kernel_rfl) (by kernel_rfl) (by kernel_rfl) (fun _ _ _ h => h) (Or.inl ⟨by kernel_rfl, ?y1_4⟩) (by assumption) ?r1_4
          case y1_4 => (intro W hSW; (try dsimp only at hSW); go_simp; (try with_reducible rfl))
          change wpAnyH _ _ _ _ _ _ _ (Act.put _ (some 79) _) _
          (try simp only [Act.put, List.setIfInBounds_toArray, List.set_cons_zero, List.set_cons_succ])
          refine wpAnyH_take (i := 5) (v := ?v1_5) rfl (by kernel_rfl) (by kernel_rfl) (by kernel_rfl) (fun _ _ _ h => h) (Or.inl ⟨by kernel_rfl, ?y1_5⟩) (by assumption) ?r1_5
          case y1_5 => (intro W hSW; (try dsimp only at hSW); go_simp; (try with_reducible rfl))
          change wpAnyH _ _ _ _ _ _ _ (Act.put _ (some 80) _) _
          (try simp only [Act.put, List.setIfInBounds_toArray, List.set_cons_zero, List.set_cons_succ])
          refine wpAnyH_take (i := 6) (v := ?v1_6) rfl (by kernel_rfl) (by kernel_rfl) (by kernel_rfl) (fun _ _ _ h => h) (Or.inl ⟨by kernel_rfl, ?y1_6⟩) (by assumption) ?r1_6
          case y1_6 => (intro W hSW; (try dsimp only at hSW); go_simp; (try with_reducible rfl))
          change wpAnyH _ _ _ _ _ _ _ (Act.put _ (some 81) _) _
          (try simp only [Act.put, List.setIfInBounds_toArray, List.set_cons_zero, List.set_cons_succ])
          refine wpAnyH_take (i := 7) (v := ?v1_7) rfl (by kernel_rfl) (by kernel_rfl) (by kernel_rfl) (fun _ _ _ h => h) (Or.inl ⟨by kernel_rfl, ?y1_7⟩) (by assumption) ?r1_7
          case y1_7 => (intro W hSW; (try dsimp only at hSW); go_simp; (try with_reducible rfl))
          change wpAnyH _ _ _ _ _ _ _ (Act.put _ (some 82) _) _
          (try simp only [Act.put, List.setIfInBounds_toArray, List.set_cons_zero, List.set_cons_succ])
          refine wpAnyH_take (i := 8) (v := ?v1_8) rfl (by kernel_rfl) (by kernel_rfl) (by kernel_rfl) (fun _ _ _ h => h) (Or.inl ⟨by kernel_rfl, ?y1_8⟩) (by assumption) ?r1_8
          case y1_8 => (intro W hSW; (try dsimp only at hSW); go_simp; (try with_reducible rfl))
          change wpAnyH _ _ _ _ _ _ _ (Act.put _ (some 83) _) _
          (try simp only [Act.put, List.setIfInBounds_toArray, List.set_cons_zero, List.set_cons_succ])
          refine wpAnyH_done (by kernel_rfl) ?_ _
          obtain ⟨_, _, _, _, hbw⟩ := hHeld
          have HB2 := hide hbw
          clear HS0 hbw
          go_wp2_with fail
          exact ⟨⟨k + 1, by omega, by go_num, HB2.out⟩, by simp [intOf]; omega⟩
        · have hkN : N = k := by omega
          subst hkN
          obtain ⟨b, off, e, _, c0, _⟩ := (HAr.out _ (HUp.out _ hb)).at (k := l.length) (by simp)
          cases e
          rw [getD_end, Nat.zero_add, ← HN.out] at c0
          have HFin := hide (HUp0.out _ hb)
          clear hb
          go_wp2_with fail
          go_ret
          exact ⟨rfl, HFin.out⟩
    · have hd1 : (decide ((1000 : Int) < n)) = true := decide_eq_true (by omega)
      have hd3 : (decide (n ≤ (1048576 : Int))) = false := decide_eq_false (by omega)
      clear hI hN hmay hring h1000
      go_enter Try.func4, Try.ntmps4
      go_wp2_with fail
      refine HTw.out.mono ?_
      rintro e w1 ⟨⟨g, cp, rfl, hcp, hcp2, hg, hAr, hb⟩⟩
      rw [← HN.out] at hcp ⊢
      obtain ⟨M, hM⟩ : ∃ M, M = N + 1 := ⟨_, rfl⟩
      rw [← hM] at hcp ⊢
      have hNM : N < M := by omega
      clear hM
      have HAr := hide (fun W (h : Below w1.heap.size w1 W) => hAr.of_below h (Nat.le_refl _))
      have HB1 := hide hb
      have hsz := hb.size
      clear hAr hb HTw
      go_wp2_with fail
      refine (HMy.out _ (HI.out _ HB1.out)).mono ?_
      rintro e w' ⟨rfl, rfl⟩
      go_wp2_with fail
      refine (HCv.out _ _ _ (arcs_pre (HAr.out _ (Below.refl _ _))) (by rintro a ⟨⟩; rfl)).mono ?_
      rintro e w2 ⟨rfl, hb⟩
      have HB2 := hide hb
      have hsz2 := hb.size
      clear hb
      go_wp2_with fail
      refine (HGp.out _ _ _ (arcs_pre (HAr.out _ HB2.out)) (by rintro a ⟨⟩; rfl)).mono ?_
      rintro e w3 ⟨h, hb⟩
      obtain rfl : e = .returned (.tuple #[.slice none 0 0, .int .i64 130]) := by simpa using h
      have HB3 := hide (HB2.out.trans (hb.mono hsz2))
      have hsz3 := hb.size
      clear hb h
      go_wp2_with fail
      refine (HFt.out _ _ _ (arcs_pre (HAr.out _ HB3.out)) (by rintro a ⟨⟩; rfl)).mono ?_
      rintro e w4 ⟨rfl, hb⟩
      have HB4 := hide (HB3.out.trans (hb.mono (Nat.le_trans hsz2 hsz3)))
      have hsz4 := hb.size
      clear hb HCv HGp HFt HMy
      go_wp2_with fail
      have hN20 : N ≤ 20 := by omega
      have HUp := hide (fun W (h : Below w4.heap.size w4 W) => (HB4.out.trans (h.mono (Nat.le_trans (Nat.le_trans hsz2 hsz3) hsz4)) : Below w1.heap.size w1 W))
      have HUp0 := hide (fun W (h : Below w4.heap.size w4 W) => (HB1.out.trans ((HUp.out W h).mono hsz) : Below w.heap.size w W))
      go_loopw [15, 72] (fun _ kv wr => ∃ k : Nat, k ≤ N ∧ kv = .int .i64 k ∧ Below w4.heap.size w4 wr) (fun _ kv _ => N - (intOf kv).toNat)
      case atStart => exact ⟨0, Nat.zero_le _, rfl, Below.refl _ _⟩
      case round =>
        obtain ⟨k, hk, rfl, hb⟩ := hrel
        have HBr := hide hb
        by_cases hlt : k < N
        · have hil : k < l.length := by rw [← HN.out]; exact hlt
          obtain ⟨b2, off2, rfl, hbl2, d0, d1⟩ := (HI.out _ (below_drew (HUp0.out _ hb))).at hil
          obtain ⟨b, off, e, hbl, c0, c1⟩ := (arcs_pre (HAr.out _ (below_drew (HUp.out _ hb)))).at hil
          cases e
          rw [Nat.zero_add] at c0 c1
          generalize l.getD k (0, 0) = ar at *
          obtain ⟨F, G⟩ := ar
          dsimp only at c0 c1 d0 d1
          have hkM : k < M := by omega
          have HS0 : Hid ((fun w' => w'.cell? ⟨g, k * 2, none⟩ = some (.int .i64 F) ∧ w'.cell? ⟨g, k * 2 + 1, none⟩ = some (.int .i64 G) ∧ w'.cell? ⟨b2, off2 + k * 2, none⟩ = some (.int .i64 F) ∧ w'.cell? ⟨b2, off2 + k * 2 + 1, none⟩ = some (.int .i64 G) ∧ Below w4.heap.size w4 w') wr.drew) := ⟨c0, c1, d0, d1, below_drew hb⟩
          clear hil c0 c1 d0 d1 hb
          go_wp2_with fail
          refine wp_region_held_drew (S := fun w' => w'.cell? ⟨g, k * 2, none⟩ = some (.int .i64 F) ∧ w'.cell? ⟨g, k * 2 + 1, none⟩ = some (.int .i64 G) ∧ w'.cell? ⟨b2, off2 + k * 2, none⟩ = some (.int .i64 F) ∧ w'.cell? ⟨b2, off2 + k * 2 + 1, none⟩ = some (.int .i64 G) ∧ Below w4.heap.size w4 w') (by kernel_rfl) (HS0.out) (fun hHeld => ?_)
          refine wpAnyH_take (i := 0) (v := ?v2_0) rfl (by kernel_rfl) (by kernel_rfl) (by kernel_rfl) (fun _ _ _ h => h) (Or.inl ⟨by kernel_rfl, ?y2_0⟩) (by assumption) ?r2_0
          case y2_0 => (intro W hSW; (try dsimp only at hSW); go_simp; (try with_reducible rfl))
          change wpAnyH _ _ _ _ _ _ _ (Act.put _ (some 75) _) _
          (try simp only [Act.put, List.setIfInBounds_toArray, List.set_cons_zero, List.set_cons_succ])
          refine wpAnyH_take (i := 1) (v := ?v2_1) rfl (by kernel_rfl) (by kernel_rfl) (by kernel_rfl) (fun _ _ _ h => h) (Or.inl ⟨by kernel_rfl, ?y2_1⟩) (by assumption) ?r2_1
          case y2_1 => (intro W hSW; (try dsimp only at hSW); go_simp; (try with_reducible rfl))
          change wpAnyH _ _ _ _ _ _ _ (Act.put _ (some 76) _) _
          (try simp only [Act.put, List.setIfInBounds_toArray, List.set_cons_zero, List.set_cons_succ])
          refine wpAnyH_take (i := 2) (v := ?v2_2) rfl (by kernel_rfl) (by kernel_rfl) (by kernel_rfl) (fun _ _ _ h => h) (Or.inl ⟨by kernel_rfl, ?y2_2⟩) (by assumption) ?r2_2
          case y2_2 => (intro W hSW; (try dsimp only at hSW); go_simp; (try with_reducible rfl))
          change wpAnyH _ _ _ _ _ _ _ (Act.put _ (some 77) _) _
          (try simp only [Act.put, List.setIfInBounds_toArray, List.set_cons_zero, List.set_cons_succ])
          refine wpAnyH_take (i := 3) (v := ?v2_3) rfl (by kernel_rfl) (by kernel_rfl) (by kernel_rfl) (fun _ _ _ h => h) (Or.inl ⟨by kernel_rfl, ?y2_3⟩) (by assumption) ?r2_3
          case y2_3 => (intro W hSW; (try dsimp only at hSW); go_simp; (try with_reducible rfl))
          change wpAnyH _ _ _ _ _ _ _ (Act.put _ (some 78) _) _
          (try simp only [Act.put, List.setIfInBounds_toArray, List.set_cons_zero, List.set_cons_succ])
          refine wpAnyH_take (i := 4) (v := ?v2_4) rfl (by kernel_rfl) (by kernel_rfl) (by kernel_rfl) (fun _ _ _ h => h) (Or.inl ⟨by kernel_rfl, ?y2_4⟩) (by assumption) ?r2_4
          case y2_4 => (intro W hSW; (try dsimp only at hSW); go_simp; (try with_reducible rfl))
          change wpAnyH _ _ _ _ _ _ _ (Act.put _ (some 79) _) _
          (try simp only [Act.put, List.setIfInBounds_toArray, List.set_cons_zero, List.set_cons_succ])
          refine wpAnyH_take (i := 5) (v := ?v2_5) rfl (by kernel_rfl) (by kernel_rfl) (by kernel_rfl) (fun _ _ _ h => h) (Or.inl ⟨by kernel_rfl, ?y2_5⟩) (by assumption) ?r2_5
          case y2_5 => (intro W hSW; (try dsimp only at hSW); go_simp; (try with_reducible rfl))
          change wpAnyH _ _ _ _ _ _ _ (Act.put _ (some 80) _) _
          (try simp only [Act.put, List.setIfInBounds_toArray, List.set_cons_zero, List.set_cons_succ])
          refine wpAnyH_take (i := 6) (v := ?v2_6) rfl (by kernel_rfl) (by kernel_rfl) (by kernel_rfl) (fun _ _ _ h => h) (Or.inl ⟨by kernel_rfl, ?y2_6⟩) (by assumption) ?r2_6
          case y2_6 => (intro W hSW; (try dsimp only at hSW); go_simp; (try with_reducible rfl))
          change wpAnyH _ _ _ _ _ _ _ (Act.put _ (some 81) _) _
          (try simp only [Act.put, List.setIfInBounds_toArray, List.set_cons_zero, List.set_cons_succ])
          refine wpAnyH_take (i := 7) (v := ?v2_7) rfl (by kernel_rfl) (by kernel_rfl) (by kernel_rfl) (fun _ _ _ h => h) (Or.inl ⟨by kernel_rfl, ?y2_7⟩) (by assumption) ?r2_7
          case y2_7 => (intro W hSW; (try dsimp only at hSW); go_simp; (try with_reducible rfl))
          change wpAnyH _ _ _ _ _ _ _ (Act.put _ (some 82) _) _
          (try simp only [Act.put, List.setIfInBounds_toArray, List.set_cons_zero, List.set_cons_succ])
          refine wpAnyH_take (i := 8) (v := ?v2_8) rfl (by kernel_rfl) (by kernel_rfl) (by kernel_rfl) (fun _ _ _ h => h) (Or.inl ⟨by kernel_rfl, ?y2_8⟩) (by assumption) ?r2_8
          case y2_8 => (intro W hSW; (try dsimp only at hSW); go_simp; (try with_reducible rfl))
          change wpAnyH _ _ _ _ _ _ _ (Act.put _ (some 83) _) _
          (try simp only [Act.put, List.setIfInBounds_toArray, List.set_cons_zero, List.set_cons_succ])
          refine wpAnyH_done (by kernel_rfl) ?_ _
          obtain ⟨_, _, _, _, hbw⟩ := hHeld
          have HB2 := hide hbw
          clear HS0 hbw
          go_wp2_with fail
          exact ⟨⟨k + 1, by omega, by go_num, HB2.out⟩, by simp [intOf]; omega⟩
        · have hkN : N = k := by omega
          subst hkN
          obtain ⟨b, off, e, _, c0, _⟩ := (HAr.out _ (HUp.out _ hb)).at (k := l.length) (by simp)
          cases e
          rw [getD_end, Nat.zero_add, ← HN.out] at c0
          have HFin := hide (HUp0.out _ hb)
          clear hb
          go_wp2_with fail
          go_ret
          exact ⟨rfl, HFin.out⟩
  | true =>
    obtain ⟨hrg, hok⟩ := mayB_t hmay
    obtain ⟨m, rfl⟩ := Int.eq_ofNat_of_zero_le (show 0 ≤ n by omega)
    have hm0 : 0 < m := by omega
    have hm1 : m ≤ 1000 := by omega
    have hd1 : (decide ((1000 : Int) < (m : Int))) = false := decide_eq_false (by omega)
    have hd2 : (decide ((20 : Int) < (N : Int))) = false := decide_eq_false (by omega)
    rw [show coveredV l m = .tuple #[.int .i64 (cnt (tkI m l) m : Nat), .int .i64 0] from if_pos hmay] at HCv
    unfold gapsR at HGp
    rw [hmay] at HGp HMy
    obtain ⟨cv, er, at_, hf1, hf2, hf3⟩ := fit_both l s m hmay
    rw [hf1] at HFt
    have HRf := hide hf2
    have HF3 := hide hf3
    clear hf1 hf2 hf3
    rw [← hN] at h20 HCv HGp HMy HFt HTw ⊢
    clear hI hN hmay hring h1000
    go_enter Try.func4, Try.ntmps4
    go_wp2_with fail
    refine HTw.out.mono ?_
    rintro e w1 ⟨⟨g, cp, rfl, hcp, hcp2, hg, hAr, hb⟩⟩
    rw [← HN.out] at hcp ⊢
    obtain ⟨M, hM⟩ : ∃ M, M = N + 1 := ⟨_, rfl⟩
    rw [← hM] at hcp ⊢
    have hNM : N < M := by omega
    clear hM
    have HAr := hide (fun W (h : Below w1.heap.size w1 W) => hAr.of_below h (Nat.le_refl _))
    have HB1 := hide hb
    have hsz := hb.size
    clear hAr hb HTw
    go_wp2_with fail
    refine (HMy.out _ (HI.out _ HB1.out)).mono ?_
    rintro e w' ⟨rfl, rfl⟩
    go_wp2_with fail
    refine (HCv.out _ _ _ (arcs_pre (HAr.out _ (Below.refl _ _))) (by rintro a ⟨⟩; rfl)).mono ?_
    rintro e w2 ⟨rfl, hb⟩
    have HB2 := hide hb
    have hsz2 := hb.size
    clear hb
    go_wp2_with fail
    refine (HGp.out _ _ _ (arcs_pre (HAr.out _ HB2.out)) (by rintro a ⟨⟩; rfl)).mono ?_
    rintro e w3 ⟨h, hb⟩
    obtain ⟨v, rfl, hO⟩ : ∃ v, e = .returned (.tuple #[v, .int .i64 0]) ∧ OwnA w3 w2.heap.size v (toI (gapF (tkI m l) m)) := by simpa using h
    have HB3 := hide (HB2.out.trans (hb.mono hsz2))
    have hsz3 := hb.size
    have HO := hide hO
    clear hb h hO
    go_wp2_with fail
    refine (HFt.out _ _ _ (arcs_pre (HAr.out _ HB3.out)) (by rintro a ⟨⟩; rfl)).mono ?_
    rintro e w4 ⟨rfl, hb⟩
    have HB4 := hide (HB3.out.trans (hb.mono (Nat.le_trans hsz2 hsz3)))
    have hsz4 := hb.size
    have HO4 := hide (own_from HO.out hb)
    clear hb HO HCv HGp HFt HMy
    go_wp2_with fail
    have hN20 : N ≤ 20 := by omega
    have HUp := hide (fun W (h : Below w4.heap.size w4 W) => (HB4.out.trans (h.mono (Nat.le_trans (Nat.le_trans hsz2 hsz3) hsz4)) : Below w1.heap.size w1 W))
    have HUp0 := hide (fun W (h : Below w4.heap.size w4 W) => (HB1.out.trans ((HUp.out W h).mono hsz) : Below w.heap.size w W))
    generalize hcn : cnt (tkI m l) m = many at *
    have HCn := hide hcn
    clear hcn
    go_loopw [15, 72] (fun _ kv wr => ∃ k : Nat, k ≤ N ∧ kv = .int .i64 k ∧ Below w4.heap.size w4 wr) (fun _ kv _ => N - (intOf kv).toNat)
    case atStart => exact ⟨0, Nat.zero_le _, rfl, Below.refl _ _⟩
    case round =>
      obtain ⟨k, hk, rfl, hb⟩ := hrel
      have HBr := hide hb
      by_cases hlt : k < N
      · have hil : k < l.length := by rw [← HN.out]; exact hlt
        obtain ⟨b2, off2, rfl, hbl2, d0, d1⟩ := (HI.out _ (below_drew (HUp0.out _ hb))).at hil
        obtain ⟨b, off, e, hbl, c0, c1⟩ := (arcs_pre (HAr.out _ (below_drew (HUp.out _ hb)))).at hil
        cases e
        rw [Nat.zero_add] at c0 c1
        generalize l.getD k (0, 0) = ar at *
        obtain ⟨F, G⟩ := ar
        dsimp only at c0 c1 d0 d1
        have hkM : k < M := by omega
        have HS0 : Hid ((fun w' => w'.cell? ⟨g, k * 2, none⟩ = some (.int .i64 F) ∧ w'.cell? ⟨g, k * 2 + 1, none⟩ = some (.int .i64 G) ∧ w'.cell? ⟨b2, off2 + k * 2, none⟩ = some (.int .i64 F) ∧ w'.cell? ⟨b2, off2 + k * 2 + 1, none⟩ = some (.int .i64 G) ∧ Below w4.heap.size w4 w') wr.drew) := ⟨c0, c1, d0, d1, below_drew hb⟩
        clear hil c0 c1 d0 d1 hb
        go_wp2_with fail
        refine wp_region_held_drew (S := fun w' => w'.cell? ⟨g, k * 2, none⟩ = some (.int .i64 F) ∧ w'.cell? ⟨g, k * 2 + 1, none⟩ = some (.int .i64 G) ∧ w'.cell? ⟨b2, off2 + k * 2, none⟩ = some (.int .i64 F) ∧ w'.cell? ⟨b2, off2 + k * 2 + 1, none⟩ = some (.int .i64 G) ∧ Below w4.heap.size w4 w') (by kernel_rfl) (HS0.out) (fun hHeld => ?_)
        refine wpAnyH_take (i := 0) (v := ?v3_0) rfl (by kernel_rfl) (by kernel_rfl) (by kernel_rfl) (fun _ _ _ h => h) (Or.inl ⟨by kernel_rfl, ?y3_0⟩) (by assumption) ?r3_0
        case y3_0 => (intro W hSW; (try dsimp only at hSW); go_simp; (try with_reducible rfl))
        change wpAnyH _ _ _ _ _ _ _ (Act.put _ (some 75) _) _
        (try simp only [Act.put, List.setIfInBounds_toArray, List.set_cons_zero, List.set_cons_succ])
        refine wpAnyH_take (i := 1) (v := ?v3_1) rfl (by kernel_rfl) (by kernel_rfl) (by kernel_rfl) (fun _ _ _ h => h) (Or.inl ⟨by kernel_rfl, ?y3_1⟩) (by assumption) ?r3_1
        case y3_1 => (intro W hSW; (try dsimp only at hSW); go_simp; (try with_reducible rfl))
        change wpAnyH _ _ _ _ _ _ _ (Act.put _ (some 76) _) _
        (try simp only [Act.put, List.setIfInBounds_toArray, List.set_cons_zero, List.set_cons_succ])
        refine wpAnyH_take (i := 2) (v := ?v3_2) rfl (by kernel_rfl) (by kernel_rfl) (by kernel_rfl) (fun _ _ _ h => h) (Or.inl ⟨by kernel_rfl, ?y3_2⟩) (by assumption) ?r3_2
        case y3_2 => (intro W hSW; (try dsimp only at hSW); go_simp; (try with_reducible rfl))
        change wpAnyH _ _ _ _ _ _ _ (Act.put _ (some 77) _) _
        (try simp only [Act.put, List.setIfInBounds_toArray, List.set_cons_zero, List.set_cons_succ])
        refine wpAnyH_take (i := 3) (v := ?v3_3) rfl (by kernel_rfl) (by kernel_rfl) (by kernel_rfl) (fun _ _ _ h => h) (Or.inl ⟨by kernel_rfl, ?y3_3⟩) (by assumption) ?r3_3
        case y3_3 => (intro W hSW; (try dsimp only at hSW); go_simp; (try with_reducible rfl))
        change wpAnyH _ _ _ _ _ _ _ (Act.put _ (some 78) _) _
        (try simp only [Act.put, List.setIfInBounds_toArray, List.set_cons_zero, List.set_cons_succ])
        refine wpAnyH_take (i := 4) (v := ?v3_4) rfl (by kernel_rfl) (by kernel_rfl) (by kernel_rfl) (fun _ _ _ h => h) (Or.inl ⟨by kernel_rfl, ?y3_4⟩) (by assumption) ?r3_4
        case y3_4 => (intro W hSW; (try dsimp only at hSW); go_simp; (try with_reducible rfl))
        change wpAnyH _ _ _ _ _ _ _ (Act.put _ (some 79) _) _
        (try simp only [Act.put, List.setIfInBounds_toArray, List.set_cons_zero, List.set_cons_succ])
        refine wpAnyH_take (i := 5) (v := ?v3_5) rfl (by kernel_rfl) (by kernel_rfl) (by kernel_rfl) (fun _ _ _ h => h) (Or.inl ⟨by kernel_rfl, ?y3_5⟩) (by assumption) ?r3_5
        case y3_5 => (intro W hSW; (try dsimp only at hSW); go_simp; (try with_reducible rfl))
        change wpAnyH _ _ _ _ _ _ _ (Act.put _ (some 80) _) _
        (try simp only [Act.put, List.setIfInBounds_toArray, List.set_cons_zero, List.set_cons_succ])
        refine wpAnyH_take (i := 6) (v := ?v3_6) rfl (by kernel_rfl) (by kernel_rfl) (by kernel_rfl) (fun _ _ _ h => h) (Or.inl ⟨by kernel_rfl, ?y3_6⟩) (by assumption) ?r3_6
        case y3_6 => (intro W hSW; (try dsimp only at hSW); go_simp; (try with_reducible rfl))
        change wpAnyH _ _ _ _ _ _ _ (Act.put _ (some 81) _) _
        (try simp only [Act.put, List.setIfInBounds_toArray, List.set_cons_zero, List.set_cons_succ])
        refine wpAnyH_take (i := 7) (v := ?v3_7) rfl (by kernel_rfl) (by kernel_rfl) (by kernel_rfl) (fun _ _ _ h => h) (Or.inl ⟨by kernel_rfl, ?y3_7⟩) (by assumption) ?r3_7
        case y3_7 => (intro W hSW; (try dsimp only at hSW); go_simp; (try with_reducible rfl))
        change wpAnyH _ _ _ _ _ _ _ (Act.put _ (some 82) _) _
        (try simp only [Act.put, List.setIfInBounds_toArray, List.set_cons_zero, List.set_cons_succ])
        refine wpAnyH_take (i := 8) (v := ?v3_8) rfl (by kernel_rfl) (by kernel_rfl) (by kernel_rfl) (fun _ _ _ h => h) (Or.inl ⟨by kernel_rfl, ?y3_8⟩) (by assumption) ?r3_8
        case y3_8 => (intro W hSW; (try dsimp only at hSW); go_simp; (try with_reducible rfl))
        change wpAnyH _ _ _ _ _ _ _ (Act.put _ (some 83) _) _
        (try simp only [Act.put, List.setIfInBounds_toArray, List.set_cons_zero, List.set_cons_succ])
        refine wpAnyH_done (by kernel_rfl) ?_ _
        obtain ⟨_, _, _, _, hbw⟩ := hHeld
        have HB2 := hide hbw
        clear HS0 hbw
        go_wp2_with fail
        exact ⟨⟨k + 1, by omega, by go_num, HB2.out⟩, by simp [intOf]; omega⟩
      · have hkN : N = k := by omega
        have HTk := hide (fun W (h : Arcs W A l) => rtaken_at l A c m W h hok hm0 hm1 (by rw [← HN.out]; omega))
        have HRft := hide (fun W (h : Arcs W A l) => rfit_at l A c s m W h hok hm1 (by rw [← HN.out]; omega))
        have HGaps := hide (fun W (h : Arcs W A l) => rgaps_at l A c m W h hok hm0 hm1 (by rw [← HN.out]; omega))
        rw [HRf.out] at HRft
        rw [show tk m (l.map tA) = tkI m l from rfl] at HGaps
        rw [← HN.out] at HTk HRft HGaps
        subst hkN
        go_wp2_with fail
        refine (HTk.out _ (HI.out _ (HUp0.out _ HBr.out))).mono ?_
        rintro e w5 ⟨g2, rfl, hg2, hrow, hb⟩
        have HRow := hide hrow
        have HB5 := hide (HBr.out.trans (hb.mono HBr.out.size))
        have hg2l : g2 < w5.heap.size := (Array.getElem?_eq_some_iff.1 hrow).1
        clear hb hrow HTk
        go_wp2_with fail
        have HT := hide (show ∀ p, decide (0 < cntA m (l.map tA) p) = tkI m l p from cntA_tk m (l.map tA))
        have HCl := hide (show ∀ p, cntA m (l.map tA) p ≤ 20 from fun p => Nat.le_trans (cntA_le m (l.map tA) p) (by rw [List.length_map, ← HN.out]; omega))
        generalize cntA m (l.map tA) = cA at *
        generalize tkI m l = t at *
        go_loop [16, 18, 111] (fun cv _ kv => ∃ k : Nat, k ≤ m ∧ kv = .int .i64 k ∧ cv = .int .i64 (cnt t k : Nat)) (fun _ _ kv => m - (intOf kv).toNat)
        case atStart => exact ⟨0, Nat.zero_le _, rfl, rfl⟩
        case round =>
          obtain ⟨k, hk, rfl, rfl⟩ := hrel
          by_cases hlt : k < m
          · have c0 : w5.cell? ⟨g2, k, none⟩ = some (.int .i64 (cA k : Nat)) := by rw [cell_of_row _ _ _ _ _ _ HRow.out, irow_get hlt]
            have hck := cnt_le t k
            have hS : cnt t (k + 1) = cnt t k + (if t k = true then 1 else 0) := rfl
            rw [← HT.out k] at hS
            have hcl := HCl.out k
            generalize cnt t k = q at *
            generalize cA k = z at *
            by_cases hz : 0 < z
            · rw [decide_eq_true hz] at hS
              have HS := hide hS
              clear hS
              go_wp2_with fail
              go_round
              case rel => exact ⟨k + 1, by omega, by go_num, by rw [HS.out]; rfl⟩
              case measure => simp [intOf]; omega
            · rw [decide_eq_false hz] at hS
              have HS := hide hS
              obtain rfl : z = 0 := by omega
              clear hS
              go_wp2_with fail
              go_round
              case rel => exact ⟨k + 1, by omega, by go_num, by rw [HS.out]; rfl⟩
              case measure => simp [intOf]; omega
          · have hkm : m = k := by omega
            subst hkm
            have hmany : cnt t m = many := HCn.out
            rw [hmany]
            have HOk := hide hok
            clear hmany hok
            go_wp2_with fail
            refine (HRft.out _ (HI.out _ (HUp0.out _ HB5.out))).mono ?_
            rintro e w6 ⟨rfl, hb⟩
            have HB6 := hide (HB5.out.trans (hb.mono HB5.out.size))
            clear hb HRft
            rcases HF3.out with ⟨rfl, rfl, rfl⟩ | ⟨rfl, h0, rfl⟩
            · go_wp2_with fail
              go_loopw [20, 21, 22, 23, 24, 25] (fun iv _ _ _ _ _ wr => ∃ i : Nat, 1 ≤ i ∧ i ≤ N + 1 ∧ iv = .int .i64 i ∧ Below w4.heap.size w4 wr) (fun iv _ _ _ _ _ _ => N + 1 - (intOf iv).toNat)
              case atStart => exact ⟨1, Nat.le_refl _, by omega, rfl, HB6.out⟩
              case round =>
                rename World => W0
                obtain ⟨i, hi1, hi2, rfl, hb6⟩ := hrel
                have HBi := hide hb6
                by_cases hil : i < N
                · have hil' : i < l.length := by rw [← HN.out]; exact hil
                  have h0l' : 0 < l.length := by omega
                  have hk0 : 0 < N := by omega
                  have hAl := HI.out W0 (HUp0.out _ hb6)
                  obtain ⟨lb, lo, rfl, hlb, c0, c1⟩ := hAl.at h0l'
                  obtain ⟨lb', lo', e, _, c2, c3⟩ := hAl.at hil'
                  cases e
                  have hm0l := mem_at h0l'
                  have hmil := mem_at hil'
                  have hi0 := hAl.1 _ hm0l
                  have hii := hAl.1 _ hmil
                  have hok0 := HOk.out _ hm0l
                  have hoki := HOk.out _ hmil
                  have HM1' := hide (fun V => Meet_at (l.getD 0 (0, 0)) (l.getD i (0, 0)) m V)
                  rw [meetV_ok hm0 hm1 hok0 hoki] at HM1'
                  have HTw := hide (fun V g (h : Arcs V (some ⟨g, 0, none⟩) [l.getD 0 (0, 0), l.getD i (0, 0)]) => rtaken_at [l.getD 0 (0, 0), l.getD i (0, 0)] (some ⟨g, 0, none⟩) 2 m V h (fun a ha => by
                    simp only [List.mem_cons, List.not_mem_nil, or_false] at ha
                    rcases ha with rfl | rfl
                    · exact hok0
                    · exact hoki) hm0 hm1 (by simp))
                  have HMt2 := hide (meet_two (okB_t hok0).1 (okB_t hoki).1)
                  have HCl2 := hide (fun p => cntA_le m [tA (l.getD 0 (0, 0)), tA (l.getD i (0, 0))] p)
                  rw [show [l.getD 0 (0, 0), l.getD i (0, 0)].map tA = [tA (l.getD 0 (0, 0)), tA (l.getD i (0, 0))] from rfl] at HTw
                  generalize meetB m (tA (l.getD 0 (0, 0))) (tA (l.getD i (0, 0))) = mb at *
                  generalize cntA m [tA (l.getD 0 (0, 0)), tA (l.getD i (0, 0))] = cB at *
                  generalize l.getD 0 (0, 0) = y0 at *
                  generalize l.getD i (0, 0) = y1 at *
                  obtain ⟨f0, g0⟩ := y0
                  obtain ⟨f1, g1⟩ := y1
                  dsimp only at c0 c1 c2 c3 hi0 hii
                  have HA2 := hide (fun V g h => arcs_two (W := V) (g := g) (a := (f0, g0)) (b := (f1, g1)) h hi0 hii)
                  rw [Nat.zero_mul, Nat.add_zero] at c0 c1
                  have HS0 : Hid ((fun w' => w'.cell? ⟨lb, lo, none⟩ = some (.int .i64 f0) ∧ w'.cell? ⟨lb, lo + 1, none⟩ = some (.int .i64 g0) ∧ w'.cell? ⟨lb, lo + i * 2, none⟩ = some (.int .i64 f1) ∧ w'.cell? ⟨lb, lo + i * 2 + 1, none⟩ = some (.int .i64 g1) ∧ Below W0.heap.size W0 w') W0.drew) := ⟨c0, c1, c2, c3, below_drew (Below.refl _ W0)⟩
                  have HKp : Hid (∀ (V V' : World), (fun w' => w'.cell? ⟨lb, lo, none⟩ = some (.int .i64 f0) ∧ w'.cell? ⟨lb, lo + 1, none⟩ = some (.int .i64 g0) ∧ w'.cell? ⟨lb, lo + i * 2, none⟩ = some (.int .i64 f1) ∧ w'.cell? ⟨lb, lo + i * 2 + 1, none⟩ = some (.int .i64 g1) ∧ Below W0.heap.size W0 w') V → Below V.heap.size V V' → (fun w' => w'.cell? ⟨lb, lo, none⟩ = some (.int .i64 f0) ∧ w'.cell? ⟨lb, lo + 1, none⟩ = some (.int .i64 g0) ∧ w'.cell? ⟨lb, lo + i * 2, none⟩ = some (.int .i64 f1) ∧ w'.cell? ⟨lb, lo + i * 2 + 1, none⟩ = some (.int .i64 g1) ∧ Below W0.heap.size W0 w') V') := fun V V' h hb => Tc.on (x := (f0, g0)) (y := (f1, g1)) h hb
                  clear hAl hm0l hmil hok0 hoki hb6 hil' h0l' hi0 hii
                  go_wp2_with fail
                  refine wp_region_held_drew (S := fun w' => w'.cell? ⟨lb, lo, none⟩ = some (.int .i64 f0) ∧ w'.cell? ⟨lb, lo + 1, none⟩ = some (.int .i64 g0) ∧ w'.cell? ⟨lb, lo + i * 2, none⟩ = some (.int .i64 f1) ∧ w'.cell? ⟨lb, lo + i * 2 + 1, none⟩ = some (.int .i64 g1) ∧ Below W0.heap.size W0 w') (by kernel_rfl) (by (first | exact HKp.out _ _ hHeld hb1 | exact HS0.out)) (fun hHeld => ?_)
                  refine wpAnyH_take (i := 0) (v := ?v4_0) rfl (by kernel_rfl) (by kernel_rfl) (by kernel_rfl) (fun _ _ _ h => h) (Or.inl ⟨by kernel_rfl, ?y4_0⟩) (by assumption) ?r4_0
                  case y4_0 => (intro W hSW; (try dsimp only at hSW); go_simp; (try with_reducible rfl))
                  change wpAnyH _ _ _ _ _ _ _ (Act.put _ (some 152) _) _
                  (try simp only [Act.put, List.setIfInBounds_toArray, List.set_cons_zero, List.set_cons_succ])
                  refine wpAnyH_take (i := 1) (v := ?v4_1) rfl (by kernel_rfl) (by kernel_rfl) (by kernel_rfl) (fun _ _ _ h => h) (Or.inl ⟨by kernel_rfl, ?y4_1⟩) (by assumption) ?r4_1
                  case y4_1 => (intro W hSW; (try dsimp only at hSW); go_simp; (try with_reducible rfl))
                  change wpAnyH _ _ _ _ _ _ _ (Act.put _ (some 153) _) _
                  (try simp only [Act.put, List.setIfInBounds_toArray, List.set_cons_zero, List.set_cons_succ])
                  refine wpAnyH_take (i := 2) (v := ?v4_2) rfl (by kernel_rfl) (by kernel_rfl) (by kernel_rfl) (fun _ _ _ h => h) (Or.inl ⟨by kernel_rfl, ?y4_2⟩) (by assumption) ?r4_2
                  case y4_2 => (intro W hSW; (try dsimp only at hSW); go_simp; (try with_reducible rfl))
                  change wpAnyH _ _ _ _ _ _ _ (Act.put _ (some 154) _) _
                  (try simp only [Act.put, List.setIfInBounds_toArray, List.set_cons_zero, List.set_cons_succ])
                  refine wpAnyH_take (i := 3) (v := ?v4_3) rfl (by kernel_rfl) (by kernel_rfl) (by kernel_rfl) (fun _ _ _ h => h) (Or.inl ⟨by kernel_rfl, ?y4_3⟩) (by assumption) ?r4_3
                  case y4_3 => (intro W hSW; (try dsimp only at hSW); go_simp; (try with_reducible rfl))
                  change wpAnyH _ _ _ _ _ _ _ (Act.put _ (some 155) _) _
                  (try simp only [Act.put, List.setIfInBounds_toArray, List.set_cons_zero, List.set_cons_succ])
                  refine wpAnyH_take (i := 4) (v := ?v4_4) rfl (by kernel_rfl) (by kernel_rfl) (by kernel_rfl) (fun _ _ _ h => h) (Or.inl ⟨by kernel_rfl, ?y4_4⟩) (by assumption) ?r4_4
                  case y4_4 => (intro W hSW; (try dsimp only at hSW); go_simp; (try with_reducible rfl))
                  change wpAnyH _ _ _ _ _ _ _ (Act.put _ (some 156) _) _
                  (try simp only [Act.put, List.setIfInBounds_toArray, List.set_cons_zero, List.set_cons_succ])
                  refine wpAnyH_take (i := 5) (v := ?v4_5) rfl (by kernel_rfl) (by kernel_rfl) (by kernel_rfl) (fun _ _ _ h => h) (Or.inl ⟨by kernel_rfl, ?y4_5⟩) (by assumption) ?r4_5
                  case y4_5 => (intro W hSW; (try dsimp only at hSW); go_simp; (try with_reducible rfl))
                  change wpAnyH _ _ _ _ _ _ _ (Act.put _ (some 157) _) _
                  (try simp only [Act.put, List.setIfInBounds_toArray, List.set_cons_zero, List.set_cons_succ])
                  refine wpAnyH_take (i := 6) (v := ?v4_6) rfl (by kernel_rfl) (by kernel_rfl) (by kernel_rfl) (fun _ _ _ h => h) (Or.inl ⟨by kernel_rfl, ?y4_6⟩) (by assumption) ?r4_6
                  case y4_6 => (intro W hSW; (try dsimp only at hSW); go_simp; (try with_reducible rfl))
                  change wpAnyH _ _ _ _ _ _ _ (Act.put _ (some 158) _) _
                  (try simp only [Act.put, List.setIfInBounds_toArray, List.set_cons_zero, List.set_cons_succ])
                  refine wpAnyH_take (i := 7) (v := ?v4_7) rfl (by kernel_rfl) (by kernel_rfl) (by kernel_rfl) (fun _ _ _ h => h) (Or.inl ⟨by kernel_rfl, ?y4_7⟩) (by assumption) ?r4_7
                  case y4_7 => (intro W hSW; (try dsimp only at hSW); go_simp; (try with_reducible rfl))
                  change wpAnyH _ _ _ _ _ _ _ (Act.put _ (some 159) _) _
                  (try simp only [Act.put, List.setIfInBounds_toArray, List.set_cons_zero, List.set_cons_succ])
                  refine wpAnyH_ready (rs := [8]) (by kernel_rfl) (by simp) ?_
                  refine AllReadyH.cons rfl (fun K hK => ?_) AllReadyH.nil
                  rw [if_pos (by rfl)]
                  go_simp
                  refine (HM1'.out _).mono ?_
                  rintro e w8 ⟨rfl, hb1⟩
                  go_simp
                  refine hK.out _ _ (by (first | exact HKp.out _ _ hHeld hb1 | exact HS0.out)) (fun hHeld => ?_)
                  clear hK K
                  (try simp only [Act.put, List.setIfInBounds_toArray, List.set_cons_zero, List.set_cons_succ])
                  refine wpAnyH_take (i := 9) (v := ?v4_9) rfl (by kernel_rfl) (by kernel_rfl) (by kernel_rfl) (fun _ _ _ h => h) (Or.inl ⟨by kernel_rfl, ?y4_9⟩) (by assumption) ?r4_9
                  case y4_9 => (intro W hSW; (try dsimp only at hSW); go_simp; (try with_reducible rfl))
                  change wpAnyH _ _ _ _ _ _ _ (Act.put _ (some 151) _) _
                  (try simp only [Act.put, List.setIfInBounds_toArray, List.set_cons_zero, List.set_cons_succ])
                  refine wpAnyH_take (i := 10) (v := ?v4_10) rfl (by kernel_rfl) (by kernel_rfl) (by kernel_rfl) (fun _ _ _ h => h) (Or.inl ⟨by kernel_rfl, ?y4_10⟩) (by assumption) ?r4_10
                  case y4_10 => (intro W hSW; (try dsimp only at hSW); go_simp; (try with_reducible rfl))
                  change wpAnyH _ _ _ _ _ _ _ (Act.put _ (some 161) _) _
                  (try simp only [Act.put, List.setIfInBounds_toArray, List.set_cons_zero, List.set_cons_succ])
                  refine wpAnyH_take (i := 11) (v := ?v4_11) rfl (by kernel_rfl) (by kernel_rfl) (by kernel_rfl) (fun _ _ _ h => h) (Or.inl ⟨by kernel_rfl, ?y4_11⟩) (by assumption) ?r4_11
                  case y4_11 => (intro W hSW; (try dsimp only at hSW); go_simp; (try with_reducible rfl))
                  change wpAnyH _ _ _ _ _ _ _ (Act.put _ (some 162) _) _
                  (try simp only [Act.put, List.setIfInBounds_toArray, List.set_cons_zero, List.set_cons_succ])
                  refine wpAnyH_take (i := 12) (v := ?v4_12) rfl (by kernel_rfl) (by kernel_rfl) (by kernel_rfl) (fun _ _ _ h => h) (Or.inl ⟨by kernel_rfl, ?y4_12⟩) (by assumption) ?r4_12
                  case y4_12 => (intro W hSW; (try dsimp only at hSW); go_simp; (try with_reducible rfl))
                  change wpAnyH _ _ _ _ _ _ _ (Act.put _ (some 21) _) _
                  (try simp only [Act.put, List.setIfInBounds_toArray, List.set_cons_zero, List.set_cons_succ])
                  refine wpAnyH_take (i := 13) (v := ?v4_13) rfl (by kernel_rfl) (by kernel_rfl) (by kernel_rfl) (fun _ _ _ h => h) (Or.inl ⟨by kernel_rfl, ?y4_13⟩) (by assumption) ?r4_13
                  case y4_13 => (intro W hSW; (try dsimp only at hSW); go_simp; (try with_reducible rfl))
                  change wpAnyH _ _ _ _ _ _ _ (Act.put _ (some 22) _) _
                  (try simp only [Act.put, List.setIfInBounds_toArray, List.set_cons_zero, List.set_cons_succ])
                  refine wpAnyH_done (by kernel_rfl) ?_ _
                  obtain ⟨d0, d1, d2, d3, hbw8⟩ := hHeld
                  have HB8 := hide hbw8
                  clear HS0 hbw8 hb1 c0 c1 c2 c3
                  have HS0 : Hid ((fun w' => w'.cell? ⟨lb, lo, none⟩ = some (.int .i64 f0) ∧ w'.cell? ⟨lb, lo + 1, none⟩ = some (.int .i64 g0) ∧ w'.cell? ⟨lb, lo + i * 2, none⟩ = some (.int .i64 f1) ∧ w'.cell? ⟨lb, lo + i * 2 + 1, none⟩ = some (.int .i64 g1) ∧ Below W0.heap.size W0 w') w8.drew) := HKp.out _ _ ⟨d0, d1, d2, d3, HB8.out⟩ (below_drew (Below.refl _ w8))
                  clear d0 d1 d2 d3
                  go_wp2_with fail
                  refine wp_region_held_drew (S := fun w' => w'.cell? ⟨lb, lo, none⟩ = some (.int .i64 f0) ∧ w'.cell? ⟨lb, lo + 1, none⟩ = some (.int .i64 g0) ∧ w'.cell? ⟨lb, lo + i * 2, none⟩ = some (.int .i64 f1) ∧ w'.cell? ⟨lb, lo + i * 2 + 1, none⟩ = some (.int .i64 g1) ∧ Below W0.heap.size W0 w') (by kernel_rfl) (by (first | exact HKp.out _ _ hHeld hb1 | exact HS0.out)) (fun hHeld => ?_)
                  refine wpAnyH_take (i := 0) (v := ?v5_0) rfl (by kernel_rfl) (by kernel_rfl) (by kernel_rfl) (fun _ _ _ h => h) (Or.inl ⟨by kernel_rfl, ?y5_0⟩) (by assumption) ?r5_0
                  case y5_0 => (intro W hSW; (try dsimp only at hSW); go_simp; (try with_reducible rfl))
                  change wpAnyH _ _ _ _ _ _ _ (Act.put _ (some 163) _) _
                  (try simp only [Act.put, List.setIfInBounds_toArray, List.set_cons_zero, List.set_cons_succ])
                  refine wpAnyH_take (i := 1) (v := ?v5_1) rfl (by kernel_rfl) (by kernel_rfl) (by kernel_rfl) (fun _ _ _ h => h) (Or.inl ⟨by kernel_rfl, ?y5_1⟩) (by assumption) ?r5_1
                  case y5_1 => (intro W hSW; (try dsimp only at hSW); go_simp; (try with_reducible rfl))
                  change wpAnyH _ _ _ _ _ _ _ (Act.put _ (some 164) _) _
                  (try simp only [Act.put, List.setIfInBounds_toArray, List.set_cons_zero, List.set_cons_succ])
                  refine wpAnyH_take (i := 2) (v := ?v5_2) rfl (by kernel_rfl) (by kernel_rfl) (by kernel_rfl) (fun _ _ _ h => h) (Or.inl ⟨by kernel_rfl, ?y5_2⟩) (by assumption) ?r5_2
                  case y5_2 => (intro W hSW; (try dsimp only at hSW); go_simp; (try with_reducible rfl))
                  change wpAnyH _ _ _ _ _ _ _ (Act.put _ (some 165) _) _
                  (try simp only [Act.put, List.setIfInBounds_toArray, List.set_cons_zero, List.set_cons_succ])
                  refine wpAnyH_take (i := 3) (v := ?v5_3) rfl (by kernel_rfl) (by kernel_rfl) (by kernel_rfl) (fun _ _ _ h => h) (Or.inl ⟨by kernel_rfl, ?y5_3⟩) (by assumption) ?r5_3
                  case y5_3 => (intro W hSW; (try dsimp only at hSW); go_simp; (try with_reducible rfl))
                  change wpAnyH _ _ _ _ _ _ _ (Act.put _ (some 166) _) _
                  (try simp only [Act.put, List.setIfInBounds_toArray, List.set_cons_zero, List.set_cons_succ])
                  refine wpAnyH_take (i := 4) (v := ?v5_4) rfl (by kernel_rfl) (by kernel_rfl) (by kernel_rfl) (fun _ _ _ h => h) (Or.inl ⟨by kernel_rfl, ?y5_4⟩) (by assumption) ?r5_4
                  case y5_4 => (intro W hSW; (try dsimp only at hSW); go_simp; (try with_reducible rfl))
                  change wpAnyH _ _ _ _ _ _ _ (Act.put _ (some 167) _) _
                  (try simp only [Act.put, List.setIfInBounds_toArray, List.set_cons_zero, List.set_cons_succ])
                  refine wpAnyH_take (i := 5) (v := ?v5_5) rfl (by kernel_rfl) (by kernel_rfl) (by kernel_rfl) (fun _ _ _ h => h) (Or.inl ⟨by kernel_rfl, ?y5_5⟩) (by assumption) ?r5_5
                  case y5_5 => (intro W hSW; (try dsimp only at hSW); go_simp; (try with_reducible rfl))
                  change wpAnyH _ _ _ _ _ _ _ (Act.put _ (some 168) _) _
                  (try simp only [Act.put, List.setIfInBounds_toArray, List.set_cons_zero, List.set_cons_succ])
                  refine wpAnyH_take (i := 6) (v := ?v5_6) rfl (by kernel_rfl) (by kernel_rfl) (by kernel_rfl) (fun _ _ _ h => h) (Or.inl ⟨by kernel_rfl, ?y5_6⟩) (by assumption) ?r5_6
                  case y5_6 => (intro W hSW; (try dsimp only at hSW); go_simp; (try with_reducible rfl))
                  change wpAnyH _ _ _ _ _ _ _ (Act.put _ (some 169) _) _
                  (try simp only [Act.put, List.setIfInBounds_toArray, List.set_cons_zero, List.set_cons_succ])
                  refine wpAnyH_take (i := 8) (v := ?v5_8) rfl (by kernel_rfl) (by kernel_rfl) (by kernel_rfl) (fun _ _ _ h => h) (Or.inl ⟨by kernel_rfl, ?y5_8⟩) (by assumption) ?r5_8
                  case y5_8 => (intro W hSW; (try dsimp only at hSW); go_simp; (try with_reducible rfl))
                  change wpAnyH _ _ _ _ _ _ _ (Act.put _ (some 171) _) _
                  (try simp only [Act.put, List.setIfInBounds_toArray, List.set_cons_zero, List.set_cons_succ])
                  refine wpAnyH_ready (rs := [7]) (by kernel_rfl) (by simp) ?_
                  refine AllReadyH.cons rfl (fun K hK => ?_) AllReadyH.nil
                  rw [if_pos (by rfl)]
                  go_simp
                  first | (refine (HTw.out (w8.alloc (.cells #[.int .i64 f0, .int .i64 g0, .int .i64 f1, .int .i64 g1] 41)).drew w8.heap.size (HA2.out _ _ (heap_alloc_new w8 _))).mono ?_; rintro e w9 ⟨g3, rfl, hg3, hrow3, hb1⟩; go_simp) | (have hb1 := bal w8.drew (.cells #[.int .i64 f0, .int .i64 g0, .int .i64 f1, .int .i64 g1] 41))
                  refine hK.out _ _ (by (first | exact HKp.out _ _ hHeld hb1 | exact HS0.out)) (fun hHeld => ?_)
                  clear hK K
                  (try simp only [Act.put, List.setIfInBounds_toArray, List.set_cons_zero, List.set_cons_succ])
                  refine wpAnyH_ready (rs := [9]) (by kernel_rfl) (by simp) ?_
                  refine AllReadyH.cons rfl (fun K hK => ?_) AllReadyH.nil
                  rw [if_pos (by rfl)]
                  go_simp
                  first | (refine (HTw.out (w8.alloc (.cells #[.int .i64 f0, .int .i64 g0, .int .i64 f1, .int .i64 g1] 41)).drew w8.heap.size (HA2.out _ _ (heap_alloc_new w8 _))).mono ?_; rintro e w9 ⟨g3, rfl, hg3, hrow3, hb1⟩; go_simp) | (have hb1 := bal w8.drew (.cells #[.int .i64 f0, .int .i64 g0, .int .i64 f1, .int .i64 g1] 41))
                  refine hK.out _ _ (by (first | exact HKp.out _ _ hHeld hb1 | exact HS0.out)) (fun hHeld => ?_)
                  clear hK K
                  (try simp only [Act.put, List.setIfInBounds_toArray, List.set_cons_zero, List.set_cons_succ])
                  refine wpAnyH_take (i := 10) (v := ?v5_10) rfl (by kernel_rfl) (by kernel_rfl) (by kernel_rfl) (fun _ _ _ h => h) (Or.inl ⟨by kernel_rfl, ?y5_10⟩) (by assumption) ?r5_10
                  case y5_10 => (intro W hSW; (try dsimp only at hSW); go_simp; (try with_reducible rfl))
                  change wpAnyH _ _ _ _ _ _ _ (Act.put _ (some 23) _) _
                  (try simp only [Act.put, List.setIfInBounds_toArray, List.set_cons_zero, List.set_cons_succ])
                  refine wpAnyH_done (by kernel_rfl) ?_ _
                  obtain ⟨_, _, _, _, hbw9⟩ := hHeld
                  have HB9 := hide (HBi.out.trans (hbw9.mono HBi.out.size))
                  have HRow3 := hide hrow3
                  have hg3l : g3 < w9.heap.size := (Array.getElem?_eq_some_iff.1 hrow3).1
                  clear HS0 HKp hbw9 hb1 hrow3 HB8 HTw HA2 HM1'
                  go_wp2_with fail
                  obtain ⟨tB, hTB⟩ : ∃ tB : Nat → Bool, tB = fun p => decide (1 < cB p) := ⟨_, rfl⟩
                  have HTB := hide (show ∀ p, tB p = decide (1 < cB p) from fun p => by rw [hTB])
                  rw [← hTB] at HMt2
                  clear hTB
                  go_loop [24, 25, 175] (fun av _ kv => ∃ k : Nat, k ≤ m ∧ kv = .int .i64 k ∧ av = .bool (anyT tB k)) (fun _ _ kv => m - (intOf kv).toNat)
                  case atStart => exact ⟨0, Nat.zero_le _, rfl, rfl⟩
                  case round =>
                    obtain ⟨k, hk, rfl, rfl⟩ := hrel
                    by_cases hlt : k < m
                    · have c0 : w9.cell? ⟨g3, k, none⟩ = some (.int .i64 (cB k : Nat)) := by rw [cell_of_row _ _ _ _ _ _ HRow3.out, irow_get hlt]
                      have hS := anyT_succ tB k
                      rw [HTB.out k] at hS
                      have hck : cB k ≤ 2 := HCl2.out k
                      generalize cB k = q at *
                      by_cases hq : 1 < q
                      · rw [decide_eq_true hq] at hS
                        have hd5 : decide ((1 : Int) < (q : Int)) = true := decide_eq_true (by omega)
                        have HS := hide hS
                        clear hS
                        generalize anyT tB k = a at *
                        cases a with
                        | true =>
                          go_wp2_with fail
                          go_round
                          case rel => exact ⟨k + 1, by omega, by go_num, by rw [HS.out]; rfl⟩
                          case measure => simp [intOf]; omega
                        | false =>
                          go_wp2_with fail
                          go_round
                          case rel => exact ⟨k + 1, by omega, by go_num, by rw [HS.out]; rfl⟩
                          case measure => simp [intOf]; omega
                      · rw [decide_eq_false hq] at hS
                        have hd5 : decide ((1 : Int) < (q : Int)) = false := decide_eq_false (by omega)
                        have HS := hide hS
                        clear hS
                        generalize anyT tB k = a at *
                        cases a with
                        | true =>
                          go_wp2_with fail
                          go_round
                          case rel => exact ⟨k + 1, by omega, by go_num, by rw [HS.out]; rfl⟩
                          case measure => simp [intOf]; omega
                        | false =>
                          go_wp2_with fail
                          go_round
                          case rel => exact ⟨k + 1, by omega, by go_num, by rw [HS.out]; rfl⟩
                          case measure => simp [intOf]; omega
                    · have hkm : m = k := by omega
                      subst hkm
                      have hmb : anyT tB m = mb := HMt2.out
                      rw [hmb]
                      clear hmb
                      cases mb with
                      | true =>
                        go_wp2_with fail
                        exact ⟨⟨i + 1, by omega, by omega, by go_num, HB9.out⟩, by simp [intOf]; omega⟩
                      | false =>
                        go_wp2_with fail
                        exact ⟨⟨i + 1, by omega, by omega, by go_num, HB9.out⟩, by simp [intOf]; omega⟩
                · go_wp2_with fail
                  refine (HGaps.out _ (HI.out _ (HUp0.out _ HBi.out))).mono ?_
                  rintro e wa ⟨v2, rfl, hO2, hb⟩
                  have hba : Below w4.heap.size w4 wa := HBi.out.trans (hb.mono HBi.out.size)
                  have hgi : ∀ z ∈ toI (gapF t m), I64 z.1 ∧ I64 z.2 := toI_i64 hm1 (fun a ha => (gapF_mem hm0 ha).1)
                  have hgle : (toI (gapF t m)).length ≤ 1000 := by
                    rw [toI_len]; unfold gapF; split
                    · exact Nat.le_trans (gapTo_le _ _ _) hm1
                    · simp
                  obtain ⟨A3, c3, rfl, hA3⟩ := own_arcs (own_from HO4.out hba) hgi
                  obtain ⟨A4, c4, rfl, hA4⟩ := own_arcs hO2 hgi
                  have HSm := hide (fun W (h : Below wa.heap.size wa W) => rsame_at _ A3 A4 c3 c4 W (hA3.of_below h (Nat.le_refl _)) (hA4.of_below h (Nat.le_refl _)) hgle)
                  have HBA := hide hba
                  clear hba hgi hgle hA3 hA4 hO2 HO4 hb HGaps
                  generalize (toI (gapF t m)).length = L at *
                  go_wp2_with fail
                  refine (HSm.out _ (Below.refl _ _)).mono ?_
                  rintro e wb ⟨rfl, hb⟩
                  have hbb := HBA.out.trans (hb.mono HBA.out.size)
                  obtain ⟨b, off, e, _, c0, _⟩ := (HAr.out _ (HUp.out _ hbb)).at (k := l.length) (by simp)
                  cases e
                  rw [getD_end, Nat.zero_add, ← HN.out] at c0
                  have HFin := hide (HUp0.out _ hbb)
                  clear hbb hb
                  go_wp2_with fail
                  go_ret
                  exact ⟨rfl, HFin.out⟩
            · have hd3 : decide (cv < 0) = false := decide_eq_false (by omega)
              have hd4 : decide (0 ≤ cv) = true := decide_eq_true (by omega)
              go_wp2_with fail
              go_loopw [20, 21, 22, 23, 24, 25] (fun iv _ _ _ _ _ wr => ∃ i : Nat, 1 ≤ i ∧ i ≤ N + 1 ∧ iv = .int .i64 i ∧ Below w4.heap.size w4 wr) (fun iv _ _ _ _ _ _ => N + 1 - (intOf iv).toNat)
              case atStart => exact ⟨1, Nat.le_refl _, by omega, rfl, HB6.out⟩
              case round =>
                rename World => W0
                obtain ⟨i, hi1, hi2, rfl, hb6⟩ := hrel
                have HBi := hide hb6
                by_cases hil : i < N
                · have hil' : i < l.length := by rw [← HN.out]; exact hil
                  have h0l' : 0 < l.length := by omega
                  have hk0 : 0 < N := by omega
                  have hAl := HI.out W0 (HUp0.out _ hb6)
                  obtain ⟨lb, lo, rfl, hlb, c0, c1⟩ := hAl.at h0l'
                  obtain ⟨lb', lo', e, _, c2, c3⟩ := hAl.at hil'
                  cases e
                  have hm0l := mem_at h0l'
                  have hmil := mem_at hil'
                  have hi0 := hAl.1 _ hm0l
                  have hii := hAl.1 _ hmil
                  have hok0 := HOk.out _ hm0l
                  have hoki := HOk.out _ hmil
                  have HM1' := hide (fun V => Meet_at (l.getD 0 (0, 0)) (l.getD i (0, 0)) m V)
                  rw [meetV_ok hm0 hm1 hok0 hoki] at HM1'
                  have HTw := hide (fun V g (h : Arcs V (some ⟨g, 0, none⟩) [l.getD 0 (0, 0), l.getD i (0, 0)]) => rtaken_at [l.getD 0 (0, 0), l.getD i (0, 0)] (some ⟨g, 0, none⟩) 2 m V h (fun a ha => by
                    simp only [List.mem_cons, List.not_mem_nil, or_false] at ha
                    rcases ha with rfl | rfl
                    · exact hok0
                    · exact hoki) hm0 hm1 (by simp))
                  have HMt2 := hide (meet_two (okB_t hok0).1 (okB_t hoki).1)
                  have HCl2 := hide (fun p => cntA_le m [tA (l.getD 0 (0, 0)), tA (l.getD i (0, 0))] p)
                  rw [show [l.getD 0 (0, 0), l.getD i (0, 0)].map tA = [tA (l.getD 0 (0, 0)), tA (l.getD i (0, 0))] from rfl] at HTw
                  generalize meetB m (tA (l.getD 0 (0, 0))) (tA (l.getD i (0, 0))) = mb at *
                  generalize cntA m [tA (l.getD 0 (0, 0)), tA (l.getD i (0, 0))] = cB at *
                  generalize l.getD 0 (0, 0) = y0 at *
                  generalize l.getD i (0, 0) = y1 at *
                  obtain ⟨f0, g0⟩ := y0
                  obtain ⟨f1, g1⟩ := y1
                  dsimp only at c0 c1 c2 c3 hi0 hii
                  have HA2 := hide (fun V g h => arcs_two (W := V) (g := g) (a := (f0, g0)) (b := (f1, g1)) h hi0 hii)
                  rw [Nat.zero_mul, Nat.add_zero] at c0 c1
                  have HS0 : Hid ((fun w' => w'.cell? ⟨lb, lo, none⟩ = some (.int .i64 f0) ∧ w'.cell? ⟨lb, lo + 1, none⟩ = some (.int .i64 g0) ∧ w'.cell? ⟨lb, lo + i * 2, none⟩ = some (.int .i64 f1) ∧ w'.cell? ⟨lb, lo + i * 2 + 1, none⟩ = some (.int .i64 g1) ∧ Below W0.heap.size W0 w') W0.drew) := ⟨c0, c1, c2, c3, below_drew (Below.refl _ W0)⟩
                  have HKp : Hid (∀ (V V' : World), (fun w' => w'.cell? ⟨lb, lo, none⟩ = some (.int .i64 f0) ∧ w'.cell? ⟨lb, lo + 1, none⟩ = some (.int .i64 g0) ∧ w'.cell? ⟨lb, lo + i * 2, none⟩ = some (.int .i64 f1) ∧ w'.cell? ⟨lb, lo + i * 2 + 1, none⟩ = some (.int .i64 g1) ∧ Below W0.heap.size W0 w') V → Below V.heap.size V V' → (fun w' => w'.cell? ⟨lb, lo, none⟩ = some (.int .i64 f0) ∧ w'.cell? ⟨lb, lo + 1, none⟩ = some (.int .i64 g0) ∧ w'.cell? ⟨lb, lo + i * 2, none⟩ = some (.int .i64 f1) ∧ w'.cell? ⟨lb, lo + i * 2 + 1, none⟩ = some (.int .i64 g1) ∧ Below W0.heap.size W0 w') V') := fun V V' h hb => Tc.on (x := (f0, g0)) (y := (f1, g1)) h hb
                  clear hAl hm0l hmil hok0 hoki hb6 hil' h0l' hi0 hii
                  go_wp2_with fail
                  refine wp_region_held_drew (S := fun w' => w'.cell? ⟨lb, lo, none⟩ = some (.int .i64 f0) ∧ w'.cell? ⟨lb, lo + 1, none⟩ = some (.int .i64 g0) ∧ w'.cell? ⟨lb, lo + i * 2, none⟩ = some (.int .i64 f1) ∧ w'.cell? ⟨lb, lo + i * 2 + 1, none⟩ = some (.int .i64 g1) ∧ Below W0.heap.size W0 w') (by kernel_rfl) (by (first | exact HKp.out _ _ hHeld hb1 | exact HS0.out)) (fun hHeld => ?_)
                  refine wpAnyH_take (i := 0) (v := ?v6_0) rfl (by kernel_rfl) (by kernel_rfl) (by kernel_rfl) (fun _ _ _ h => h) (Or.inl ⟨by kernel_rfl, ?y6_0⟩) (by assumption) ?r6_0
                  case y6_0 => (intro W hSW; (try dsimp only at hSW); go_simp; (try with_reducible rfl))
                  change wpAnyH _ _ _ _ _ _ _ (Act.put _ (some 152) _) _
                  (try simp only [Act.put, List.setIfInBounds_toArray, List.set_cons_zero, List.set_cons_succ])
                  refine wpAnyH_take (i := 1) (v := ?v6_1) rfl (by kernel_rfl) (by kernel_rfl) (by kernel_rfl) (fun _ _ _ h => h) (Or.inl ⟨by kernel_rfl, ?y6_1⟩) (by assumption) ?r6_1
                  case y6_1 => (intro W hSW; (try dsimp only at hSW); go_simp; (try with_reducible rfl))
                  change wpAnyH _ _ _ _ _ _ _ (Act.put _ (some 153) _) _
                  (try simp only [Act.put, List.setIfInBounds_toArray, List.set_cons_zero, List.set_cons_succ])
                  refine wpAnyH_take (i := 2) (v := ?v6_2) rfl (by kernel_rfl) (by kernel_rfl) (by kernel_rfl) (fun _ _ _ h => h) (Or.inl ⟨by kernel_rfl, ?y6_2⟩) (by assumption) ?r6_2
                  case y6_2 => (intro W hSW; (try dsimp only at hSW); go_simp; (try with_reducible rfl))
                  change wpAnyH _ _ _ _ _ _ _ (Act.put _ (some 154) _) _
                  (try simp only [Act.put, List.setIfInBounds_toArray, List.set_cons_zero, List.set_cons_succ])
                  refine wpAnyH_take (i := 3) (v := ?v6_3) rfl (by kernel_rfl) (by kernel_rfl) (by kernel_rfl) (fun _ _ _ h => h) (Or.inl ⟨by kernel_rfl, ?y6_3⟩) (by assumption) ?r6_3
                  case y6_3 => (intro W hSW; (try dsimp only at hSW); go_simp; (try with_reducible rfl))
                  change wpAnyH _ _ _ _ _ _ _ (Act.put _ (some 155) _) _
                  (try simp only [Act.put, List.setIfInBounds_toArray, List.set_cons_zero, List.set_cons_succ])
                  refine wpAnyH_take (i := 4) (v := ?v6_4) rfl (by kernel_rfl) (by kernel_rfl) (by kernel_rfl) (fun _ _ _ h => h) (Or.inl ⟨by kernel_rfl, ?y6_4⟩) (by assumption) ?r6_4
                  case y6_4 => (intro W hSW; (try dsimp only at hSW); go_simp; (try with_reducible rfl))
                  change wpAnyH _ _ _ _ _ _ _ (Act.put _ (some 156) _) _
                  (try simp only [Act.put, List.setIfInBounds_toArray, List.set_cons_zero, List.set_cons_succ])
                  refine wpAnyH_take (i := 5) (v := ?v6_5) rfl (by kernel_rfl) (by kernel_rfl) (by kernel_rfl) (fun _ _ _ h => h) (Or.inl ⟨by kernel_rfl, ?y6_5⟩) (by assumption) ?r6_5
                  case y6_5 => (intro W hSW; (try dsimp only at hSW); go_simp; (try with_reducible rfl))
                  change wpAnyH _ _ _ _ _ _ _ (Act.put _ (some 157) _) _
                  (try simp only [Act.put, List.setIfInBounds_toArray, List.set_cons_zero, List.set_cons_succ])
                  refine wpAnyH_take (i := 6) (v := ?v6_6) rfl (by kernel_rfl) (by kernel_rfl) (by kernel_rfl) (fun _ _ _ h => h) (Or.inl ⟨by kernel_rfl, ?y6_6⟩) (by assumption) ?r6_6
                  case y6_6 => (intro W hSW; (try dsimp only at hSW); go_simp; (try with_reducible rfl))
                  change wpAnyH _ _ _ _ _ _ _ (Act.put _ (some 158) _) _
                  (try simp only [Act.put, List.setIfInBounds_toArray, List.set_cons_zero, List.set_cons_succ])
                  refine wpAnyH_take (i := 7) (v := ?v6_7) rfl (by kernel_rfl) (by kernel_rfl) (by kernel_rfl) (fun _ _ _ h => h) (Or.inl ⟨by kernel_rfl, ?y6_7⟩) (by assumption) ?r6_7
                  case y6_7 => (intro W hSW; (try dsimp only at hSW); go_simp; (try with_reducible rfl))
                  change wpAnyH _ _ _ _ _ _ _ (Act.put _ (some 159) _) _
                  (try simp only [Act.put, List.setIfInBounds_toArray, List.set_cons_zero, List.set_cons_succ])
                  refine wpAnyH_ready (rs := [8]) (by kernel_rfl) (by simp) ?_
                  refine AllReadyH.cons rfl (fun K hK => ?_) AllReadyH.nil
                  rw [if_pos (by rfl)]
                  go_simp
                  refine (HM1'.out _).mono ?_
                  rintro e w8 ⟨rfl, hb1⟩
                  go_simp
                  refine hK.out _ _ (by (first | exact HKp.out _ _ hHeld hb1 | exact HS0.out)) (fun hHeld => ?_)
                  clear hK K
                  (try simp only [Act.put, List.setIfInBounds_toArray, List.set_cons_zero, List.set_cons_succ])
                  refine wpAnyH_take (i := 9) (v := ?v6_9) rfl (by kernel_rfl) (by kernel_rfl) (by kernel_rfl) (fun _ _ _ h => h) (Or.inl ⟨by kernel_rfl, ?y6_9⟩) (by assumption) ?r6_9
                  case y6_9 => (intro W hSW; (try dsimp only at hSW); go_simp; (try with_reducible rfl))
                  change wpAnyH _ _ _ _ _ _ _ (Act.put _ (some 151) _) _
                  (try simp only [Act.put, List.setIfInBounds_toArray, List.set_cons_zero, List.set_cons_succ])
                  refine wpAnyH_take (i := 10) (v := ?v6_10) rfl (by kernel_rfl) (by kernel_rfl) (by kernel_rfl) (fun _ _ _ h => h) (Or.inl ⟨by kernel_rfl, ?y6_10⟩) (by assumption) ?r6_10
                  case y6_10 => (intro W hSW; (try dsimp only at hSW); go_simp; (try with_reducible rfl))
                  change wpAnyH _ _ _ _ _ _ _ (Act.put _ (some 161) _) _
                  (try simp only [Act.put, List.setIfInBounds_toArray, List.set_cons_zero, List.set_cons_succ])
                  refine wpAnyH_take (i := 11) (v := ?v6_11) rfl (by kernel_rfl) (by kernel_rfl) (by kernel_rfl) (fun _ _ _ h => h) (Or.inl ⟨by kernel_rfl, ?y6_11⟩) (by assumption) ?r6_11
                  case y6_11 => (intro W hSW; (try dsimp only at hSW); go_simp; (try with_reducible rfl))
                  change wpAnyH _ _ _ _ _ _ _ (Act.put _ (some 162) _) _
                  (try simp only [Act.put, List.setIfInBounds_toArray, List.set_cons_zero, List.set_cons_succ])
                  refine wpAnyH_take (i := 12) (v := ?v6_12) rfl (by kernel_rfl) (by kernel_rfl) (by kernel_rfl) (fun _ _ _ h => h) (Or.inl ⟨by kernel_rfl, ?y6_12⟩) (by assumption) ?r6_12
                  case y6_12 => (intro W hSW; (try dsimp only at hSW); go_simp; (try with_reducible rfl))
                  change wpAnyH _ _ _ _ _ _ _ (Act.put _ (some 21) _) _
                  (try simp only [Act.put, List.setIfInBounds_toArray, List.set_cons_zero, List.set_cons_succ])
                  refine wpAnyH_take (i := 13) (v := ?v6_13) rfl (by kernel_rfl) (by kernel_rfl) (by kernel_rfl) (fun _ _ _ h => h) (Or.inl ⟨by kernel_rfl, ?y6_13⟩) (by assumption) ?r6_13
                  case y6_13 => (intro W hSW; (try dsimp only at hSW); go_simp; (try with_reducible rfl))
                  change wpAnyH _ _ _ _ _ _ _ (Act.put _ (some 22) _) _
                  (try simp only [Act.put, List.setIfInBounds_toArray, List.set_cons_zero, List.set_cons_succ])
                  refine wpAnyH_done (by kernel_rfl) ?_ _
                  obtain ⟨d0, d1, d2, d3, hbw8⟩ := hHeld
                  have HB8 := hide hbw8
                  clear HS0 hbw8 hb1 c0 c1 c2 c3
                  have HS0 : Hid ((fun w' => w'.cell? ⟨lb, lo, none⟩ = some (.int .i64 f0) ∧ w'.cell? ⟨lb, lo + 1, none⟩ = some (.int .i64 g0) ∧ w'.cell? ⟨lb, lo + i * 2, none⟩ = some (.int .i64 f1) ∧ w'.cell? ⟨lb, lo + i * 2 + 1, none⟩ = some (.int .i64 g1) ∧ Below W0.heap.size W0 w') w8.drew) := HKp.out _ _ ⟨d0, d1, d2, d3, HB8.out⟩ (below_drew (Below.refl _ w8))
                  clear d0 d1 d2 d3
                  go_wp2_with fail
                  refine wp_region_held_drew (S := fun w' => w'.cell? ⟨lb, lo, none⟩ = some (.int .i64 f0) ∧ w'.cell? ⟨lb, lo + 1, none⟩ = some (.int .i64 g0) ∧ w'.cell? ⟨lb, lo + i * 2, none⟩ = some (.int .i64 f1) ∧ w'.cell? ⟨lb, lo + i * 2 + 1, none⟩ = some (.int .i64 g1) ∧ Below W0.heap.size W0 w') (by kernel_rfl) (by (first | exact HKp.out _ _ hHeld hb1 | exact HS0.out)) (fun hHeld => ?_)
                  refine wpAnyH_take (i := 0) (v := ?v7_0) rfl (by kernel_rfl) (by kernel_rfl) (by kernel_rfl) (fun _ _ _ h => h) (Or.inl ⟨by kernel_rfl, ?y7_0⟩) (by assumption) ?r7_0
                  case y7_0 => (intro W hSW; (try dsimp only at hSW); go_simp; (try with_reducible rfl))
                  change wpAnyH _ _ _ _ _ _ _ (Act.put _ (some 163) _) _
                  (try simp only [Act.put, List.setIfInBounds_toArray, List.set_cons_zero, List.set_cons_succ])
                  refine wpAnyH_take (i := 1) (v := ?v7_1) rfl (by kernel_rfl) (by kernel_rfl) (by kernel_rfl) (fun _ _ _ h => h) (Or.inl ⟨by kernel_rfl, ?y7_1⟩) (by assumption) ?r7_1
                  case y7_1 => (intro W hSW; (try dsimp only at hSW); go_simp; (try with_reducible rfl))
                  change wpAnyH _ _ _ _ _ _ _ (Act.put _ (some 164) _) _
                  (try simp only [Act.put, List.setIfInBounds_toArray, List.set_cons_zero, List.set_cons_succ])
                  refine wpAnyH_take (i := 2) (v := ?v7_2) rfl (by kernel_rfl) (by kernel_rfl) (by kernel_rfl) (fun _ _ _ h => h) (Or.inl ⟨by kernel_rfl, ?y7_2⟩) (by assumption) ?r7_2
                  case y7_2 => (intro W hSW; (try dsimp only at hSW); go_simp; (try with_reducible rfl))
                  change wpAnyH _ _ _ _ _ _ _ (Act.put _ (some 165) _) _
                  (try simp only [Act.put, List.setIfInBounds_toArray, List.set_cons_zero, List.set_cons_succ])
                  refine wpAnyH_take (i := 3) (v := ?v7_3) rfl (by kernel_rfl) (by kernel_rfl) (by kernel_rfl) (fun _ _ _ h => h) (Or.inl ⟨by kernel_rfl, ?y7_3⟩) (by assumption) ?r7_3
                  case y7_3 => (intro W hSW; (try dsimp only at hSW); go_simp; (try with_reducible rfl))
                  change wpAnyH _ _ _ _ _ _ _ (Act.put _ (some 166) _) _
                  (try simp only [Act.put, List.setIfInBounds_toArray, List.set_cons_zero, List.set_cons_succ])
                  refine wpAnyH_take (i := 4) (v := ?v7_4) rfl (by kernel_rfl) (by kernel_rfl) (by kernel_rfl) (fun _ _ _ h => h) (Or.inl ⟨by kernel_rfl, ?y7_4⟩) (by assumption) ?r7_4
                  case y7_4 => (intro W hSW; (try dsimp only at hSW); go_simp; (try with_reducible rfl))
                  change wpAnyH _ _ _ _ _ _ _ (Act.put _ (some 167) _) _
                  (try simp only [Act.put, List.setIfInBounds_toArray, List.set_cons_zero, List.set_cons_succ])
                  refine wpAnyH_take (i := 5) (v := ?v7_5) rfl (by kernel_rfl) (by kernel_rfl) (by kernel_rfl) (fun _ _ _ h => h) (Or.inl ⟨by kernel_rfl, ?y7_5⟩) (by assumption) ?r7_5
                  case y7_5 => (intro W hSW; (try dsimp only at hSW); go_simp; (try with_reducible rfl))
                  change wpAnyH _ _ _ _ _ _ _ (Act.put _ (some 168) _) _
                  (try simp only [Act.put, List.setIfInBounds_toArray, List.set_cons_zero, List.set_cons_succ])
                  refine wpAnyH_take (i := 6) (v := ?v7_6) rfl (by kernel_rfl) (by kernel_rfl) (by kernel_rfl) (fun _ _ _ h => h) (Or.inl ⟨by kernel_rfl, ?y7_6⟩) (by assumption) ?r7_6
                  case y7_6 => (intro W hSW; (try dsimp only at hSW); go_simp; (try with_reducible rfl))
                  change wpAnyH _ _ _ _ _ _ _ (Act.put _ (some 169) _) _
                  (try simp only [Act.put, List.setIfInBounds_toArray, List.set_cons_zero, List.set_cons_succ])
                  refine wpAnyH_take (i := 8) (v := ?v7_8) rfl (by kernel_rfl) (by kernel_rfl) (by kernel_rfl) (fun _ _ _ h => h) (Or.inl ⟨by kernel_rfl, ?y7_8⟩) (by assumption) ?r7_8
                  case y7_8 => (intro W hSW; (try dsimp only at hSW); go_simp; (try with_reducible rfl))
                  change wpAnyH _ _ _ _ _ _ _ (Act.put _ (some 171) _) _
                  (try simp only [Act.put, List.setIfInBounds_toArray, List.set_cons_zero, List.set_cons_succ])
                  refine wpAnyH_ready (rs := [7]) (by kernel_rfl) (by simp) ?_
                  refine AllReadyH.cons rfl (fun K hK => ?_) AllReadyH.nil
                  rw [if_pos (by rfl)]
                  go_simp
                  first | (refine (HTw.out (w8.alloc (.cells #[.int .i64 f0, .int .i64 g0, .int .i64 f1, .int .i64 g1] 41)).drew w8.heap.size (HA2.out _ _ (heap_alloc_new w8 _))).mono ?_; rintro e w9 ⟨g3, rfl, hg3, hrow3, hb1⟩; go_simp) | (have hb1 := bal w8.drew (.cells #[.int .i64 f0, .int .i64 g0, .int .i64 f1, .int .i64 g1] 41))
                  refine hK.out _ _ (by (first | exact HKp.out _ _ hHeld hb1 | exact HS0.out)) (fun hHeld => ?_)
                  clear hK K
                  (try simp only [Act.put, List.setIfInBounds_toArray, List.set_cons_zero, List.set_cons_succ])
                  refine wpAnyH_ready (rs := [9]) (by kernel_rfl) (by simp) ?_
                  refine AllReadyH.cons rfl (fun K hK => ?_) AllReadyH.nil
                  rw [if_pos (by rfl)]
                  go_simp
                  first | (refine (HTw.out (w8.alloc (.cells #[.int .i64 f0, .int .i64 g0, .int .i64 f1, .int .i64 g1] 41)).drew w8.heap.size (HA2.out _ _ (heap_alloc_new w8 _))).mono ?_; rintro e w9 ⟨g3, rfl, hg3, hrow3, hb1⟩; go_simp) | (have hb1 := bal w8.drew (.cells #[.int .i64 f0, .int .i64 g0, .int .i64 f1, .int .i64 g1] 41))
                  refine hK.out _ _ (by (first | exact HKp.out _ _ hHeld hb1 | exact HS0.out)) (fun hHeld => ?_)
                  clear hK K
                  (try simp only [Act.put, List.setIfInBounds_toArray, List.set_cons_zero, List.set_cons_succ])
                  refine wpAnyH_take (i := 10) (v := ?v7_10) rfl (by kernel_rfl) (by kernel_rfl) (by kernel_rfl) (fun _ _ _ h => h) (Or.inl ⟨by kernel_rfl, ?y7_10⟩) (by assumption) ?r7_10
                  case y7_10 => (intro W hSW; (try dsimp only at hSW); go_simp; (try with_reducible rfl))
                  change wpAnyH _ _ _ _ _ _ _ (Act.put _ (some 23) _) _
                  (try simp only [Act.put, List.setIfInBounds_toArray, List.set_cons_zero, List.set_cons_succ])
                  refine wpAnyH_done (by kernel_rfl) ?_ _
                  obtain ⟨_, _, _, _, hbw9⟩ := hHeld
                  have HB9 := hide (HBi.out.trans (hbw9.mono HBi.out.size))
                  have HRow3 := hide hrow3
                  have hg3l : g3 < w9.heap.size := (Array.getElem?_eq_some_iff.1 hrow3).1
                  clear HS0 HKp hbw9 hb1 hrow3 HB8 HTw HA2 HM1'
                  go_wp2_with fail
                  obtain ⟨tB, hTB⟩ : ∃ tB : Nat → Bool, tB = fun p => decide (1 < cB p) := ⟨_, rfl⟩
                  have HTB := hide (show ∀ p, tB p = decide (1 < cB p) from fun p => by rw [hTB])
                  rw [← hTB] at HMt2
                  clear hTB
                  go_loop [24, 25, 175] (fun av _ kv => ∃ k : Nat, k ≤ m ∧ kv = .int .i64 k ∧ av = .bool (anyT tB k)) (fun _ _ kv => m - (intOf kv).toNat)
                  case atStart => exact ⟨0, Nat.zero_le _, rfl, rfl⟩
                  case round =>
                    obtain ⟨k, hk, rfl, rfl⟩ := hrel
                    by_cases hlt : k < m
                    · have c0 : w9.cell? ⟨g3, k, none⟩ = some (.int .i64 (cB k : Nat)) := by rw [cell_of_row _ _ _ _ _ _ HRow3.out, irow_get hlt]
                      have hS := anyT_succ tB k
                      rw [HTB.out k] at hS
                      have hck : cB k ≤ 2 := HCl2.out k
                      generalize cB k = q at *
                      by_cases hq : 1 < q
                      · rw [decide_eq_true hq] at hS
                        have hd5 : decide ((1 : Int) < (q : Int)) = true := decide_eq_true (by omega)
                        have HS := hide hS
                        clear hS
                        generalize anyT tB k = a at *
                        cases a with
                        | true =>
                          go_wp2_with fail
                          go_round
                          case rel => exact ⟨k + 1, by omega, by go_num, by rw [HS.out]; rfl⟩
                          case measure => simp [intOf]; omega
                        | false =>
                          go_wp2_with fail
                          go_round
                          case rel => exact ⟨k + 1, by omega, by go_num, by rw [HS.out]; rfl⟩
                          case measure => simp [intOf]; omega
                      · rw [decide_eq_false hq] at hS
                        have hd5 : decide ((1 : Int) < (q : Int)) = false := decide_eq_false (by omega)
                        have HS := hide hS
                        clear hS
                        generalize anyT tB k = a at *
                        cases a with
                        | true =>
                          go_wp2_with fail
                          go_round
                          case rel => exact ⟨k + 1, by omega, by go_num, by rw [HS.out]; rfl⟩
                          case measure => simp [intOf]; omega
                        | false =>
                          go_wp2_with fail
                          go_round
                          case rel => exact ⟨k + 1, by omega, by go_num, by rw [HS.out]; rfl⟩
                          case measure => simp [intOf]; omega
                    · have hkm : m = k := by omega
                      subst hkm
                      have hmb : anyT tB m = mb := HMt2.out
                      rw [hmb]
                      clear hmb
                      cases mb with
                      | true =>
                        go_wp2_with fail
                        exact ⟨⟨i + 1, by omega, by omega, by go_num, HB9.out⟩, by simp [intOf]; omega⟩
                      | false =>
                        go_wp2_with fail
                        exact ⟨⟨i + 1, by omega, by omega, by go_num, HB9.out⟩, by simp [intOf]; omega⟩
                · go_wp2_with fail
                  refine (HGaps.out _ (HI.out _ (HUp0.out _ HBi.out))).mono ?_
                  rintro e wa ⟨v2, rfl, hO2, hb⟩
                  have hba : Below w4.heap.size w4 wa := HBi.out.trans (hb.mono HBi.out.size)
                  have hgi : ∀ z ∈ toI (gapF t m), I64 z.1 ∧ I64 z.2 := toI_i64 hm1 (fun a ha => (gapF_mem hm0 ha).1)
                  have hgle : (toI (gapF t m)).length ≤ 1000 := by
                    rw [toI_len]; unfold gapF; split
                    · exact Nat.le_trans (gapTo_le _ _ _) hm1
                    · simp
                  obtain ⟨A3, c3, rfl, hA3⟩ := own_arcs (own_from HO4.out hba) hgi
                  obtain ⟨A4, c4, rfl, hA4⟩ := own_arcs hO2 hgi
                  have HSm := hide (fun W (h : Below wa.heap.size wa W) => rsame_at _ A3 A4 c3 c4 W (hA3.of_below h (Nat.le_refl _)) (hA4.of_below h (Nat.le_refl _)) hgle)
                  have HBA := hide hba
                  clear hba hgi hgle hA3 hA4 hO2 HO4 hb HGaps
                  generalize (toI (gapF t m)).length = L at *
                  go_wp2_with fail
                  refine (HSm.out _ (Below.refl _ _)).mono ?_
                  rintro e wb ⟨rfl, hb⟩
                  have hbb := HBA.out.trans (hb.mono HBA.out.size)
                  obtain ⟨b, off, e, _, c0, _⟩ := (HAr.out _ (HUp.out _ hbb)).at (k := l.length) (by simp)
                  cases e
                  rw [getD_end, Nat.zero_add, ← HN.out] at c0
                  have HFin := hide (HUp0.out _ hbb)
                  clear hbb hb
                  go_wp2_with fail
                  go_ret
                  exact ⟨rfl, HFin.out⟩
end Go.Proofs.Ytmplioglihmkjaa
