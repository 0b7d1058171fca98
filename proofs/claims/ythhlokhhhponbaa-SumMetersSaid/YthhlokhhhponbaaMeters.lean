/-
  The walk of SumMeters: whatever two meters are given, each counts what it was given itself, and tells the document's sums, and the first of them.
-/
import Derived.Test.YthhlokhhhponbaaPair
import Derived.Deep.DeepCutAuto
import Derived.StillTailTactics
namespace Go.Proofs.Ythhlokhhhponbaa
open Go.RowKit
set_option linter.unusedVariables false

theorem conv_drew (w : World) (b : Nat) (C : Array Value) (n c : Nat) (hb : w.heap.size = b) :
    (convert 22 22 (.slice (some ⟨b, 0, none⟩) n c)).run Try.prog (w.alloc (.cells C 5)).drew = .ok (.slice (some ⟨b, 0, none⟩) n c) (w.alloc (.cells C 5 (C.size, C.size + 1))).drew :=
  conv_bytes w.drew b C n c hb

set_option maxRecDepth 100000 in
set_option maxHeartbeats 4000000 in
theorem meters_any (L : List (List Nat)) (who ask : List Bool) (n nw na : Nat) (A AW AA : Option Addr) (c cw ca : Nat) (w : World) (hn : L.length = n) (hnw : who.length = nw) (hna : ask.length = na)
    (hT : Texts w A L) (hW : Bools w AW who) (hA : Bools w AA ask) (hw1 : nw ≤ cw) (hw2 : cw ≤ maxLen) (ha1 : na ≤ ca) (ha2 : ca ≤ maxLen) :
    Calls Try.prog 4 #[.slice A n c, .slice AW nw cw, .slice AA na ca] w fun e w' => e = .returned (.bool true) ∧ Below w.heap.size w w' := by
  have Hn := hide hn; have Hw := hide hnw; have Ha := hide hna; clear hn hnw hna
  unfold maxLen at hw2 ha2
  by_cases hlen : 1000 < n
  · go_enter Try.func4, Try.ntmps4
    go_wp2
    go_ret
    exact ⟨rfl, Below.refl _ _⟩
  · go_enter Try.func4, Try.ntmps4
    go_wp2_with (go_at_call 17; refine (new_any _).mono ?_; rintro e w1 ⟨rfl, rfl⟩)
    have h0 : Inv w w.heap.size (w.heap.size + 1) (w.heap.size + 1 + 1) (w.heap.size + 1 + 1 + 1) (w.heap.size + 1 + 1 + 1 + 1) (w.heap.size + 1 + 1 + 1 + 1 + 1) 0 _ := ⟨0, 0, 0, 0, 0, 0, MS.start w, by omega, by omega, fun _ => rfl, fun _ => rfl⟩
    generalize ((((((w.alloc (.cells (mcells false 0 0 0) 56)).alloc (.cells (mcells false 0 0 0) 56)).alloc
      (.cells #[.pointer (some ⟨w.heap.size, 0, none⟩), .pointer (some ⟨w.heap.size + 1, 0, none⟩)] 33)).alloc
      (.cells #[.int .u64 0, .int .u64 0] 35)).alloc (.cells #[.int .u64 0, .int .u64 0] 35)).alloc (.cells #[.int .u32 0, .int .u32 0] 36)) = W0 at h0
    generalize w.heap.size + 1 + 1 + 1 + 1 + 1 = p5 at h0
    generalize w.heap.size + 1 + 1 + 1 + 1 = p4 at h0
    generalize w.heap.size + 1 + 1 + 1 = p3 at h0
    generalize w.heap.size + 1 + 1 = p2 at h0
    generalize w.heap.size + 1 = g1 at h0
    obtain ⟨g0, hg0⟩ : ∃ g0, g0 = w.heap.size := ⟨_, rfl⟩
    rw [← hg0] at h0
    simp only [← hg0]
    have Hg0 := hide hg0; clear hg0
    go_loopw [11, 12] (fun i _ wr => ∃ k : Nat, k ≤ n ∧ i = .int .i64 k ∧ Inv w g0 g1 p2 p3 p4 p5 k wr) (fun i _ _ => n - (intOf i).toNat)
    case atStart => exact ⟨0, by omega, rfl, h0⟩
    case round =>
      obtain ⟨k, hk, rfl, hinv⟩ := hrel
      clear h0
      obtain ⟨f0, b0, s0, f1, b1, s1, ms, hbs, hss, hz0, hz1⟩ := hinv
      by_cases hlt : k < n
      · have hWr := hW.of_below ms.below (Nat.le_refl _)
        obtain ⟨tb, tq, rfl, htb, htc⟩ : ∃ b off, A = some ⟨b, off, none⟩ ∧ b < w.heap.size ∧ ∀ i, i < L.length → ∃ Ai ci, w.cell? ⟨b, off + i, none⟩ = some (.slice Ai (L.getD i []).length ci) ∧ Bytes w Ai (L.getD i []) := by
          rcases hT with h | h
          · have := Hn.out; rw [h] at this; simp at this; omega
          · exact h
        obtain ⟨Ai, ci, tcw, hBw⟩ := htc k (by rw [Hn.out]; exact hlt)
        generalize L.getD k [] = l at tcw hBw
        obtain ⟨ln, hln⟩ : ∃ ln, l.length = ln := ⟨_, rfl⟩
        rw [hln] at tcw
        have Hln := hide hln; clear hln htc
        have tc : wr.cell? ⟨tb, tq + k, none⟩ = some (.slice Ai ln ci) := (ms.below.cell (p := ⟨tb, tq + k, none⟩) htb).trans tcw
        have hBi := hBw.of_below ms.below (Nat.le_refl _)
        by_cases hbig : 1000 < ln
        · have hbel := ms.below
          clear ms
          go_wp2
          go_ret
          exact ⟨rfl, hbel⟩
        · obtain ⟨kb, hkb⟩ : ∃ kb : Bool, (decide (k < nw) && who.getD k false) = kb := ⟨_, rfl⟩
          have Hkb := hide hkb; clear hkb
          go_upto_region 12 with fail
          go_cut [43] (fun s wx => s = .bool kb ∧ wr = wx)
          case first =>
            by_cases hwl : k < nw
            · obtain ⟨wb, wo, rfl, hwb, hwc⟩ : ∃ b off, AW = some ⟨b, off, none⟩ ∧ b < wr.heap.size ∧ ∀ i, i < who.length → wr.cell? ⟨b, off + i, none⟩ = some (.bool (who.getD i false)) := by
                rcases hWr with h | h
                · have := Hw.out; rw [h] at this; simp at this; omega
                · exact h
              have wc := hwc k (by rw [Hw.out]; exact hwl)
              have Hk2 := hide (show who.getD k false = kb by rw [← Hkb.out]; simp [hwl])
              rw [Hk2.out] at wc
              clear hwc
              go_wp2_with fail
              go_meet
              exact ⟨rfl, rfl⟩
            · have Hk2 := hide (show false = kb by rw [← Hkb.out]; simp [hwl])
              go_wp2_with fail
              go_meet
              exact ⟨by rw [← Hk2.out], rfl⟩
          case rest =>
            obtain ⟨rfl, rfl⟩ := hcut
            cases kb with
            | false =>
              go_wp2_with fail
              have msd := ms.drew
              have c20 := ms.c20
              have hBd : Bytes wr.drew Ai l := hBi
              go_region_held3 (fun w' => w'.cell? ⟨p2, 0, none⟩ = some (.pointer (some ⟨g0, 0, none⟩)) ∧ w'.cell? ⟨tb, tq + k, none⟩ = some (.slice Ai ln ci) ∧ Bytes w' Ai l)
                (first
                  | exact ⟨c20, tc, hBi⟩
                  | assumption
                  | exact ⟨(msd.add0 hg2 hb2).c20, ((msd.add0 hg2 hb2).below.cell (p := ⟨tb, tq + k, none⟩) htb).trans tcw, hBw.of_below (msd.add0 hg2 hb2).below (Nat.le_refl _)⟩)
                (first
                  | (go_at_call 18; refine (add_any g0 l ln Ai ci f0 b0 s0 (decide (0 < s0)) _ Hln.out hBd (by omega) (by omega) (by omega) msd.m0).mono ?_; rintro e w2 ⟨rfl, hb2, hg2⟩)
                  | (go_at_call 14; refine (rsum_at l _ _ _ _ Hln.out (by first | exact hBd | exact hBw.of_below (msd.add0 hg2 hb2).below (Nat.le_refl _)) (by omega)).mono ?_; rintro e w' ⟨rfl, rfl⟩))
              obtain ⟨F, hF⟩ : ∃ F, (if decide (0 < s0) = true then f0 else SumMath.more 0 l) = F := ⟨_, rfl⟩
              rw [hF] at hb2
              have ms2 := msd.add0 hg2 hb2
              have c40 := ms2.c40
              have tc2 : w2.cell? ⟨tb, tq + k, none⟩ = some (.slice Ai ln ci) := (ms2.below.cell (p := ⟨tb, tq + k, none⟩) htb).trans tcw
              have hB2 := hBw.of_below ms2.below (Nat.le_refl _)
              have HF := hide hF
              clear hb2 hg2 msd c20 hBd hBi tc hF
              go_upto_if 61 with fail
              go_cut [] (fun wx => MS w wx g0 g1 p2 p3 p4 p5 true F (b0 + ln) (s0 + 1) (decide (0 < s1)) f1 b1 s1 F f1 b0 b1 s0 s1)
              case first =>
                by_cases hs0 : s0 = 0
                · have ht : ((s0 : Int) == 0) = true := by rw [hs0]; rfl
                  have HF2 := hide (show SumMath.more 0 l = F by rw [← HF.out, hs0]; rfl)
                  have c50 := ms2.c50
                  have z50 := ms2.z50
                  have ms3 := ms2.setF0 F
                  clear hs0
                  go_wp2_with fail
                  refine (rsum_at l _ _ _ _ Hln.out hB2 (by omega)).mono ?_
                  rintro e w' ⟨rfl, rfl⟩
                  rw [HF2.out]
                  go_wp2_with fail
                  go_meet
                  exact ms3
                · have ht : ((s0 : Int) == 0) = false := by simp only [beq_eq_false_iff_ne, ne_eq]; omega
                  have hF2 : f0 = F := by rw [← HF.out, if_pos (by simp; omega)]
                  rw [hF2] at ms2
                  clear hs0 hF2
                  go_wp2_with fail
                  go_meet
                  exact ms2
              case rest =>
                have HF0 := hide hz0; have HF1 := hide hz1
                clear ms2 c40 tc2 hB2 hz0 hz1 ms hWr
                have c30 := hcut.c30
                have z30 := hcut.z30
                have tc3 : wc.cell? ⟨tb, tq + k, none⟩ = some (.slice Ai ln ci) := (hcut.below.cell (p := ⟨tb, tq + k, none⟩) htb).trans tcw
                have ms4 := hcut.setB0 (b0 + ln)
                rw [show ((b0 + ln : Nat) : Int) = (b0 : Int) + (ln : Int) by omega] at ms4
                have ms5 := ms4.drew
                clear ms4
                go_wp2_with fail
                go_region
                generalize (wc.setCell ⟨p3, 0, none⟩ (.int .u64 ((b0 : Int) + (ln : Int)))).drew = w5 at ms5
                have c40 := ms5.c40
                have z40 := ms5.z40
                have ms6 := ms5.setS0 (s0 + 1)
                rw [show ((s0 + 1 : Nat) : Int) = (s0 : Int) + 1 by omega] at ms6
                clear ms5 hcut c30 z30 tc3
                go_upto_region 20 with fail
                generalize w5.setCell ⟨p4, 0, none⟩ (.int .u64 ((s0 : Int) + 1)) = w6 at ms6
                go_cut [115] (fun s wx => s = .bool false ∧ MS w wx g0 g1 p2 p3 p4 p5 true F (b0 + ln) (s0 + 1) (decide (0 < s1)) f1 b1 s1 F f1 (b0 + ln) b1 (s0 + 1) s1)
                case first =>
                  have hAr := hA.of_below ms6.below (Nat.le_refl _)
                  by_cases hal : k < na
                  · obtain ⟨ab, ao, rfl, hab, hac⟩ : ∃ b off, AA = some ⟨b, off, none⟩ ∧ b < w6.heap.size ∧ ∀ i, i < ask.length → w6.cell? ⟨b, off + i, none⟩ = some (.bool (ask.getD i false)) := by
                      rcases hAr with h | h
                      · have := Ha.out; rw [h] at this; simp at this; omega
                      · exact h
                    have ac := hac k (by rw [Ha.out]; exact hal)
                    have i1 : (k : Int) < (na : Int) := by omega
                    have i0 : (0 : Int) ≤ (k : Int) := by omega
                    clear hac
                    cases hab2 : ask.getD k false with
                    | true =>
                      rw [hab2] at ac
                      have c20 := ms6.c20; have c30 := ms6.c30; have c40 := ms6.c40
                      have m6 : ∀ q, Blk (w6.drewN q) g0 (mcells true F (b0 + ln) (s0 + 1)) := fun q => ms6.m0
                      clear hab2
                      go_quiet ((first
                        | (go_at_call 19; exact Calls.quiet_of_same ((bytes_yes g0 F (b0 + ln) (s0 + 1) true _ (m6 _)).mono fun _ _ ⟨he, hw⟩ => ⟨he, hw.symm⟩))
                        | (go_at_call 20; exact Calls.quiet_of_same ((sums_yes g0 F (b0 + ln) (s0 + 1) true _ (m6 _)).mono fun _ _ ⟨he, hw⟩ => ⟨he, hw.symm⟩))))
                      go_wp2_with fail
                      go_meet
                      exact ⟨rfl, ms6.drewN _⟩
                    | false =>
                      rw [hab2] at ac
                      clear hab2
                      go_quiet (fail)
                      go_wp2_with fail
                      go_meet
                      exact ⟨rfl, ms6.drewN _⟩
                  · have hal2 : decide ((k : Int) < (na : Int)) = false := by simp; omega
                    go_quiet (fail)
                    go_wp2_with fail
                    go_meet
                    exact ⟨rfl, ms6.drewN _⟩
                case rest =>
                  obtain ⟨rfl, ms7⟩ := hcut
                  go_wp2_with fail
                  go_roundw
                  case rel => exact ⟨k + 1, by omega, by go_num, F, b0 + ln, s0 + 1, f1, b1, s1, by simpa using ms7, by omega, by omega, by omega, HF1.out⟩
                  case measure => simp [intOf]; omega
            | true =>
              go_wp2_with fail
              have msd := ms.drew
              have c21 := ms.c21
              have hBd : Bytes wr.drew Ai l := hBi
              go_region_held3 (fun w' => w'.cell? ⟨p2, 1, none⟩ = some (.pointer (some ⟨g1, 0, none⟩)) ∧ w'.cell? ⟨tb, tq + k, none⟩ = some (.slice Ai ln ci) ∧ Bytes w' Ai l)
                (first
                  | exact ⟨c21, tc, hBi⟩
                  | assumption
                  | exact ⟨(msd.add1 hg2 hb2).c21, ((msd.add1 hg2 hb2).below.cell (p := ⟨tb, tq + k, none⟩) htb).trans tcw, hBw.of_below (msd.add1 hg2 hb2).below (Nat.le_refl _)⟩)
                (first
                  | (go_at_call 18; refine (add_any g1 l ln Ai ci f1 b1 s1 (decide (0 < s1)) _ Hln.out hBd (by omega) (by omega) (by omega) msd.m1).mono ?_; rintro e w2 ⟨rfl, hb2, hg2⟩)
                  | (go_at_call 14; refine (rsum_at l _ _ _ _ Hln.out (by first | exact hBd | exact hBw.of_below (msd.add1 hg2 hb2).below (Nat.le_refl _)) (by omega)).mono ?_; rintro e w' ⟨rfl, rfl⟩))
              obtain ⟨F, hF⟩ : ∃ F, (if decide (0 < s1) = true then f1 else SumMath.more 0 l) = F := ⟨_, rfl⟩
              rw [hF] at hb2
              have ms2 := msd.add1 hg2 hb2
              have c41 := ms2.c41
              have tc2 : w2.cell? ⟨tb, tq + k, none⟩ = some (.slice Ai ln ci) := (ms2.below.cell (p := ⟨tb, tq + k, none⟩) htb).trans tcw
              have hB2 := hBw.of_below ms2.below (Nat.le_refl _)
              have HF := hide hF
              clear hb2 hg2 msd c21 hBd hBi tc hF
              go_upto_if 61 with fail
              go_cut [] (fun wx => MS w wx g0 g1 p2 p3 p4 p5 (decide (0 < s0)) f0 b0 s0 true F (b1 + ln) (s1 + 1) f0 F b0 b1 s0 s1)
              case first =>
                by_cases hs0 : s1 = 0
                · have ht : ((s1 : Int) == 0) = true := by rw [hs0]; rfl
                  have HF2 := hide (show SumMath.more 0 l = F by rw [← HF.out, hs0]; rfl)
                  have c51 := ms2.c51
                  have z51 := ms2.z51
                  have ms3 := ms2.setF1 F
                  clear hs0
                  go_wp2_with fail
                  refine (rsum_at l _ _ _ _ Hln.out hB2 (by omega)).mono ?_
                  rintro e w' ⟨rfl, rfl⟩
                  rw [HF2.out]
                  go_wp2_with fail
                  go_meet
                  exact ms3
                · have ht : ((s1 : Int) == 0) = false := by simp only [beq_eq_false_iff_ne, ne_eq]; omega
                  have hF2 : f1 = F := by rw [← HF.out, if_pos (by simp; omega)]
                  rw [hF2] at ms2
                  clear hs0 hF2
                  go_wp2_with fail
                  go_meet
                  exact ms2
              case rest =>
                have HF0 := hide hz0; have HF1 := hide hz1
                clear ms2 c41 tc2 hB2 hz0 hz1 ms hWr
                have c31 := hcut.c31
                have z31 := hcut.z31
                have tc3 : wc.cell? ⟨tb, tq + k, none⟩ = some (.slice Ai ln ci) := (hcut.below.cell (p := ⟨tb, tq + k, none⟩) htb).trans tcw
                have ms4 := hcut.setB1 (b1 + ln)
                rw [show ((b1 + ln : Nat) : Int) = (b1 : Int) + (ln : Int) by omega] at ms4
                have ms5 := ms4.drew
                clear ms4
                go_wp2_with fail
                go_region
                generalize (wc.setCell ⟨p3, 1, none⟩ (.int .u64 ((b1 : Int) + (ln : Int)))).drew = w5 at ms5
                have c41 := ms5.c41
                have z41 := ms5.z41
                have ms6 := ms5.setS1 (s1 + 1)
                rw [show ((s1 + 1 : Nat) : Int) = (s1 : Int) + 1 by omega] at ms6
                clear ms5 hcut c31 z31 tc3
                go_upto_region 20 with fail
                generalize w5.setCell ⟨p4, 1, none⟩ (.int .u64 ((s1 : Int) + 1)) = w6 at ms6
                go_cut [115] (fun s wx => s = .bool false ∧ MS w wx g0 g1 p2 p3 p4 p5 (decide (0 < s0)) f0 b0 s0 true F (b1 + ln) (s1 + 1) f0 F b0 (b1 + ln) s0 (s1 + 1))
                case first =>
                  have hAr := hA.of_below ms6.below (Nat.le_refl _)
                  by_cases hal : k < na
                  · obtain ⟨ab, ao, rfl, hab, hac⟩ : ∃ b off, AA = some ⟨b, off, none⟩ ∧ b < w6.heap.size ∧ ∀ i, i < ask.length → w6.cell? ⟨b, off + i, none⟩ = some (.bool (ask.getD i false)) := by
                      rcases hAr with h | h
                      · have := Ha.out; rw [h] at this; simp at this; omega
                      · exact h
                    have ac := hac k (by rw [Ha.out]; exact hal)
                    have i1 : (k : Int) < (na : Int) := by omega
                    have i0 : (0 : Int) ≤ (k : Int) := by omega
                    clear hac
                    cases hab2 : ask.getD k false with
                    | true =>
                      rw [hab2] at ac
                      have c21 := ms6.c21; have c31 := ms6.c31; have c41 := ms6.c41
                      have m6 : ∀ q, Blk (w6.drewN q) g1 (mcells true F (b1 + ln) (s1 + 1)) := fun q => ms6.m1
                      clear hab2
                      go_quiet ((first
                        | (go_at_call 19; exact Calls.quiet_of_same ((bytes_yes g1 F (b1 + ln) (s1 + 1) true _ (m6 _)).mono fun _ _ ⟨he, hw⟩ => ⟨he, hw.symm⟩))
                        | (go_at_call 20; exact Calls.quiet_of_same ((sums_yes g1 F (b1 + ln) (s1 + 1) true _ (m6 _)).mono fun _ _ ⟨he, hw⟩ => ⟨he, hw.symm⟩))))
                      go_wp2_with fail
                      go_meet
                      exact ⟨rfl, ms6.drewN _⟩
                    | false =>
                      rw [hab2] at ac
                      clear hab2
                      go_quiet (fail)
                      go_wp2_with fail
                      go_meet
                      exact ⟨rfl, ms6.drewN _⟩
                  · have hal2 : decide ((k : Int) < (na : Int)) = false := by simp; omega
                    go_quiet (fail)
                    go_wp2_with fail
                    go_meet
                    exact ⟨rfl, ms6.drewN _⟩
                case rest =>
                  obtain ⟨rfl, ms7⟩ := hcut
                  go_wp2_with fail
                  go_roundw
                  case rel => exact ⟨k + 1, by omega, by go_num, f0, b0, s0, F, b1 + ln, s1 + 1, by simpa using ms7, by omega, by omega, HF0.out, by omega⟩
                  case measure => simp [intOf]; omega
      · clear hbs hss
        go_wp2_with fail
        go_loop [13, 14, 15] (fun i _ _ => ∃ k : Nat, k ≤ 2 ∧ i = .int .i64 k) (fun i _ _ => 2 - (intOf i).toNat)
        case atStart => exact ⟨0, by omega, rfl⟩
        case round =>
          obtain ⟨j, hj, rfl⟩ := hrel
          have hj3 : j = 0 ∨ j = 1 ∨ j = 2 := by omega
          rcases hj3 with rfl | rfl | rfl
          · have c2k := ms.c20; have c4k := ms.c40; have c5k := ms.c50
            have mk := ms.m0
            by_cases hs : s0 = 0
            · have hf : ((f0 : Nat) : Int) = 0 := by rw [hz0 hs]; rfl
              rw [hf] at c5k
              have hd : decide (0 < s0) = false := by simp; omega
              rw [hd] at mk
              have hs' : s0 ≤ 0 := by omega
              clear hs hf hz0 hz1
              go_wp2_with fail
              refine (first_no g0 f0 b0 s0 _ mk).mono ?_
              rintro e w' ⟨rfl, rfl⟩
              go_wp2_with fail
              go_round
              case rel => exact ⟨1, by omega, rfl⟩
              case measure => simp [intOf]
            · have hd : decide (0 < s0) = true := by simp; omega
              rw [hd] at mk
              have hs' : 0 < s0 := by omega
              clear hs hz0 hz1
              go_wp2_with fail
              refine (first_yes g0 f0 b0 s0 _ mk).mono ?_
              rintro e w' ⟨rfl, rfl⟩
              go_wp2_with fail
              go_round
              case rel => exact ⟨1, by omega, rfl⟩
              case measure => simp [intOf]
          · have c2k := ms.c21; have c4k := ms.c41; have c5k := ms.c51
            have mk := ms.m1
            by_cases hs : s1 = 0
            · have hf : ((f1 : Nat) : Int) = 0 := by rw [hz1 hs]; rfl
              rw [hf] at c5k
              have hd : decide (0 < s1) = false := by simp; omega
              rw [hd] at mk
              have hs' : s1 ≤ 0 := by omega
              clear hs hf hz0 hz1
              go_wp2_with fail
              refine (first_no g1 f1 b1 s1 _ mk).mono ?_
              rintro e w' ⟨rfl, rfl⟩
              go_wp2_with fail
              go_round
              case rel => exact ⟨2, by omega, rfl⟩
              case measure => simp [intOf]
            · have hd : decide (0 < s1) = true := by simp; omega
              rw [hd] at mk
              have hs' : 0 < s1 := by omega
              clear hs hz0 hz1
              go_wp2_with fail
              refine (first_yes g1 f1 b1 s1 _ mk).mono ?_
              rintro e w' ⟨rfl, rfl⟩
              go_wp2_with fail
              go_round
              case rel => exact ⟨2, by omega, rfl⟩
              case measure => simp [intOf]
          · have msd := ms.drew
            obtain ⟨W, hW⟩ : ∃ W, W = wr.drew := ⟨_, rfl⟩
            rw [← hW] at msd
            have HW := hide hW; clear hW ms
            have c20 := msd.c20; have c21 := msd.c21; have c30 := msd.c30; have c31 := msd.c31; have c40 := msd.c40; have c41 := msd.c41
            have kc := conv_bytes
            clear hz0 hz1 hT hA
            go_wp2_with fail
            refine wp_region_still_tail 35 (by kernel_rfl) (by kernel_rfl) ?_
            simp only [List.take_succ_cons, List.take_zero, List.drop_succ_cons, List.drop_zero]
            change wpStill Try.prog _ wr.drew _ _ _
            rw [← HW.out]
            still_step
            still_step
            still_call ((bytes_yes g0 f0 b0 s0 _ W msd.m0).mono fun _ _ ⟨he, hw⟩ => ⟨he, hw.symm⟩)
            still_step
            still_step
            still_step
            still_step
            still_step
            still_step
            still_call ((bytes_yes g1 f1 b1 s1 _ W msd.m1).mono fun _ _ ⟨he, hw⟩ => ⟨he, hw.symm⟩)
            still_step
            still_step
            still_step
            still_step
            still_step
            still_step
            still_step
            still_call ((sums_yes g0 f0 b0 s0 _ W msd.m0).mono fun _ _ ⟨he, hw⟩ => ⟨he, hw.symm⟩)
            still_step
            still_step
            still_step
            still_step
            still_step
            still_step
            still_step
            still_call ((sums_yes g1 f1 b1 s1 _ W msd.m1).mono fun _ _ ⟨he, hw⟩ => ⟨he, hw.symm⟩)
            still_step
            still_step
            still_step
            still_step
            still_step
            still_call ((sum_is [] 0 0 none 0 W rfl rfl (Bytes.empty _ _) (by decide)).mono fun _ _ ⟨he, hw⟩ => ⟨he, hw.symm⟩)
            still_step
            still_step
            still_step
            refine wpStill_nil ?_
            change wpList _ _ _ _ _ wr.drew
            rw [← HW.out]
            go_wp2_with fail
            refine (sum_is [97] 3904355907 _ _ _ _ (by rw [more_a]; rfl) rfl (Bytes.new W [97] (by decide) _ rfl _ _ _ rfl) (by decide)).mono ?_
            rintro e w' ⟨rfl, rfl⟩
            go_wp2_with fail
            go_ret
            exact ⟨rfl, (msd.alloc _).below⟩
end Go.Proofs.Ythhlokhhhponbaa
