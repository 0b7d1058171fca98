/-
  Check takes a plan; there is one just where no node is asked for more than it has.
-/
import Derived.Test.YtdennekkbdlhdaaDoorChkP
import Derived.Test.YtdennekkbdlhdaaDoorMK
import Derived.Test.YtdennekkbdlhdaaDoorPnK
import Derived.Test.YtdennekkbdlhdaaDoorPnAl
namespace Go.Proofs.YtdennekkbdlhdaaDoor
open Go.RowKit Go.Shelf
attribute [local go_sem] Oper.semAt_some
set_option linter.unusedVariables false
set_option linter.unusedSimpArgs false
set_option maxRecDepth 100000

set_option maxHeartbeats 8000000 in
theorem plchecks_any (d : Dm) (a : Da) (w : World) (hg : Glo w) (h : DmAt w d a) :
    Calls Tryd.prog 3 #[d.val a] w fun e w' => e = .returned (.bool true) ∧ Below w.heap.size w w' := by
  have HAl := hide alive_any
  have HGr := hide (fun W (hb : Below w.heap.size w W) => great_at d a W (h.of_below hb (Nat.le_refl _)))
  have HMk := hide (fun W (hb : Below w.heap.size w W) => make_at d a W (h.of_below hb (Nat.le_refl _)))
  have HLd := hide (fun W (hb : Below w.heap.size w W) => load_fit d a W (h.of_below hb (Nat.le_refl _)))
  have HMay := hide (fun W (hb : Below w.heap.size w W) => may_at d a W (h.of_below hb (Nat.le_refl _)))
  have HCk := hide (fun A W (hb : Below w.heap.size w W) (hc : ConfAt W (makeF d) A) => check_any (makeF d) A W (hg.below hb (Nat.le_refl _)) hc)
  have HPc := hide (show errF d = 0 → checkF (makeF d) = 0 from fun he => by unfold makeF; rw [if_pos he]; exact plan_checks he)
  have HBx := hide (dm_box w d a 25)
  have HB := hide (bal w (.cells (d.cells a) 25))
  unfold Dm.val Dm.cells at *
  obtain ⟨T, hTe⟩ : ∃ T, T = d.tasks.length := ⟨_, rfl⟩
  obtain ⟨R, hRe⟩ : ∃ R, R = d.streams.length := ⟨_, rfl⟩
  obtain ⟨nodes, hno⟩ : ∃ n, n = d.nodes := ⟨_, rfl⟩
  have HT := hide hTe
  have HR := hide hRe
  have HNo := hide hno
  rw [← hTe, ← hRe, ← hno] at HMay HBx HB HGr HMk HLd ⊢
  generalize hCe : makeF d = c at HMk HCk HPc
  generalize hEe : errF d = er at HMk HPc
  have HEe := hide hEe
  clear hTe hRe hno h hg hCe hEe
  go_enter Tryd.func3, Tryd.ntmps3
  go_wp2_with fail
  refine (HAl.out _).mono ?_
  rintro e w1 ⟨rfl, hb1⟩
  have HB1 := hide (HB.out.trans (hb1.mono HB.out.size))
  have HX1 := hide (HBx.out.below hb1 HBx.out.lt)
  clear hb1 HB HBx HAl
  obtain ⟨dl, a0, a1, a2, a3, a4, a5, a6⟩ := HX1.out
  rw [← HT.out] at a5
  rw [← HR.out] at a6
  rw [← HNo.out] at a0
  go_wp2_with fail
  clear dl a0 a1 a2 a3 a4 a5 a6
  refine (HGr.out _ HB1.out).mono ?_
  rintro e w2 ⟨⟨z, rfl⟩, hb2⟩
  have HB2 := hide (HB1.out.trans (hb2.mono HB1.out.size))
  have HX2 := hide (HX1.out.below hb2 HX1.out.lt)
  clear hb2 HB1 HX1 HGr
  by_cases hz : 0 < z
  · have hzd : decide (0 < z) = true := decide_eq_true hz
    go_wp2_with fail
    go_ret
    exact ⟨rfl, HB2.out⟩
  have hzd : decide (0 < z) = false := decide_eq_false hz
  obtain ⟨dl, a0, a1, a2, a3, a4, a5, a6⟩ := HX2.out
  rw [← HT.out] at a5
  rw [← HR.out] at a6
  rw [← HNo.out] at a0
  go_wp2_with fail
  clear dl a0 a1 a2 a3 a4 a5 a6 hz hzd
  refine (HMk.out _ HB2.out).mono ?_
  rintro e w3 ⟨hb3, A, rfl, hcf⟩
  have HB3 := hide (HB2.out.trans (hb3.mono HB2.out.size))
  have HX3 := hide (HX2.out.below hb3 HX2.out.lt)
  have HCf3 := hide hcf
  clear hb3 hcf HB2 HX2 HMk
  have HBo := hide (boxed_new w3 c A 34)
  have HB4 := hide (HB3.out.trans ((bal w3 (.cells (c.cells A) 34)).mono HB3.out.size))
  have HX4 := hide (HX3.out.below (bal w3 (.cells (c.cells A) 34)) HX3.out.lt)
  have HCf4 := hide (HCf3.out.of_below (bal w3 (.cells (c.cells A) 34)) (Nat.le_refl _))
  clear HB3 HX3 HCf3
  obtain ⟨oA, oC, pA, pC, wA, wC, qA, qC, lA, lC⟩ := A
  obtain ⟨cn, owners, drift, reading, margin, bound, rejoin, quota, parts, windows, ports, links⟩ := c
  unfold Conf.val at HCk ⊢
  unfold Conf.cells at HB4 HX4 HCf4 HBo
  dsimp only at HCk HB4 HX4 HCf4 HBo ⊢
  obtain ⟨dl, a0, a1, a2, a3, a4, a5, a6⟩ := HX4.out
  rw [← HT.out] at a5
  rw [← HR.out] at a6
  rw [← HNo.out] at a0
  go_wp2_with fail
  clear dl a0 a1 a2 a3 a4 a5 a6
  generalize hb4 : w3.heap.size = b at HBo ⊢
  clear hb4
  refine (HLd.out _ HB4.out).mono ?_
  rintro e w5 ⟨hb5, n, A1, A2, A3, M, S, P, rfl, hld⟩
  have HB5 := hide (HB4.out.trans (hb5.mono HB4.out.size))
  have HX5 := hide (HX4.out.below hb5 HX4.out.lt)
  have HCf5 := hide (HCf4.out.of_below hb5 (Nat.le_refl _))
  have HY5 := hide (HBo.out.below hb5 (Nat.le_refl _))
  have HL5 := hide hld
  clear hb5 hld HB4 HX4 HCf4 HBo HLd
  obtain ⟨dl, a0, a1, a2, a3, a4, a5, a6⟩ := HX5.out
  rw [← HT.out] at a5
  rw [← HR.out] at a6
  rw [← HNo.out] at a0
  go_wp2_with fail
  clear dl a0 a1 a2 a3 a4 a5 a6
  refine (HMay.out _ HB5.out).mono ?_
  rintro e w6 ⟨rfl, hb6⟩
  have HB6 := hide (HB5.out.trans (hb6.mono HB5.out.size))
  have HX6 := hide (HX5.out.below hb6 HX5.out.lt)
  have HCf6 := hide (HCf5.out.of_below hb6 (Nat.le_refl _))
  have HY6 := hide (HY5.out.below hb6 (Nat.le_refl _))
  have HL6 := hide (HL5.out.of_below hb6 (Nat.le_refl _))
  have HTie := hide HL5.out.tie
  rw [HEe.out, ← HNo.out] at HTie
  have hn16 := HL5.out.n16
  clear hb6 HB5 HX5 HCf5 HY5 HL5 HMay HEe
  generalize mayD d = my at HTie ⊢
  go_wp2_with fail
  generalize hwo : w6 = wo at *
  go_loopw [9, 10] (fun fv kv wr => ∃ k : Nat, k ≤ n ∧ fv = .bool (my && allTo nodes M S P k) ∧ kv = .int .i64 k ∧ Below w.heap.size w wr ∧ DmB wr w.heap.size d a ∧ Boxed wr b ⟨cn, owners, drift, reading, margin, bound, rejoin, quota, parts, windows, ports, links⟩ ⟨oA, oC, pA, pC, wA, wC, qA, qC, lA, lC⟩ ∧ ConfAt wr ⟨cn, owners, drift, reading, margin, bound, rejoin, quota, parts, windows, ports, links⟩ ⟨oA, oC, pA, pC, wA, wC, qA, qC, lA, lC⟩ ∧ LdR wr d n A1 A2 A3 M S P) (fun _ kv _ => n - (intOf kv).toNat)
  case atStart => exact ⟨0, Nat.zero_le _, by rw [allTo_zero, Bool.and_true], rfl, HB6.out, HX6.out, HY6.out, HCf6.out, HL6.out⟩
  case round =>
    clear hwo HB6 HX6 HCf6 HY6 HL6
    obtain ⟨k, hk, rfl, rfl, hb, hX, hY, hC, hL⟩ := hrel
    by_cases hlt : k < n
    · obtain ⟨mb, mo, rfl, mlt, m1⟩ := hL.m.at (k := k) (by rw [hL.ml]; exact hlt)
      obtain ⟨sb, so, rfl, slt, s1⟩ := hL.s.at (k := k) (by rw [hL.sl]; exact hlt)
      obtain ⟨pb, po, rfl, plt, p1⟩ := hL.p.at (k := k) (by rw [hL.pl]; exact hlt)
      have n1 := hX.c0
      rw [← HNo.out] at n1
      have HNx := hide (show (my && allTo nodes M S P (k + 1)) = ((my && allTo nodes M S P k) && (decide (M.getD k 0 ≤ 256) && (decide (S.getD k 0 ≤ nodes) && decide (P.getD k 0 ≤ 64)))) by rw [allTo_next, ← Bool.and_assoc])
      have HKL := hide (show k + 1 ≤ n from hlt)
      have hd : Below w.heap.size w wr.drew := hb.drew
      have hdd : Below wr.heap.size wr wr.drew := (Below.refl _ _).drew
      have HB9 := hide hd
      have HX9 := hide (hX.below hdd hX.lt)
      have HY9 := hide (hY.below hdd (Nat.le_refl _))
      have HC9 := hide (hC.of_below hdd (Nat.le_refl _))
      have HL9 := hide (hL.of_below hdd (Nat.le_refl _))
      generalize (my && allTo nodes M S P k) = f at HNx ⊢
      generalize M.getD k 0 = mk at m1 HNx
      generalize S.getD k 0 = sk at s1 HNx
      generalize P.getD k 0 = pk at p1 HNx
      have HS0 : Hid (wr.drew.cell? ⟨mb, mo + k, none⟩ = some (.int .i64 mk) ∧ wr.drew.cell? ⟨sb, so + k, none⟩ = some (.int .i64 sk) ∧ wr.drew.cell? ⟨pb, po + k, none⟩ = some (.int .i64 pk) ∧ wr.drew.cell? ⟨w.heap.size, 0, none⟩ = some (.int .i64 nodes)) := ⟨m1, s1, p1, n1⟩
      clear hb hX hY hC hL hd hdd m1 s1 p1 n1 mlt slt plt
      cases f with
      | false =>
        go_wp2_with fail
        refine wp_region_held_drew (S := fun w' => w'.cell? ⟨mb, mo + k, none⟩ = some (.int .i64 mk) ∧ w'.cell? ⟨sb, so + k, none⟩ = some (.int .i64 sk) ∧ w'.cell? ⟨pb, po + k, none⟩ = some (.int .i64 pk) ∧ w'.cell? ⟨w.heap.size, 0, none⟩ = some (.int .i64 nodes)) (by kernel_rfl) (HS0.out) (fun hHeld => ?_)
        refine tkW 39 (i := 0) (v := ?v1_0) rfl rfl (by kernel_rfl) (fun _ _ _ h => h) ?y1_0 (by assumption) ?r1_0
        case y1_0 => (intro W hSW; (try dsimp only at hSW); go_simp; (try with_reducible rfl))
        (try simp only [Act.put, sA, sZ, sS])
        refine tkW 40 (i := 1) (v := ?v1_1) rfl rfl (by kernel_rfl) (fun _ _ _ h => h) ?y1_1 (by assumption) ?r1_1
        case y1_1 => (intro W hSW; (try dsimp only at hSW); go_simp; (try with_reducible rfl))
        (try simp only [Act.put, sA, sZ, sS])
        refine tkU 41 (i := 2) rfl rfl (by kernel_rfl) (fun _ _ _ h => h) (by assumption) ?_
        (try simp only [Act.put, sA, sZ, sS])
        refine tkU 42 (i := 3) rfl rfl (by kernel_rfl) (fun _ _ _ h => h) (by assumption) ?_
        (try simp only [Act.put, sA, sZ, sS])
        refine tkU 43 (i := 4) rfl rfl (by kernel_rfl) (fun _ _ _ h => h) (by assumption) ?_
        (try simp only [Act.put, sA, sZ, sS])
        refine tkU 44 (i := 5) rfl rfl (by kernel_rfl) (fun _ _ _ h => h) (by assumption) ?_
        (try simp only [Act.put, sA, sZ, sS])
        refine tkU 45 (i := 6) rfl rfl (by kernel_rfl) (fun _ _ _ h => h) (by assumption) ?_
        (try simp only [Act.put, sA, sZ, sS])
        refine tkW 46 (i := 7) (v := ?v1_7) rfl rfl (by kernel_rfl) (fun _ _ _ h => h) ?y1_7 (by assumption) ?r1_7
        case y1_7 => (intro W hSW; (try dsimp only at hSW); go_simp; (try with_reducible rfl))
        (try simp only [Act.put, sA, sZ, sS])
        refine tkW 47 (i := 8) (v := ?v1_8) rfl rfl (by kernel_rfl) (fun _ _ _ h => h) ?y1_8 (by assumption) ?r1_8
        case y1_8 => (intro W hSW; (try dsimp only at hSW); go_simp; (try with_reducible rfl))
        (try simp only [Act.put, sA, sZ, sS])
        refine tkU 48 (i := 9) rfl rfl (by kernel_rfl) (fun _ _ _ h => h) (by assumption) ?_
        (try simp only [Act.put, sA, sZ, sS])
        refine tkU 49 (i := 10) rfl rfl (by kernel_rfl) (fun _ _ _ h => h) (by assumption) ?_
        (try simp only [Act.put, sA, sZ, sS])
        refine tkU 50 (i := 11) rfl rfl (by kernel_rfl) (fun _ _ _ h => h) (by assumption) ?_
        (try simp only [Act.put, sA, sZ, sS])
        refine tkU 51 (i := 12) rfl rfl (by kernel_rfl) (fun _ _ _ h => h) (by assumption) ?_
        (try simp only [Act.put, sA, sZ, sS])
        refine tkU 52 (i := 13) rfl rfl (by kernel_rfl) (fun _ _ _ h => h) (by assumption) ?_
        (try simp only [Act.put, sA, sZ, sS])
        refine tkU 53 (i := 14) rfl rfl (by kernel_rfl) (fun _ _ _ h => h) (by assumption) ?_
        (try simp only [Act.put, sA, sZ, sS])
        refine tkU 54 (i := 15) rfl rfl (by kernel_rfl) (fun _ _ _ h => h) (by assumption) ?_
        (try simp only [Act.put, sA, sZ, sS])
        refine tkW 55 (i := 16) (v := ?v1_16) rfl rfl (by kernel_rfl) (fun _ _ _ h => h) ?y1_16 (by assumption) ?r1_16
        case y1_16 => (intro W hSW; (try dsimp only at hSW); go_simp; (try with_reducible rfl))
        (try simp only [Act.put, sA, sZ, sS])
        refine tkW 56 (i := 17) (v := ?v1_17) rfl rfl (by kernel_rfl) (fun _ _ _ h => h) ?y1_17 (by assumption) ?r1_17
        case y1_17 => (intro W hSW; (try dsimp only at hSW); go_simp; (try with_reducible rfl))
        (try simp only [Act.put, sA, sZ, sS])
        refine tkU 57 (i := 18) rfl rfl (by kernel_rfl) (fun _ _ _ h => h) (by assumption) ?_
        (try simp only [Act.put, sA, sZ, sS])
        refine tkU 58 (i := 19) rfl rfl (by kernel_rfl) (fun _ _ _ h => h) (by assumption) ?_
        (try simp only [Act.put, sA, sZ, sS])
        refine tkU 59 (i := 20) rfl rfl (by kernel_rfl) (fun _ _ _ h => h) (by assumption) ?_
        (try simp only [Act.put, sA, sZ, sS])
        refine tkU 60 (i := 21) rfl rfl (by kernel_rfl) (fun _ _ _ h => h) (by assumption) ?_
        (try simp only [Act.put, sA, sZ, sS])
        refine tkU 61 (i := 22) rfl rfl (by kernel_rfl) (fun _ _ _ h => h) (by assumption) ?_
        (try simp only [Act.put, sA, sZ, sS])
        refine tkW 62 (i := 23) (v := ?v1_23) rfl rfl (by kernel_rfl) (fun _ _ _ h => h) ?y1_23 (by assumption) ?r1_23
        case y1_23 => (intro W hSW; (try dsimp only at hSW); go_simp; (try with_reducible rfl))
        (try simp only [Act.put, sA, sZ, sS])
        refine tkW 9 (i := 24) (v := ?v1_24) rfl rfl (by kernel_rfl) (fun _ _ _ h => h) ?y1_24 (by assumption) ?r1_24
        case y1_24 => (intro W hSW; (try dsimp only at hSW); go_simp; (try with_reducible rfl))
        (try simp only [Act.put, sA, sZ, sS])
        refine wpAnyH_done (by kernel_rfl) ?_ _
        clear hHeld HS0
        generalize hwd : wr.drew = w9 at HB9 HX9 HY9 HL9 HC9 ⊢
        clear hwd
        go_wp2_with fail
        go_roundw
        case rel => exact ⟨k + 1, HKL.out, by rw [HNx.out]; rfl, by go_num, HB9.out, HX9.out, HY9.out, HC9.out, HL9.out⟩
        case measure => have := HKL.out; simp [intOf]; omega
      | true =>
        by_cases h1 : mk ≤ 256
        · have h1d : decide (mk ≤ 256) = true := decide_eq_true h1
          rw [h1d] at HNx
          by_cases h2 : sk ≤ nodes
          · have h2d : decide (sk ≤ nodes) = true := decide_eq_true h2
            rw [h2d] at HNx
            clear h1 h2
            go_wp2_with fail
            refine wp_region_held_drew (S := fun w' => w'.cell? ⟨mb, mo + k, none⟩ = some (.int .i64 mk) ∧ w'.cell? ⟨sb, so + k, none⟩ = some (.int .i64 sk) ∧ w'.cell? ⟨pb, po + k, none⟩ = some (.int .i64 pk) ∧ w'.cell? ⟨w.heap.size, 0, none⟩ = some (.int .i64 nodes)) (by kernel_rfl) (HS0.out) (fun hHeld => ?_)
            refine tkW 39 (i := 0) (v := ?v2_0) rfl rfl (by kernel_rfl) (fun _ _ _ h => h) ?y2_0 (by assumption) ?r2_0
            case y2_0 => (intro W hSW; (try dsimp only at hSW); go_simp; (try with_reducible rfl))
            (try simp only [Act.put, sA, sZ, sS])
            refine tkW 40 (i := 1) (v := ?v2_1) rfl rfl (by kernel_rfl) (fun _ _ _ h => h) ?y2_1 (by assumption) ?r2_1
            case y2_1 => (intro W hSW; (try dsimp only at hSW); go_simp; (try with_reducible rfl))
            (try simp only [Act.put, sA, sZ, sS])
            refine tkW 41 (i := 2) (v := ?v2_2) rfl rfl (by kernel_rfl) (fun _ _ _ h => h) ?y2_2 (by assumption) ?r2_2
            case y2_2 => (intro W hSW; (try dsimp only at hSW); go_simp; (try with_reducible rfl))
            (try simp only [Act.put, sA, sZ, sS])
            refine tkW 42 (i := 3) (v := ?v2_3) rfl rfl (by kernel_rfl) (fun _ _ _ h => h) ?y2_3 (by assumption) ?r2_3
            case y2_3 => (intro W hSW; (try dsimp only at hSW); go_simp; (try with_reducible rfl))
            (try simp only [Act.put, sA, sZ, sS])
            refine tkW 43 (i := 4) (v := ?v2_4) rfl rfl (by kernel_rfl) (fun _ _ _ h => h) ?y2_4 (by assumption) ?r2_4
            case y2_4 => (intro W hSW; (try dsimp only at hSW); go_simp; (try with_reducible rfl))
            (try simp only [Act.put, sA, sZ, sS])
            refine tkW 44 (i := 5) (v := ?v2_5) rfl rfl (by kernel_rfl) (fun _ _ _ h => h) ?y2_5 (by assumption) ?r2_5
            case y2_5 => (intro W hSW; (try dsimp only at hSW); go_simp; (try with_reducible rfl))
            (try simp only [Act.put, sA, sZ, sS])
            refine tkW 45 (i := 6) (v := ?v2_6) rfl rfl (by kernel_rfl) (fun _ _ _ h => h) ?y2_6 (by assumption) ?r2_6
            case y2_6 => (intro W hSW; (try dsimp only at hSW); go_simp; (try with_reducible rfl))
            (try simp only [Act.put, sA, sZ, sS])
            refine tkW 46 (i := 7) (v := ?v2_7) rfl rfl (by kernel_rfl) (fun _ _ _ h => h) ?y2_7 (by assumption) ?r2_7
            case y2_7 => (intro W hSW; (try dsimp only at hSW); go_simp; (try with_reducible rfl))
            (try simp only [Act.put, sA, sZ, sS])
            refine tkW 47 (i := 8) (v := ?v2_8) rfl rfl (by kernel_rfl) (fun _ _ _ h => h) ?y2_8 (by assumption) ?r2_8
            case y2_8 => (intro W hSW; (try dsimp only at hSW); go_simp; (try with_reducible rfl))
            (try simp only [Act.put, sA, sZ, sS])
            refine tkW 48 (i := 9) (v := ?v2_9) rfl rfl (by kernel_rfl) (fun _ _ _ h => h) ?y2_9 (by assumption) ?r2_9
            case y2_9 => (intro W hSW; (try dsimp only at hSW); go_simp; (try with_reducible rfl))
            (try simp only [Act.put, sA, sZ, sS])
            refine tkW 49 (i := 10) (v := ?v2_10) rfl rfl (by kernel_rfl) (fun _ _ _ h => h) ?y2_10 (by assumption) ?r2_10
            case y2_10 => (intro W hSW; (try dsimp only at hSW); go_simp; (try with_reducible rfl))
            (try simp only [Act.put, sA, sZ, sS])
            refine tkW 50 (i := 11) (v := ?v2_11) rfl rfl (by kernel_rfl) (fun _ _ _ h => h) ?y2_11 (by assumption) ?r2_11
            case y2_11 => (intro W hSW; (try dsimp only at hSW); go_simp; (try with_reducible rfl))
            (try simp only [Act.put, sA, sZ, sS])
            refine tkW 51 (i := 12) (v := ?v2_12) rfl rfl (by kernel_rfl) (fun _ _ _ h => h) ?y2_12 (by assumption) ?r2_12
            case y2_12 => (intro W hSW; (try dsimp only at hSW); go_simp; (try with_reducible rfl))
            (try simp only [Act.put, sA, sZ, sS])
            refine tkW 52 (i := 13) (v := ?v2_13) rfl rfl (by kernel_rfl) (fun _ _ _ h => h) ?y2_13 (by assumption) ?r2_13
            case y2_13 => (intro W hSW; (try dsimp only at hSW); go_simp; (try with_reducible rfl))
            (try simp only [Act.put, sA, sZ, sS])
            refine tkW 53 (i := 14) (v := ?v2_14) rfl rfl (by kernel_rfl) (fun _ _ _ h => h) ?y2_14 (by assumption) ?r2_14
            case y2_14 => (intro W hSW; (try dsimp only at hSW); go_simp; (try with_reducible rfl))
            (try simp only [Act.put, sA, sZ, sS])
            refine tkW 54 (i := 15) (v := ?v2_15) rfl rfl (by kernel_rfl) (fun _ _ _ h => h) ?y2_15 (by assumption) ?r2_15
            case y2_15 => (intro W hSW; (try dsimp only at hSW); go_simp; (try with_reducible rfl))
            (try simp only [Act.put, sA, sZ, sS])
            refine tkW 55 (i := 16) (v := ?v2_16) rfl rfl (by kernel_rfl) (fun _ _ _ h => h) ?y2_16 (by assumption) ?r2_16
            case y2_16 => (intro W hSW; (try dsimp only at hSW); go_simp; (try with_reducible rfl))
            (try simp only [Act.put, sA, sZ, sS])
            refine tkW 56 (i := 17) (v := ?v2_17) rfl rfl (by kernel_rfl) (fun _ _ _ h => h) ?y2_17 (by assumption) ?r2_17
            case y2_17 => (intro W hSW; (try dsimp only at hSW); go_simp; (try with_reducible rfl))
            (try simp only [Act.put, sA, sZ, sS])
            refine tkW 57 (i := 18) (v := ?v2_18) rfl rfl (by kernel_rfl) (fun _ _ _ h => h) ?y2_18 (by assumption) ?r2_18
            case y2_18 => (intro W hSW; (try dsimp only at hSW); go_simp; (try with_reducible rfl))
            (try simp only [Act.put, sA, sZ, sS])
            refine tkW 58 (i := 19) (v := ?v2_19) rfl rfl (by kernel_rfl) (fun _ _ _ h => h) ?y2_19 (by assumption) ?r2_19
            case y2_19 => (intro W hSW; (try dsimp only at hSW); go_simp; (try with_reducible rfl))
            (try simp only [Act.put, sA, sZ, sS])
            refine tkW 59 (i := 20) (v := ?v2_20) rfl rfl (by kernel_rfl) (fun _ _ _ h => h) ?y2_20 (by assumption) ?r2_20
            case y2_20 => (intro W hSW; (try dsimp only at hSW); go_simp; (try with_reducible rfl))
            (try simp only [Act.put, sA, sZ, sS])
            refine tkW 60 (i := 21) (v := ?v2_21) rfl rfl (by kernel_rfl) (fun _ _ _ h => h) ?y2_21 (by assumption) ?r2_21
            case y2_21 => (intro W hSW; (try dsimp only at hSW); go_simp; (try with_reducible rfl))
            (try simp only [Act.put, sA, sZ, sS])
            refine tkW 61 (i := 22) (v := ?v2_22) rfl rfl (by kernel_rfl) (fun _ _ _ h => h) ?y2_22 (by assumption) ?r2_22
            case y2_22 => (intro W hSW; (try dsimp only at hSW); go_simp; (try with_reducible rfl))
            (try simp only [Act.put, sA, sZ, sS])
            refine tkW 62 (i := 23) (v := ?v2_23) rfl rfl (by kernel_rfl) (fun _ _ _ h => h) ?y2_23 (by assumption) ?r2_23
            case y2_23 => (intro W hSW; (try dsimp only at hSW); go_simp; (try with_reducible rfl))
            (try simp only [Act.put, sA, sZ, sS])
            refine tkW 9 (i := 24) (v := ?v2_24) rfl rfl (by kernel_rfl) (fun _ _ _ h => h) ?y2_24 (by assumption) ?r2_24
            case y2_24 => (intro W hSW; (try dsimp only at hSW); go_simp; (try with_reducible rfl))
            (try simp only [Act.put, sA, sZ, sS])
            refine wpAnyH_done (by kernel_rfl) ?_ _
            clear hHeld HS0
            generalize hwd : wr.drew = w9 at HB9 HX9 HY9 HL9 HC9 ⊢
            clear hwd
            go_wp2_with fail
            go_roundw
            case rel => exact ⟨k + 1, HKL.out, by rw [HNx.out]; rfl, by go_num, HB9.out, HX9.out, HY9.out, HC9.out, HL9.out⟩
            case measure => have := HKL.out; simp [intOf]; omega
          · have h2d : decide (sk ≤ nodes) = false := decide_eq_false h2
            rw [h2d] at HNx
            clear h1 h2
            go_wp2_with fail
            refine wp_region_held_drew (S := fun w' => w'.cell? ⟨mb, mo + k, none⟩ = some (.int .i64 mk) ∧ w'.cell? ⟨sb, so + k, none⟩ = some (.int .i64 sk) ∧ w'.cell? ⟨pb, po + k, none⟩ = some (.int .i64 pk) ∧ w'.cell? ⟨w.heap.size, 0, none⟩ = some (.int .i64 nodes)) (by kernel_rfl) (HS0.out) (fun hHeld => ?_)
            refine tkW 39 (i := 0) (v := ?v3_0) rfl rfl (by kernel_rfl) (fun _ _ _ h => h) ?y3_0 (by assumption) ?r3_0
            case y3_0 => (intro W hSW; (try dsimp only at hSW); go_simp; (try with_reducible rfl))
            (try simp only [Act.put, sA, sZ, sS])
            refine tkW 40 (i := 1) (v := ?v3_1) rfl rfl (by kernel_rfl) (fun _ _ _ h => h) ?y3_1 (by assumption) ?r3_1
            case y3_1 => (intro W hSW; (try dsimp only at hSW); go_simp; (try with_reducible rfl))
            (try simp only [Act.put, sA, sZ, sS])
            refine tkW 41 (i := 2) (v := ?v3_2) rfl rfl (by kernel_rfl) (fun _ _ _ h => h) ?y3_2 (by assumption) ?r3_2
            case y3_2 => (intro W hSW; (try dsimp only at hSW); go_simp; (try with_reducible rfl))
            (try simp only [Act.put, sA, sZ, sS])
            refine tkW 42 (i := 3) (v := ?v3_3) rfl rfl (by kernel_rfl) (fun _ _ _ h => h) ?y3_3 (by assumption) ?r3_3
            case y3_3 => (intro W hSW; (try dsimp only at hSW); go_simp; (try with_reducible rfl))
            (try simp only [Act.put, sA, sZ, sS])
            refine tkW 43 (i := 4) (v := ?v3_4) rfl rfl (by kernel_rfl) (fun _ _ _ h => h) ?y3_4 (by assumption) ?r3_4
            case y3_4 => (intro W hSW; (try dsimp only at hSW); go_simp; (try with_reducible rfl))
            (try simp only [Act.put, sA, sZ, sS])
            refine tkW 44 (i := 5) (v := ?v3_5) rfl rfl (by kernel_rfl) (fun _ _ _ h => h) ?y3_5 (by assumption) ?r3_5
            case y3_5 => (intro W hSW; (try dsimp only at hSW); go_simp; (try with_reducible rfl))
            (try simp only [Act.put, sA, sZ, sS])
            refine tkW 45 (i := 6) (v := ?v3_6) rfl rfl (by kernel_rfl) (fun _ _ _ h => h) ?y3_6 (by assumption) ?r3_6
            case y3_6 => (intro W hSW; (try dsimp only at hSW); go_simp; (try with_reducible rfl))
            (try simp only [Act.put, sA, sZ, sS])
            refine tkW 46 (i := 7) (v := ?v3_7) rfl rfl (by kernel_rfl) (fun _ _ _ h => h) ?y3_7 (by assumption) ?r3_7
            case y3_7 => (intro W hSW; (try dsimp only at hSW); go_simp; (try with_reducible rfl))
            (try simp only [Act.put, sA, sZ, sS])
            refine tkW 47 (i := 8) (v := ?v3_8) rfl rfl (by kernel_rfl) (fun _ _ _ h => h) ?y3_8 (by assumption) ?r3_8
            case y3_8 => (intro W hSW; (try dsimp only at hSW); go_simp; (try with_reducible rfl))
            (try simp only [Act.put, sA, sZ, sS])
            refine tkW 48 (i := 9) (v := ?v3_9) rfl rfl (by kernel_rfl) (fun _ _ _ h => h) ?y3_9 (by assumption) ?r3_9
            case y3_9 => (intro W hSW; (try dsimp only at hSW); go_simp; (try with_reducible rfl))
            (try simp only [Act.put, sA, sZ, sS])
            refine tkW 49 (i := 10) (v := ?v3_10) rfl rfl (by kernel_rfl) (fun _ _ _ h => h) ?y3_10 (by assumption) ?r3_10
            case y3_10 => (intro W hSW; (try dsimp only at hSW); go_simp; (try with_reducible rfl))
            (try simp only [Act.put, sA, sZ, sS])
            refine tkW 50 (i := 11) (v := ?v3_11) rfl rfl (by kernel_rfl) (fun _ _ _ h => h) ?y3_11 (by assumption) ?r3_11
            case y3_11 => (intro W hSW; (try dsimp only at hSW); go_simp; (try with_reducible rfl))
            (try simp only [Act.put, sA, sZ, sS])
            refine tkW 51 (i := 12) (v := ?v3_12) rfl rfl (by kernel_rfl) (fun _ _ _ h => h) ?y3_12 (by assumption) ?r3_12
            case y3_12 => (intro W hSW; (try dsimp only at hSW); go_simp; (try with_reducible rfl))
            (try simp only [Act.put, sA, sZ, sS])
            refine tkW 52 (i := 13) (v := ?v3_13) rfl rfl (by kernel_rfl) (fun _ _ _ h => h) ?y3_13 (by assumption) ?r3_13
            case y3_13 => (intro W hSW; (try dsimp only at hSW); go_simp; (try with_reducible rfl))
            (try simp only [Act.put, sA, sZ, sS])
            refine tkW 53 (i := 14) (v := ?v3_14) rfl rfl (by kernel_rfl) (fun _ _ _ h => h) ?y3_14 (by assumption) ?r3_14
            case y3_14 => (intro W hSW; (try dsimp only at hSW); go_simp; (try with_reducible rfl))
            (try simp only [Act.put, sA, sZ, sS])
            refine tkW 54 (i := 15) (v := ?v3_15) rfl rfl (by kernel_rfl) (fun _ _ _ h => h) ?y3_15 (by assumption) ?r3_15
            case y3_15 => (intro W hSW; (try dsimp only at hSW); go_simp; (try with_reducible rfl))
            (try simp only [Act.put, sA, sZ, sS])
            refine tkW 55 (i := 16) (v := ?v3_16) rfl rfl (by kernel_rfl) (fun _ _ _ h => h) ?y3_16 (by assumption) ?r3_16
            case y3_16 => (intro W hSW; (try dsimp only at hSW); go_simp; (try with_reducible rfl))
            (try simp only [Act.put, sA, sZ, sS])
            refine tkW 56 (i := 17) (v := ?v3_17) rfl rfl (by kernel_rfl) (fun _ _ _ h => h) ?y3_17 (by assumption) ?r3_17
            case y3_17 => (intro W hSW; (try dsimp only at hSW); go_simp; (try with_reducible rfl))
            (try simp only [Act.put, sA, sZ, sS])
            refine tkU 57 (i := 18) rfl rfl (by kernel_rfl) (fun _ _ _ h => h) (by assumption) ?_
            (try simp only [Act.put, sA, sZ, sS])
            refine tkU 58 (i := 19) rfl rfl (by kernel_rfl) (fun _ _ _ h => h) (by assumption) ?_
            (try simp only [Act.put, sA, sZ, sS])
            refine tkU 59 (i := 20) rfl rfl (by kernel_rfl) (fun _ _ _ h => h) (by assumption) ?_
            (try simp only [Act.put, sA, sZ, sS])
            refine tkU 60 (i := 21) rfl rfl (by kernel_rfl) (fun _ _ _ h => h) (by assumption) ?_
            (try simp only [Act.put, sA, sZ, sS])
            refine tkU 61 (i := 22) rfl rfl (by kernel_rfl) (fun _ _ _ h => h) (by assumption) ?_
            (try simp only [Act.put, sA, sZ, sS])
            refine tkW 62 (i := 23) (v := ?v3_23) rfl rfl (by kernel_rfl) (fun _ _ _ h => h) ?y3_23 (by assumption) ?r3_23
            case y3_23 => (intro W hSW; (try dsimp only at hSW); go_simp; (try with_reducible rfl))
            (try simp only [Act.put, sA, sZ, sS])
            refine tkW 9 (i := 24) (v := ?v3_24) rfl rfl (by kernel_rfl) (fun _ _ _ h => h) ?y3_24 (by assumption) ?r3_24
            case y3_24 => (intro W hSW; (try dsimp only at hSW); go_simp; (try with_reducible rfl))
            (try simp only [Act.put, sA, sZ, sS])
            refine wpAnyH_done (by kernel_rfl) ?_ _
            clear hHeld HS0
            generalize hwd : wr.drew = w9 at HB9 HX9 HY9 HL9 HC9 ⊢
            clear hwd
            go_wp2_with fail
            go_roundw
            case rel => exact ⟨k + 1, HKL.out, by rw [HNx.out]; rfl, by go_num, HB9.out, HX9.out, HY9.out, HC9.out, HL9.out⟩
            case measure => have := HKL.out; simp [intOf]; omega
        · have h1d : decide (mk ≤ 256) = false := decide_eq_false h1
          rw [h1d] at HNx
          clear h1
          go_wp2_with fail
          refine wp_region_held_drew (S := fun w' => w'.cell? ⟨mb, mo + k, none⟩ = some (.int .i64 mk) ∧ w'.cell? ⟨sb, so + k, none⟩ = some (.int .i64 sk) ∧ w'.cell? ⟨pb, po + k, none⟩ = some (.int .i64 pk) ∧ w'.cell? ⟨w.heap.size, 0, none⟩ = some (.int .i64 nodes)) (by kernel_rfl) (HS0.out) (fun hHeld => ?_)
          refine tkW 39 (i := 0) (v := ?v4_0) rfl rfl (by kernel_rfl) (fun _ _ _ h => h) ?y4_0 (by assumption) ?r4_0
          case y4_0 => (intro W hSW; (try dsimp only at hSW); go_simp; (try with_reducible rfl))
          (try simp only [Act.put, sA, sZ, sS])
          refine tkW 40 (i := 1) (v := ?v4_1) rfl rfl (by kernel_rfl) (fun _ _ _ h => h) ?y4_1 (by assumption) ?r4_1
          case y4_1 => (intro W hSW; (try dsimp only at hSW); go_simp; (try with_reducible rfl))
          (try simp only [Act.put, sA, sZ, sS])
          refine tkW 41 (i := 2) (v := ?v4_2) rfl rfl (by kernel_rfl) (fun _ _ _ h => h) ?y4_2 (by assumption) ?r4_2
          case y4_2 => (intro W hSW; (try dsimp only at hSW); go_simp; (try with_reducible rfl))
          (try simp only [Act.put, sA, sZ, sS])
          refine tkW 42 (i := 3) (v := ?v4_3) rfl rfl (by kernel_rfl) (fun _ _ _ h => h) ?y4_3 (by assumption) ?r4_3
          case y4_3 => (intro W hSW; (try dsimp only at hSW); go_simp; (try with_reducible rfl))
          (try simp only [Act.put, sA, sZ, sS])
          refine tkW 43 (i := 4) (v := ?v4_4) rfl rfl (by kernel_rfl) (fun _ _ _ h => h) ?y4_4 (by assumption) ?r4_4
          case y4_4 => (intro W hSW; (try dsimp only at hSW); go_simp; (try with_reducible rfl))
          (try simp only [Act.put, sA, sZ, sS])
          refine tkW 44 (i := 5) (v := ?v4_5) rfl rfl (by kernel_rfl) (fun _ _ _ h => h) ?y4_5 (by assumption) ?r4_5
          case y4_5 => (intro W hSW; (try dsimp only at hSW); go_simp; (try with_reducible rfl))
          (try simp only [Act.put, sA, sZ, sS])
          refine tkW 45 (i := 6) (v := ?v4_6) rfl rfl (by kernel_rfl) (fun _ _ _ h => h) ?y4_6 (by assumption) ?r4_6
          case y4_6 => (intro W hSW; (try dsimp only at hSW); go_simp; (try with_reducible rfl))
          (try simp only [Act.put, sA, sZ, sS])
          refine tkW 46 (i := 7) (v := ?v4_7) rfl rfl (by kernel_rfl) (fun _ _ _ h => h) ?y4_7 (by assumption) ?r4_7
          case y4_7 => (intro W hSW; (try dsimp only at hSW); go_simp; (try with_reducible rfl))
          (try simp only [Act.put, sA, sZ, sS])
          refine tkW 47 (i := 8) (v := ?v4_8) rfl rfl (by kernel_rfl) (fun _ _ _ h => h) ?y4_8 (by assumption) ?r4_8
          case y4_8 => (intro W hSW; (try dsimp only at hSW); go_simp; (try with_reducible rfl))
          (try simp only [Act.put, sA, sZ, sS])
          refine tkU 48 (i := 9) rfl rfl (by kernel_rfl) (fun _ _ _ h => h) (by assumption) ?_
          (try simp only [Act.put, sA, sZ, sS])
          refine tkU 49 (i := 10) rfl rfl (by kernel_rfl) (fun _ _ _ h => h) (by assumption) ?_
          (try simp only [Act.put, sA, sZ, sS])
          refine tkU 50 (i := 11) rfl rfl (by kernel_rfl) (fun _ _ _ h => h) (by assumption) ?_
          (try simp only [Act.put, sA, sZ, sS])
          refine tkU 51 (i := 12) rfl rfl (by kernel_rfl) (fun _ _ _ h => h) (by assumption) ?_
          (try simp only [Act.put, sA, sZ, sS])
          refine tkU 52 (i := 13) rfl rfl (by kernel_rfl) (fun _ _ _ h => h) (by assumption) ?_
          (try simp only [Act.put, sA, sZ, sS])
          refine tkU 53 (i := 14) rfl rfl (by kernel_rfl) (fun _ _ _ h => h) (by assumption) ?_
          (try simp only [Act.put, sA, sZ, sS])
          refine tkU 54 (i := 15) rfl rfl (by kernel_rfl) (fun _ _ _ h => h) (by assumption) ?_
          (try simp only [Act.put, sA, sZ, sS])
          refine tkW 55 (i := 16) (v := ?v4_16) rfl rfl (by kernel_rfl) (fun _ _ _ h => h) ?y4_16 (by assumption) ?r4_16
          case y4_16 => (intro W hSW; (try dsimp only at hSW); go_simp; (try with_reducible rfl))
          (try simp only [Act.put, sA, sZ, sS])
          refine tkW 56 (i := 17) (v := ?v4_17) rfl rfl (by kernel_rfl) (fun _ _ _ h => h) ?y4_17 (by assumption) ?r4_17
          case y4_17 => (intro W hSW; (try dsimp only at hSW); go_simp; (try with_reducible rfl))
          (try simp only [Act.put, sA, sZ, sS])
          refine tkU 57 (i := 18) rfl rfl (by kernel_rfl) (fun _ _ _ h => h) (by assumption) ?_
          (try simp only [Act.put, sA, sZ, sS])
          refine tkU 58 (i := 19) rfl rfl (by kernel_rfl) (fun _ _ _ h => h) (by assumption) ?_
          (try simp only [Act.put, sA, sZ, sS])
          refine tkU 59 (i := 20) rfl rfl (by kernel_rfl) (fun _ _ _ h => h) (by assumption) ?_
          (try simp only [Act.put, sA, sZ, sS])
          refine tkU 60 (i := 21) rfl rfl (by kernel_rfl) (fun _ _ _ h => h) (by assumption) ?_
          (try simp only [Act.put, sA, sZ, sS])
          refine tkU 61 (i := 22) rfl rfl (by kernel_rfl) (fun _ _ _ h => h) (by assumption) ?_
          (try simp only [Act.put, sA, sZ, sS])
          refine tkW 62 (i := 23) (v := ?v4_23) rfl rfl (by kernel_rfl) (fun _ _ _ h => h) ?y4_23 (by assumption) ?r4_23
          case y4_23 => (intro W hSW; (try dsimp only at hSW); go_simp; (try with_reducible rfl))
          (try simp only [Act.put, sA, sZ, sS])
          refine tkW 9 (i := 24) (v := ?v4_24) rfl rfl (by kernel_rfl) (fun _ _ _ h => h) ?y4_24 (by assumption) ?r4_24
          case y4_24 => (intro W hSW; (try dsimp only at hSW); go_simp; (try with_reducible rfl))
          (try simp only [Act.put, sA, sZ, sS])
          refine wpAnyH_done (by kernel_rfl) ?_ _
          clear hHeld HS0
          generalize hwd : wr.drew = w9 at HB9 HX9 HY9 HL9 HC9 ⊢
          clear hwd
          go_wp2_with fail
          go_roundw
          case rel => exact ⟨k + 1, HKL.out, by rw [HNx.out]; rfl, by go_num, HB9.out, HX9.out, HY9.out, HC9.out, HL9.out⟩
          case measure => have := HKL.out; simp [intOf]; omega
    · obtain rfl : k = n := by omega
      rw [HTie.out]
      clear hlt hk
      have HBn := hide hb
      have HCn := hide hC
      have HYn := hide hY
      clear hb hC hY hX hL
      by_cases he : er = 0
      · subst he
        have hc0 := HPc.out rfl
        obtain ⟨yl, e0, e1, e2, e3, e4, e5, e6, e7, e8, e9, e10, e11⟩ := HYn.out
        dsimp only at e0 e1 e2 e3 e4 e5 e6 e7 e8 e9 e10 e11
        have hdt : decide ((0 : Int) = 0) = true := rfl
        go_wp2_with fail
        refine (HCk.out ⟨oA, oC, pA, pC, wA, wC, qA, qC, lA, lC⟩ _ HBn.out HCn.out).mono ?_
        rintro e w7 ⟨rfl, hb7⟩
        rw [hc0]
        have HB7 := hide (HBn.out.trans (hb7.mono HBn.out.size))
        clear hb7 yl e0 e1 e2 e3 e4 e5 e6 e7 e8 e9 e10 e11
        go_wp2_with fail
        go_ret
        exact ⟨rfl, HB7.out⟩
      · have hdf : decide (er = 0) = false := decide_eq_false he
        rw [hdf]
        go_wp2_with fail
        go_ret
        exact ⟨rfl, HBn.out⟩
end Go.Proofs.YtdennekkbdlhdaaDoor
