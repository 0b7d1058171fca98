/-
  What can be asked for can be asked for without its last streams, and with less of a task.
-/
import Derived.Test.YtdennekkbdlhdaaDoorChkP
import Derived.Test.YtdennekkbdlhdaaDoorPnW
import Derived.Test.YtdennekkbdlhdaaDoorPnK
import Derived.Test.YtdennekkbdlhdaaDoorPnAl
import Derived.StillTailTactics
namespace Go.Proofs.YtdennekkbdlhdaaDoor
open Go.RowKit Go.Shelf
attribute [local go_sem] Oper.semAt_some
set_option linter.unusedVariables false
set_option linter.unusedSimpArgs false
set_option maxRecDepth 100000

theorem rem_again {x T : Int} (h0 : 0 < T) : ∃ i : Nat, (i : Int) < T ∧ (x.tmod T + T).tmod T = (i : Nat) ∧ -T < x.tmod T ∧ x.tmod T < T := by
  have g1 : -T < x.tmod T := Int.lt_tmod_of_pos _ (by omega)
  have g2 : x.tmod T < T := Int.tmod_lt_of_pos _ (by omega)
  have g3 : 0 ≤ (x.tmod T + T).tmod T := Int.tmod_nonneg _ (by omega)
  have g4 : (x.tmod T + T).tmod T < T := Int.tmod_lt_of_pos _ (by omega)
  obtain ⟨i, hi⟩ := Int.eq_ofNat_of_zero_le g3
  exact ⟨i, by omega, hi, g1, g2⟩

theorem row7 {W : World} {b : Nat} {v0 v1 v2 v3 v4 v5 v6 : Value} {t : TypeId} {f : Nat × Nat} (h : W.heap[b]? = some (.cells #[v0, v1, v2, v3, v4, v5, v6] t f)) :
    b < W.heap.size ∧ W.cell? ⟨b, 0, none⟩ = some v0 ∧ W.cell? ⟨b, 1, none⟩ = some v1 ∧ W.cell? ⟨b, 2, none⟩ = some v2 ∧ W.cell? ⟨b, 3, none⟩ = some v3 ∧ W.cell? ⟨b, 4, none⟩ = some v4 ∧ W.cell? ⟨b, 5, none⟩ = some v5 ∧ W.cell? ⟨b, 6, none⟩ = some v6 := by
  refine ⟨(Array.getElem?_eq_some_iff.1 h).1, ?_, ?_, ?_, ?_, ?_, ?_, ?_⟩ <;> (rw [cell_of_row _ _ _ _ _ _ h]; rfl)

set_option maxHeartbeats 8000000 in
theorem plless_any (d : Dm) (a : Da) (stay which : Int) (hst : I64 stay) (hwh : I64 which) (w : World) (hg : Glo w) (h : DmAt w d a) :
    Calls Tryd.prog 4 #[d.val a, .int .i64 stay, .int .i64 which] w fun e w' => e = .returned (.bool true) ∧ Below w.heap.size w w' := by
  have HD := hide (fun W (hb : Below w.heap.size w W) => h.of_below hb (Nat.le_refl _))
  have HAl := hide alive_any
  have HGr := hide (fun W (hb : Below w.heap.size w W) => great_at d a W (h.of_below hb (Nat.le_refl _)))
  have HMk := hide (fun W (hb : Below w.heap.size w W) => make_at d a W (h.of_below hb (Nat.le_refl _)))
  have HCk := hide (fun c A W (hb : Below w.heap.size w W) (hc : ConfAt W c A) => check_any c A W (hg.below hb (Nat.le_refl _)) hc)
  have HBx := hide (dm_box w d a 25)
  have HB := hide (bal w (.cells (d.cells a) 25))
  unfold Dm.cells at HBx HB
  unfold Dm.val at HGr HMk ⊢
  obtain ⟨T, hTe⟩ : ∃ T, T = d.tasks.length := ⟨_, rfl⟩
  obtain ⟨R, hRe⟩ : ∃ R, R = d.streams.length := ⟨_, rfl⟩
  have HT := hide hTe
  have HR := hide hRe
  rw [← hTe, ← hRe] at HBx HB HGr HMk ⊢
  generalize hCe : makeF d = c at HMk
  generalize hEe : errF d = er at HMk
  have HEe := hide hEe
  clear hTe hRe h hg hCe hEe
  go_enter Tryd.func4, Tryd.ntmps4
  go_wp2_with fail
  refine (HAl.out _).mono ?_
  rintro e w1 ⟨rfl, hb1⟩
  have HB1 := hide (HB.out.trans (hb1.mono HB.out.size))
  have HX1 := hide (HBx.out.below hb1 HBx.out.lt)
  clear hb1 HB HBx HAl
  obtain ⟨dl, a0, a1, a2, a3, a4, a5, a6⟩ := HX1.out
  rw [← HT.out] at a5
  rw [← HR.out] at a6
  go_wp2_with fail
  clear dl a0 a1 a2 a3 a4 a5 a6
  refine (HGr.out _ HB1.out).mono ?_
  rintro e w2 ⟨⟨z, rfl⟩, hb2⟩
  have HB2 := hide (HB1.out.trans (hb2.mono HB1.out.size))
  have HX2 := hide (HX1.out.below hb2 HX1.out.lt)
  clear hb2 HB1 HX1 HGr
  by_cases hz : 0 < z
  · have hzd : decide (0 < z) = true := decide_eq_true hz
    go_wp2_with fail
    go_ret
    exact ⟨rfl, HB2.out⟩
  have hzd : decide (0 < z) = false := decide_eq_false hz
  obtain ⟨dl, a0, a1, a2, a3, a4, a5, a6⟩ := HX2.out
  rw [← HT.out] at a5
  rw [← HR.out] at a6
  go_wp2_with fail
  clear dl a0 a1 a2 a3 a4 a5 a6 hz hzd
  refine (HMk.out _ HB2.out).mono ?_
  rintro e w3 ⟨hb3, A, rfl, hcf⟩
  clear hcf
  have HB4 := hide (HB2.out.trans ((hb3.trans ((bal w3 (.cells (c.cells A) 34)).mono hb3.size)).mono HB2.out.size))
  have HX4 := hide ((HX2.out.below hb3 HX2.out.lt).below (bal w3 (.cells (c.cells A) 34)) (HX2.out.below hb3 HX2.out.lt).lt)
  clear hb3 HB2 HX2 HMk
  obtain ⟨oA, oC, pA, pC, wA, wC, qA, qC, lA, lC⟩ := A
  obtain ⟨cn, owners, drift, reading, margin, bound, rejoin, quota, parts, windows, ports, links⟩ := c
  unfold Conf.val
  unfold Conf.cells at HB4 HX4
  dsimp only at HB4 HX4 ⊢
  by_cases he : er = 0
  case neg =>
    have hne : (er != 0) = true := by simpa using he
    go_wp2_with fail
    go_ret
    exact ⟨rfl, HB4.out⟩
  subst he
  obtain ⟨N, hok⟩ : ∃ N, Okd d N := by
    refine okd_of ?_
    cases hm : mayD d with
    | true => rfl
    | false => have := HEe.out; unfold errF at this; rw [hm] at this; simp at this
  have hT32 := hok.tl
  have hR64 := hok.sl
  rw [← HT.out] at hT32
  rw [← HR.out] at hR64
  obtain ⟨n, hnR, hrem, hr1, hr2⟩ := rem_again (x := stay) (T := (R : Int) + 1) (by omega)
  have hnR : n ≤ R := by omega
  have hnC : n ≤ a.sC := by have := (HD.out w (Below.refl _ _)).sLen.1; rw [← HR.out] at this; omega
  have hnd : n ≤ d.streams.length := by rw [← HR.out]; exact hnR
  have HMl := hide (fun i W B c A (hb : Below w.heap.size w W) (ht : TkB W B A c (lessD d n i).tasks) => make_less (HD.out W hb) hok HEe.out i hnd HT.out ht)
  have HLl := hide (fun i => less_links HEe.out i hnd)
  have HLc := hide (fun i => show checkF (makeF (lessD d n i)) = 0 from by
    unfold makeF
    rw [if_pos (less_err HEe.out n i)]
    exact plan_checks (less_err HEe.out n i))
  have HTk := hide hok.tk
  have hN := hide hok
  clear hnd
  have HWh := hide hwh
  clear hok hst hwh
  generalize hxe : stay.tmod ((R : Int) + 1) = x at hrem hr1 hr2
  rw [← Int.add_assoc] at hrem
  have hw1 : IntKind.i64.wrap ((R : Int) + 1) = (R : Int) + 1 := by rw [IntKind.wrap_i64]; omega
  have hw2 : IntKind.i64.wrap x = x := by rw [IntKind.wrap_i64]; omega
  have hw3 : IntKind.i64.wrap (x + (R : Int)) = x + (R : Int) := by rw [IntKind.wrap_i64]; omega
  have hw4 : IntKind.i64.wrap (x + (R : Int) + 1) = x + (R : Int) + 1 := by rw [IntKind.wrap_i64]; omega
  have hw5 : IntKind.i64.wrap (n : Int) = (n : Int) := by rw [IntKind.wrap_i64]; omega
  have hne : ¬ ((R : Int) + 1 = 0) := by omega
  go_wp2_with fail
  have hb5 := HB4.out.drew
  have hx5 := HX4.out.below ((Below.refl _ _).drew) HX4.out.lt
  generalize w3.alloc (.cells #[.int .i64 cn, .slice oA owners.length oC, .int .i64 drift, .int .i64 reading, .int .i64 margin, .int .i64 bound, .int .i64 rejoin, .int .i64 quota, .slice pA parts.length pC, .slice wA windows.length wC, .slice qA ports.length qC, .slice lA links.length lC] 34) = W4 at HB4 HX4 hb5 hx5 ⊢
  have HS0 : Hid (W4.drew.cell? ⟨w.heap.size, 6, none⟩ = some (.slice a.sA R a.sC)) := by rw [hx5.c6, HR.out]; trivial
  have HB5 := hide hb5
  have HX5 := hide hx5
  clear hb5 hx5 HB4 HX4
  refine wp_region_held_drew (S := fun w' => w'.cell? ⟨w.heap.size, 6, none⟩ = some (.slice a.sA R a.sC)) (by kernel_rfl) (HS0.out) (fun hHeld => ?_)
  refine tkW 32 (i := 0) (v := ?v1_0) rfl rfl (by kernel_rfl) (fun _ _ _ h => h) ?y1_0 (by assumption) ?r1_0
  case y1_0 => (intro W hSW; (try dsimp only at hSW); go_simp; (try with_reducible rfl))
  (try simp only [Act.put, sA, sZ, sS])
  refine tkW 33 (i := 1) (v := ?v1_1) rfl rfl (by kernel_rfl) (fun _ _ _ h => h) ?y1_1 (by assumption) ?r1_1
  case y1_1 => (intro W hSW; (try dsimp only at hSW); go_simp; (try with_reducible rfl))
  (try simp only [Act.put, sA, sZ, sS])
  refine tkW 34 (i := 2) (v := ?v1_2) rfl rfl (by kernel_rfl) (fun _ _ _ h => h) ?y1_2 (by assumption) ?r1_2
  case y1_2 => (intro W hSW; (try dsimp only at hSW); go_simp; (try with_reducible rfl))
  (try simp only [Act.put, sA, sZ, sS])
  refine tkW 35 (i := 3) (v := ?v1_3) rfl rfl (by kernel_rfl) (fun _ _ _ h => h) ?y1_3 (by assumption) ?r1_3
  case y1_3 => (intro W hSW; (try dsimp only at hSW); go_simp; (try with_reducible rfl))
  (try simp only [Act.put, sA, sZ, sS])
  refine tkW 36 (i := 4) (v := ?v1_4) rfl rfl (by kernel_rfl) (fun _ _ _ h => h) ?y1_4 (by assumption) ?r1_4
  case y1_4 => (intro W hSW; (try dsimp only at hSW); go_simp; (try with_reducible rfl))
  (try simp only [Act.put, sA, sZ, sS])
  refine tkW 37 (i := 5) (v := ?v1_5) rfl rfl (by kernel_rfl) (fun _ _ _ h => h) ?y1_5 (by assumption) ?r1_5
  case y1_5 => (intro W hSW; (try dsimp only at hSW); go_simp; (try with_reducible rfl))
  (try simp only [Act.put, sA, sZ, sS])
  refine tkW 38 (i := 6) (v := ?v1_6) rfl rfl (by kernel_rfl) (fun _ _ _ h => h) ?y1_6 (by assumption) ?r1_6
  case y1_6 => (intro W hSW; (try dsimp only at hSW); go_simp; (try with_reducible rfl))
  (try simp only [Act.put, sA, sZ, sS])
  refine tkW 39 (i := 7) (v := ?v1_7) rfl rfl (by kernel_rfl) (fun _ _ _ h => h) ?y1_7 (by assumption) ?r1_7
  case y1_7 => (intro W hSW; (try dsimp only at hSW); go_simp; (try with_reducible rfl))
  (try simp only [Act.put, sA, sZ, sS])
  refine tkW 40 (i := 8) (v := ?v1_8) rfl rfl (by kernel_rfl) (fun _ _ _ h => h) ?y1_8 (by assumption) ?r1_8
  case y1_8 => (intro W hSW; (try dsimp only at hSW); go_simp; (try with_reducible rfl))
  (try simp only [Act.put, sA, sZ, sS])
  refine tkW 41 (i := 9) (v := ?v1_9) rfl rfl (by kernel_rfl) (fun _ _ _ h => h) ?y1_9 (by assumption) ?r1_9
  case y1_9 => (intro W hSW; (try dsimp only at hSW); go_simp; (try with_reducible rfl))
  (try simp only [Act.put, sA, sZ, sS])
  refine tkW 42 (i := 10) (v := ?v1_10) rfl rfl (by kernel_rfl) (fun _ _ _ h => h) ?y1_10 (by assumption) ?r1_10
  case y1_10 => (intro W hSW; (try dsimp only at hSW); go_simp; (try with_reducible rfl))
  (try simp only [Act.put, sA, sZ, sS])
  refine tkW 43 (i := 11) (v := ?v1_11) rfl rfl (by kernel_rfl) (fun _ _ _ h => h) ?y1_11 (by assumption) ?r1_11
  case y1_11 => (intro W hSW; (try dsimp only at hSW); go_simp; (try with_reducible rfl))
  (try simp only [Act.put, sA, sZ, sS])
  refine tkW 44 (i := 12) (v := ?v1_12) rfl rfl (by kernel_rfl) (fun _ _ _ h => h) ?y1_12 (by assumption) ?r1_12
  case y1_12 => (intro W hSW; (try dsimp only at hSW); go_simp; (try with_reducible rfl))
  (try simp only [Act.put, sA, sZ, sS])
  refine tkW 45 (i := 13) (v := ?v1_13) rfl rfl (by kernel_rfl) (fun _ _ _ h => h) ?y1_13 (by assumption) ?r1_13
  case y1_13 => (intro W hSW; (try dsimp only at hSW); go_simp; (try with_reducible rfl))
  (try simp only [Act.put, sA, sZ, sS])
  refine tkW 46 (i := 14) (v := ?v1_14) rfl rfl (by kernel_rfl) (fun _ _ _ h => h) ?y1_14 (by assumption) ?r1_14
  case y1_14 => (intro W hSW; (try dsimp only at hSW); go_simp; (try with_reducible rfl))
  (try simp only [Act.put, sA, sZ, sS])
  refine tkW 47 (i := 15) (v := ?v1_15) rfl rfl (by kernel_rfl) (fun _ _ _ h => h) ?y1_15 (by assumption) ?r1_15
  case y1_15 => (intro W hSW; (try dsimp only at hSW); go_simp; (try with_reducible rfl))
  (try simp only [Act.put, sA, sZ, sS])
  refine tkW 10 (i := 16) (v := ?v1_16) rfl rfl (by kernel_rfl) (fun _ _ _ h => h) ?y1_16 (by assumption) ?r1_16
  case y1_16 => (intro W hSW; (try dsimp only at hSW); go_simp; (try with_reducible rfl))
  (try simp only [Act.put, sA, sZ, sS])
  refine wpAnyH_done (by kernel_rfl) ?_ _
  clear hHeld HS0 hw1 hw2 hw3 hw4 hne hrem hr1 hr2 hxe
  generalize W4.drew = W5 at HB5 HX5 ⊢
  obtain ⟨dl, a0, a1, a2, a3, a4, a5, a6⟩ := HX5.out
  rw [← HT.out] at a5
  rw [← HR.out] at a6
  go_upto_region 10 with fail
  clear dl a0 a1 a2 a3 a4 a6
  have hrow := heap_alloc_new W5 (.cells #[.int .i64 d.nodes, .int .i64 d.drift, .int .i64 d.reading, .int .i64 d.rejoin, .int .i64 d.quota, .slice a.tA T a.tC, .slice a.sA n a.sC] 25)
  have hb6 := HB5.out.trans ((bal W5 (.cells #[.int .i64 d.nodes, .int .i64 d.drift, .int .i64 d.reading, .int .i64 d.rejoin, .int .i64 d.quota, .slice a.tA T a.tC, .slice a.sA n a.sC] 25)).mono HB5.out.size)
  have hx6 := HX5.out.below (bal W5 (.cells #[.int .i64 d.nodes, .int .i64 d.drift, .int .i64 d.reading, .int .i64 d.rejoin, .int .i64 d.quota, .slice a.tA T a.tC, .slice a.sA n a.sC] 25)) HX5.out.lt
  have hlb : W5.heap.size < (W5.alloc (.cells #[.int .i64 d.nodes, .int .i64 d.drift, .int .i64 d.reading, .int .i64 d.rejoin, .int .i64 d.quota, .slice a.tA T a.tC, .slice a.sA n a.sC] 25)).heap.size := by simp
  have hlw : w.heap.size < W5.heap.size := HX5.out.lt
  clear HB5 HX5 a5
  generalize W5.alloc (.cells #[.int .i64 d.nodes, .int .i64 d.drift, .int .i64 d.reading, .int .i64 d.rejoin, .int .i64 d.quota, .slice a.tA T a.tC, .slice a.sA n a.sC] 25) = W6 at *
  generalize hlbe : W5.heap.size = lb at *
  clear hlbe
  have HR6 := hide hrow
  have HB6 := hide hb6
  have HIa := hide ((HD.out _ hb6).tasks.of_below (bal W6 (.cells #[] 43)) (Nat.le_refl _))
  have HOe := hide (World.ownsRow_made (e := 43) (size := 3) W6 #[] 0 (Nat.le_refl _) (Nat.zero_le _) (by simp))
  have ha5 : (W6.alloc (.cells #[] 43)).cell? ⟨w.heap.size, 5, none⟩ = some (.slice a.tA T a.tC) := by
    rw [bcl (bal W6 _) (by omega), hx6.c5, HT.out]
  clear hrow hb6 hx6
  go_wp2_with (at_builtin; go_loud (refine wpList_tasks _ rfl _ _ rfl W6.heap.size _ rfl HOe.out (by simp) a.tA d.tasks a.tC T HT.out rfl HIa.out (by have := HT.out; omega) ?_))
  intro vo w7 hO hg7
  have hb67 : Below W6.heap.size W6 w7 := ((Below.refl W6.heap.size W6).alloc (Nat.le_refl _) (.cells #[] 43)).grown hg7 (by simp) (by intro k hk; simp [Value.ownBlock] at hk; omega)
  have HB7 := hide (HB6.out.trans (hb67.mono HB6.out.size))
  have hr7 := (hb67.block lb (by omega)).trans HR6.out
  have hs7 := hb67.size
  obtain ⟨At, ct, rfl, hTB⟩ := own_tasks hO
  have HTB := hide hTB
  rw [← HT.out]
  clear ha5 HOe HIa HB6 HR6 hO hg7 hb67 hTB
  have s5 : w7.cell? ⟨lb, 5, none⟩ = some (.slice a.tA T a.tC) := by rw [cell_of_row _ _ _ _ _ _ hr7]; rfl
  have sf : w7.frozen? ⟨lb, 5, none⟩ = false := by simp [World.frozen?, hr7]
  have HR7 := hide hr7
  clear hr7
  go_upto_region 11 with fail
  have HR8 := hide (show (w7.setCell ⟨lb, 5, none⟩ (.slice At T ct)).heap[lb]? = some (.cells #[.int .i64 d.nodes, .int .i64 d.drift, .int .i64 d.reading, .int .i64 d.rejoin, .int .i64 d.quota, .slice At T ct, .slice a.sA n a.sC] 25 (0, 0)) from by rw [set_cells HR7.out]; rfl)
  have HB8 := hide (HB7.out.setCell (p := ⟨lb, 5, none⟩) (by show w.heap.size ≤ lb; omega) (.slice At T ct))
  have hs8 : W6.heap.size ≤ (w7.setCell ⟨lb, 5, none⟩ (.slice At T ct)).heap.size := by simpa using hs7
  have HT8 : Hid (TkB (w7.setCell ⟨lb, 5, none⟩ (.slice At T ct)) W6.heap.size At ct d.tasks) := by
    rcases Nat.eq_zero_or_pos d.tasks.length with h0 | h0
    · exact ⟨HTB.out.1, HTB.out.2.1, .inl (List.length_eq_zero_iff.1 h0)⟩
    · obtain ⟨g, rfl, hg1, hg2⟩ := HTB.out.at h0
      exact HTB.out.same (setCell_other (by show g ≠ lb; omega))
  clear s5 sf HR7 HB7 HTB hs7
  generalize w7.setCell ⟨lb, 5, none⟩ (.slice At T ct) = W8 at *
  have s5 : W8.cell? ⟨lb, 5, none⟩ = some (.slice At T ct) := by rw [cell_of_row _ _ _ _ _ _ HR8.out]; rfl
  by_cases hT0 : 0 < T
  · have hT0d : decide ((0 : Int) < (T : Int)) = true := decide_eq_true (by omega)
    obtain ⟨i, hiT, hrem, hr1, hr2⟩ := rem_again (x := which) (T := (T : Int)) (by omega)
    have hiT : i < T := by omega
    have hid : i < d.tasks.length := by rw [← HT.out]; exact hiT
    obtain ⟨g, rfl, hg1, hg2⟩ := HT8.out.at hid
    go_wp2_with fail
    generalize hye : which.tmod (T : Int) = y at hrem hr1 hr2
    have hw1 : IntKind.i64.wrap y = y := by rw [IntKind.wrap_i64]; omega
    have hw2 : IntKind.i64.wrap (y + (T : Int)) = y + (T : Int) := by rw [IntKind.wrap_i64]; omega
    have hw3 : IntKind.i64.wrap (i : Int) = (i : Int) := by rw [IntKind.wrap_i64]; omega
    have hne : ¬ (T = 0) := by omega
    have HS1 : Hid (W8.drew.cell? ⟨lb, 5, none⟩ = some (.slice (some ⟨g, 0, none⟩) T ct)) := s5
    have HR9 := hide (show W8.drew.heap[lb]? = _ from HR8.out)
    have HB9 := hide HB8.out.drew
    have HT9 := hide (HT8.out.below (Below.refl _ _).drew)
    have hz9 : W8.drew.heap.size = W8.heap.size := rfl
    clear s5 HR8 HB8 HT8
    refine wp_region_held_drew (S := fun w' => w'.cell? ⟨lb, 5, none⟩ = some (.slice (some ⟨g, 0, none⟩) T ct)) (by kernel_rfl) (HS1.out) (fun hHeld => ?_)
    refine tkW 63 (i := 0) (v := ?v2_0) rfl rfl (by kernel_rfl) (fun _ _ _ h => h) ?y2_0 (by assumption) ?r2_0
    case y2_0 => (intro W hSW; (try dsimp only at hSW); go_simp; (try with_reducible rfl))
    (try simp only [Act.put, sA, sZ, sS])
    refine tkW 64 (i := 1) (v := ?v2_1) rfl rfl (by kernel_rfl) (fun _ _ _ h => h) ?y2_1 (by assumption) ?r2_1
    case y2_1 => (intro W hSW; (try dsimp only at hSW); go_simp; (try with_reducible rfl))
    (try simp only [Act.put, sA, sZ, sS])
    refine tkW 65 (i := 2) (v := ?v2_2) rfl rfl (by kernel_rfl) (fun _ _ _ h => h) ?y2_2 (by assumption) ?r2_2
    case y2_2 => (intro W hSW; (try dsimp only at hSW); go_simp; (try with_reducible rfl))
    (try simp only [Act.put, sA, sZ, sS])
    refine tkW 66 (i := 3) (v := ?v2_3) rfl rfl (by kernel_rfl) (fun _ _ _ h => h) ?y2_3 (by assumption) ?r2_3
    case y2_3 => (intro W hSW; (try dsimp only at hSW); go_simp; (try with_reducible rfl))
    (try simp only [Act.put, sA, sZ, sS])
    refine tkW 67 (i := 4) (v := ?v2_4) rfl rfl (by kernel_rfl) (fun _ _ _ h => h) ?y2_4 (by assumption) ?r2_4
    case y2_4 => (intro W hSW; (try dsimp only at hSW); go_simp; (try with_reducible rfl))
    (try simp only [Act.put, sA, sZ, sS])
    refine tkW 68 (i := 5) (v := ?v2_5) rfl rfl (by kernel_rfl) (fun _ _ _ h => h) ?y2_5 (by assumption) ?r2_5
    case y2_5 => (intro W hSW; (try dsimp only at hSW); go_simp; (try with_reducible rfl))
    (try simp only [Act.put, sA, sZ, sS])
    refine tkW 69 (i := 6) (v := ?v2_6) rfl rfl (by kernel_rfl) (fun _ _ _ h => h) ?y2_6 (by assumption) ?r2_6
    case y2_6 => (intro W hSW; (try dsimp only at hSW); go_simp; (try with_reducible rfl))
    (try simp only [Act.put, sA, sZ, sS])
    refine tkW 70 (i := 7) (v := ?v2_7) rfl rfl (by kernel_rfl) (fun _ _ _ h => h) ?y2_7 (by assumption) ?r2_7
    case y2_7 => (intro W hSW; (try dsimp only at hSW); go_simp; (try with_reducible rfl))
    (try simp only [Act.put, sA, sZ, sS])
    refine tkW 71 (i := 8) (v := ?v2_8) rfl rfl (by kernel_rfl) (fun _ _ _ h => h) ?y2_8 (by assumption) ?r2_8
    case y2_8 => (intro W hSW; (try dsimp only at hSW); go_simp; (try with_reducible rfl))
    (try simp only [Act.put, sA, sZ, sS])
    refine tkW 72 (i := 9) (v := ?v2_9) rfl rfl (by kernel_rfl) (fun _ _ _ h => h) ?y2_9 (by assumption) ?r2_9
    case y2_9 => (intro W hSW; (try dsimp only at hSW); go_simp; (try with_reducible rfl))
    (try simp only [Act.put, sA, sZ, sS])
    refine tkW 73 (i := 10) (v := ?v2_10) rfl rfl (by kernel_rfl) (fun _ _ _ h => h) ?y2_10 (by assumption) ?r2_10
    case y2_10 => (intro W hSW; (try dsimp only at hSW); go_simp; (try with_reducible rfl))
    (try simp only [Act.put, sA, sZ, sS])
    refine tkW 74 (i := 11) (v := ?v2_11) rfl rfl (by kernel_rfl) (fun _ _ _ h => h) ?y2_11 (by assumption) ?r2_11
    case y2_11 => (intro W hSW; (try dsimp only at hSW); go_simp; (try with_reducible rfl))
    (try simp only [Act.put, sA, sZ, sS])
    refine tkW 75 (i := 12) (v := ?v2_12) rfl rfl (by kernel_rfl) (fun _ _ _ h => h) ?y2_12 (by assumption) ?r2_12
    case y2_12 => (intro W hSW; (try dsimp only at hSW); go_simp; (try with_reducible rfl))
    (try simp only [Act.put, sA, sZ, sS])
    refine tkW 12 (i := 13) (v := ?v2_13) rfl rfl (by kernel_rfl) (fun _ _ _ h => h) ?y2_13 (by assumption) ?r2_13
    case y2_13 => (intro W hSW; (try dsimp only at hSW); go_simp; (try with_reducible rfl))
    (try simp only [Act.put, sA, sZ, sS])
    refine wpAnyH_done (by kernel_rfl) ?_ _
    clear hHeld HS1 hw1 hw2 hw3 hne hrem hr1 hr2 hye
    generalize W8.drew = W9 at *
    obtain ⟨⟨_, _⟩, ⟨mm1, mm2⟩, ss1, ss2⟩ := HTk.out _ (getD_mem (l := d.tasks) (d := default) hid)
    have hN16 := hN.out.n16
    have hNn := hN.out.hN
    obtain ⟨mi, hmi⟩ : ∃ z, z = (d.tasks.getD i default).mem := ⟨_, rfl⟩
    obtain ⟨si, hsi⟩ : ∃ z, z = (d.tasks.getD i default).share := ⟨_, rfl⟩
    rw [← hmi] at mm1 mm2
    rw [← hsi] at ss1 ss2
    obtain ⟨m2, hm2⟩ : ∃ z, z = mi / 2 := ⟨_, rfl⟩
    obtain ⟨s2, hs2⟩ : ∃ z, z = si / 2 := ⟨_, rfl⟩
    have f0 := (HT9.out.cells hid).1
    have q1 : W9.drew.cell? ⟨g, i * 3 + 1, none⟩ = some (.int .i64 mi) := by rw [hmi]; exact (HT9.out.cells hid).2.2.1
    have qf : W9.drew.frozen? ⟨g, i * 3 + 1, none⟩ = false := f0 _
    have q5 : W9.drew.cell? ⟨lb, 5, none⟩ = some (.slice (some ⟨g, 0, none⟩) T ct) := by
      show W9.cell? _ = _
      rw [cell_of_row _ _ _ _ _ _ HR9.out]; rfl
    have hmd : mi.tdiv 2 = m2 := by rw [hm2]; exact Int.tdiv_eq_ediv_of_nonneg mm1
    have hmw : IntKind.i64.wrap m2 = m2 := by rw [IntKind.wrap_i64]; omega
    have hsd : si.tdiv 2 = s2 := by rw [hs2]; exact Int.tdiv_eq_ediv_of_nonneg ss1
    have hsw : IntKind.i64.wrap s2 = s2 := by rw [IntKind.wrap_i64]; omega
    have HM2 := hide (show m2 = (d.tasks.getD i default).mem / 2 from by rw [hm2, hmi])
    have HS2 := hide (show s2 = (d.tasks.getD i default).share / 2 from by rw [hs2, hsi])
    have HR10 := hide (show (W9.drew.setCell ⟨g, i * 3 + 1, none⟩ (.int .i64 m2)).heap[lb]? = _ from (setCell_other (by show lb ≠ g; omega)).trans HR9.out)
    have HB10 := hide (HB9.out.drew.setCell (p := ⟨g, i * 3 + 1, none⟩) (by show w.heap.size ≤ g; omega) (.int .i64 m2))
    have HT10 := hide ((HT9.out.below (Below.refl _ _).drew).mem hid m2)
    have HSi := hide hsi
    have HId := hide hid
    clear f0 HR9 HB9 HT9 hid hmi hsi hm2 hs2 mm1 mm2 ss1 ss2 hN16 hNn
    go_upto_region 13 with fail
    go_still_tail 12, (by kernel_rfl)
    change wpList _ _ _ _ _ W9.drew
    generalize W9.drew = V9 at *
    go_upto_region 14 with fail
    clear q1 qf q5 hmd hmw
    generalize V9.setCell ⟨g, i * 3 + 1, none⟩ (.int .i64 m2) = W10 at *
    have hid1 : i < (d.tasks.set i ⟨(d.tasks.getD i default).node, m2, (d.tasks.getD i default).share⟩).length := by rw [List.length_set]; exact HId.out
    have f0 := (HT10.out.cells hid1).1
    have q2 : W10.drew.cell? ⟨g, i * 3 + 2, none⟩ = some (.int .i64 si) := by
      have := (HT10.out.cells hid1).2.2.2
      rw [setT_getD HId.out, if_pos rfl] at this
      rw [HSi.out]
      exact this
    have qf : W10.drew.frozen? ⟨g, i * 3 + 2, none⟩ = false := f0 _
    have q5 : W10.drew.cell? ⟨lb, 5, none⟩ = some (.slice (some ⟨g, 0, none⟩) T ct) := by
      show W10.cell? _ = _
      rw [cell_of_row _ _ _ _ _ _ HR10.out]; rfl
    have HR11 := hide (show (W10.drew.setCell ⟨g, i * 3 + 2, none⟩ (.int .i64 s2)).heap[lb]? = _ from (setCell_other (by show lb ≠ g; omega)).trans HR10.out)
    have HB11 := hide (HB10.out.drew.setCell (p := ⟨g, i * 3 + 2, none⟩) (by show w.heap.size ≤ g; omega) (.int .i64 s2))
    have hT11 := (HT10.out.below (Below.refl _ _).drew).shr hid1 s2
    rw [HS2.out, HM2.out, less_set HId.out, ← HS2.out] at hT11
    have HT11 := hide (show TkB (W10.drew.setCell ⟨g, i * 3 + 2, none⟩ (.int .i64 s2)) W6.heap.size (some ⟨g, 0, none⟩) ct (lessD d n i).tasks from hT11)
    clear f0 HR10 HB10 HT10 hT11 hid1
    go_still_tail 12, (by kernel_rfl)
    change wpList _ _ _ _ _ W10.drew
    generalize W10.drew = V10 at *
    go_upto_region 15 with fail
    clear q2 qf q5 hsd hsw
    generalize V10.setCell ⟨g, i * 3 + 2, none⟩ (.int .i64 s2) = W11 at *
    have HL11 := hide (row7 HR11.out)
    clear HR11
    obtain ⟨c', hce⟩ : ∃ c', c' = makeF (lessD d n i) := ⟨_, rfl⟩
    have HM2 := hide (HMl.out i W11 _ _ _ HB11.out HT11.out)
    have hl2 := HLl.out i
    have hc2 := HLc.out i
    rw [← hce] at HM2 hl2 hc2
    clear hce HMl HLl HLc
    obtain ⟨yl, e0, e1, e2, e3, e4, e5, e6⟩ := HL11.out
    (try dsimp only at e0 e1 e2 e3 e4 e5 e6)
    go_wp2_with fail
    clear yl e0 e1 e2 e3 e4 e5 e6
    refine (HM2.out).mono ?_
    rintro e wm ⟨hbm, Am, rfl, hcm⟩
    have HBm := hide (HB11.out.trans (hbm.mono HB11.out.size))
    have HCa := hide (HCk.out c' Am)
    have HCf := hide hcm
    have Hc2 := hide hc2
    clear hbm hcm hc2 HM2 HB11 HT11 HL11 HCk
    have HBo := hide (boxed_new wm c' Am 34)
    have HBa := hide (HBm.out.trans ((bal wm (.cells (c'.cells Am) 34)).mono HBm.out.size))
    have HCa2 := hide (HCa.out _ HBa.out (HCf.out.of_below (bal wm (.cells (c'.cells Am) 34)) (Nat.le_refl _)))
    clear HCa HCf HBm
    obtain ⟨xA, xC, yA, yC, zA, zC, uA, uC, vA, vC⟩ := Am
    obtain ⟨cn', owners', drift', reading', margin', bound', rejoin', quota', parts', windows', ports', links'⟩ := c'
    dsimp only at hl2
    subst hl2
    unfold Conf.val at HCa2 ⊢
    unfold Conf.cells at HBo HBa HCa2
    dsimp only at HBo HBa HCa2 ⊢
    obtain ⟨yl, e0, e1, e2, e3, e4, e5, e6, e7, e8, e9, e10, e11⟩ := HBo.out
    dsimp only at e0 e1 e2 e3 e4 e5 e6 e7 e8 e9 e10 e11
    go_wp2_with fail
    refine HCa2.out.mono ?_
    rintro e wz ⟨rfl, hbz⟩
    rw [Hc2.out]
    have HBz := hide (HBa.out.trans (hbz.mono HBa.out.size))
    clear hbz yl e0 e1 e2 e3 e4 e5 e6 e7 e8 e9 e10 e11
    go_wp2_with fail
    go_ret
    exact ⟨rfl, HBz.out⟩
  · have hT0d : decide ((0 : Int) < (T : Int)) = false := decide_eq_false (by omega)
    have hl0 : d.tasks = [] := List.length_eq_zero_iff.1 (by rw [← HT.out]; omega)
    have HT11 : Hid (TkB W8 W6.heap.size At ct (lessD d n 0).tasks) := by
      have := HT8.out
      rw [hl0] at this
      show TkB _ _ _ _ (d.tasks.set 0 _)
      rw [hl0]
      exact this
    have HL11 := hide (row7 HR8.out)
    clear HR8 HT8 hl0
    go_upto_region 15 with fail
    clear s5
    obtain ⟨c', hce⟩ : ∃ c', c' = makeF (lessD d n 0) := ⟨_, rfl⟩
    have HM2 := hide (HMl.out 0 W8 _ _ _ HB8.out HT11.out)
    have hl2 := HLl.out 0
    have hc2 := HLc.out 0
    rw [← hce] at HM2 hl2 hc2
    clear hce HMl HLl HLc
    obtain ⟨yl, e0, e1, e2, e3, e4, e5, e6⟩ := HL11.out
    (try dsimp only at e0 e1 e2 e3 e4 e5 e6)
    go_wp2_with fail
    clear yl e0 e1 e2 e3 e4 e5 e6
    refine (HM2.out).mono ?_
    rintro e wm ⟨hbm, Am, rfl, hcm⟩
    have HBm := hide (HB8.out.trans (hbm.mono HB8.out.size))
    have HCa := hide (HCk.out c' Am)
    have HCf := hide hcm
    have Hc2 := hide hc2
    clear hbm hcm hc2 HM2 HB8 HT11 HL11 HCk
    have HBo := hide (boxed_new wm c' Am 34)
    have HBa := hide (HBm.out.trans ((bal wm (.cells (c'.cells Am) 34)).mono HBm.out.size))
    have HCa2 := hide (HCa.out _ HBa.out (HCf.out.of_below (bal wm (.cells (c'.cells Am) 34)) (Nat.le_refl _)))
    clear HCa HCf HBm
    obtain ⟨xA, xC, yA, yC, zA, zC, uA, uC, vA, vC⟩ := Am
    obtain ⟨cn', owners', drift', reading', margin', bound', rejoin', quota', parts', windows', ports', links'⟩ := c'
    dsimp only at hl2
    subst hl2
    unfold Conf.val at HCa2 ⊢
    unfold Conf.cells at HBo HBa HCa2
    dsimp only at HBo HBa HCa2 ⊢
    obtain ⟨yl, e0, e1, e2, e3, e4, e5, e6, e7, e8, e9, e10, e11⟩ := HBo.out
    dsimp only at e0 e1 e2 e3 e4 e5 e6 e7 e8 e9 e10 e11
    go_wp2_with fail
    refine HCa2.out.mono ?_
    rintro e wz ⟨rfl, hbz⟩
    rw [Hc2.out]
    have HBz := hide (HBa.out.trans (hbz.mono HBa.out.size))
    clear hbz yl e0 e1 e2 e3 e4 e5 e6 e7 e8 e9 e10 e11
    go_wp2_with fail
    go_ret
    exact ⟨rfl, HBz.out⟩
end Go.Proofs.YtdennekkbdlhdaaDoor
