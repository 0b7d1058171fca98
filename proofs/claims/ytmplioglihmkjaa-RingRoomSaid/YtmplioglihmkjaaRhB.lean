/-
  RingRoom's walk.
-/
import Derived.Test.YtmplioglihmkjaaRhA
namespace Go.Proofs.Ytmplioglihmkjaa
open Go.RowKit Go.Shelf
attribute [local go_sem] Oper.semAt_some
set_option linter.unusedVariables false
set_option linter.unusedSimpArgs false
set_option maxRecDepth 100000

set_option maxHeartbeats 8000000 in
theorem room_walk (l : List Ai) (A : Option Addr) (c : Nat) (s : Int) (n : Nat) (w : World) (hI : Arcs w A l) (hA : ∀ a, A = some a → a.spot = none) (hs : I64 s) (hn : n < 65536) (hc : l.length ≤ c) (hc2 : c ≤ maxLen) :
    Calls Try.prog 8 #[.slice A l.length c, .int .i64 s, .int .u16 n] w fun e w' => e = .returned (.bool true) ∧ Below w.heap.size w w' := by
  obtain ⟨z, hz⟩ : ∃ z, z = n % 1000 := ⟨_, rfl⟩
  have hmod : (n : Int).tmod 1000 = (z : Int) := by rw [hz]; rfl
  have hmod2 : (n : Int) % 1000 = (z : Int) := by rw [hz]; rfl
  have hz5 : z < 1000 := by omega
  clear hz
  by_cases h20 : 20 < l.length
  · obtain ⟨N, hN⟩ : ∃ N, N = l.length := ⟨_, rfl⟩
    rw [← hN] at h20 ⊢
    clear hN hI hc
    go_enter Try.func8, Try.ntmps8
    go_wp2_with fail
    refine (alive_at _).mono ?_
    rintro e w' ⟨rfl, rfl⟩
    go_wp2_with fail
    go_ret
    exact ⟨rfl, Below.refl _ _⟩
  obtain ⟨m, hm⟩ : ∃ m, m = 1 + z := ⟨_, rfl⟩
  have hmI : (1 + (z : Int)) = (m : Int) := by omega
  have hm0 : 0 < m := by omega
  have hm1 : m ≤ 1000 := by omega
  have HCv := hide (fun W (h : Arcs W A l) => Covered_at l A c m W h hA (fun _ => by omega) (by omega))
  have HGp := hide (fun W (h : Arcs W A l) => Gaps_at l A c m W h hA (fun _ => by omega) (by omega))
  have HFt := hide (fun W (h : Arcs W A l) => Fit_at l A c s m W h hA (fun _ => by omega) (by omega))
  have HI := hide (fun W (h : Below w.heap.size w W) => hI.of_below h (Nat.le_refl _))
  obtain ⟨N, hN⟩ : ∃ N, N = l.length := ⟨_, rfl⟩
  rw [← hN] at h20 HCv HGp HFt ⊢
  cases hmay : mayB m l with
  | false =>
    rw [show coveredV l m = .tuple #[.int .i64 0, .int .i64 130] from if_neg (by rw [hmay]; decide)] at HCv
    rw [show fitV l s m = .tuple #[.int .i64 0, .int .i64 130] from if_neg (by rw [hmay]; decide)] at HFt
    unfold gapsR at HGp
    rw [hmay] at HGp
    clear hI hc hN hmay hm
    go_enter Try.func8, Try.ntmps8
    go_wp2_with fail
    refine (alive_at _).mono ?_
    rintro e w' ⟨rfl, rfl⟩
    go_wp2_with fail
    refine (HCv.out _ (HI.out _ (Below.refl _ _))).mono ?_
    rintro e w1 ⟨rfl, hb⟩
    have HB1 := hide hb
    clear hb
    go_wp2_with fail
    refine (HGp.out _ (HI.out _ HB1.out)).mono ?_
    rintro e w2 ⟨h, hb⟩
    obtain rfl : e = .returned (.tuple #[.slice none 0 0, .int .i64 130]) := by simpa using h
    have HB2 := hide (HB1.out.trans (hb.mono HB1.out.size))
    clear hb h
    go_wp2_with fail
    refine (HFt.out _ (HI.out _ HB2.out)).mono ?_
    rintro e w3 ⟨rfl, hb⟩
    have HB3 := hide (HB2.out.trans (hb.mono HB2.out.size))
    clear hb
    go_wp2_with fail
    go_ret
    exact ⟨rfl, HB3.out⟩
  | true =>
    rw [show coveredV l m = .tuple #[.int .i64 (cnt (tkI m l) m : Nat), .int .i64 0] from if_pos hmay] at HCv
    unfold gapsR at HGp
    rw [hmay] at HGp
    have HP := hide (fit_pair l s m hm0 hmay)
    have HSum := hide (sum_all (t := tkI m l) hm0)
    have hok := (mayB_t hmay).2
    have HOk := hide hok
    have HGm := hide (fun a h => (gapF_mem (t := tkI m l) hm0 (a := a) h).1)
    have HGt := hide (show ∀ g ∈ gapF (tkI m l) m, ∀ a ∈ l.map tA, meetB m g a = false from fun g hg => gap_meets (l := l.map tA) hm0 (fun b hb => by
      obtain ⟨a, ha, rfl⟩ := List.mem_map.1 hb
      exact (okB_t (hok a ha)).1) hg)
    have HWl := hide (widest_le (t := tkI m l) hm0)
    have hcn := cnt_le (tkI m l) m
    have HGl := hide (show (gapF (tkI m l) m).length ≤ m from by
      unfold gapF
      split
      · exact gapTo_le _ _ _
      · simp; omega)
    rw [show ((m : Int)).toNat = m from Int.toNat_natCast m] at HGp
    generalize hGe : gapF (tkI m l) m = G at *
    generalize cnt (tkI m l) m = cv at *
    have HN := hide hN
    clear hI hc hN hmay hm hok hGe
    go_enter Try.func8, Try.ntmps8
    go_wp2_with fail
    refine (alive_at _).mono ?_
    rintro e w' ⟨rfl, rfl⟩
    go_wp2_with fail
    refine (HCv.out _ (HI.out _ (Below.refl _ _))).mono ?_
    rintro e w1 ⟨rfl, hb⟩
    have HB1 := hide hb
    clear hb
    go_wp2_with fail
    refine (HGp.out _ (HI.out _ HB1.out)).mono ?_
    rintro e w2 ⟨h, hb⟩
    obtain ⟨v, rfl, hO⟩ : ∃ v, e = .returned (.tuple #[v, .int .i64 0]) ∧ OwnA w2 w1.heap.size v (toI G) := by simpa using h
    obtain ⟨A', c', rfl, hAr⟩ := own_arcs hO (fun z hz => by
      obtain ⟨a, ha, rfl⟩ := List.mem_map.1 hz
      obtain ⟨x1, x2⟩ := HGm.out a ha
      unfold I64; dsimp only; omega)
    rw [toI_len]
    have HB2 := hide (HB1.out.trans (hb.mono HB1.out.size))
    have HAr := hide hAr
    clear hb h hO hAr
    obtain ⟨M, hM⟩ : ∃ M, M = G.length := ⟨_, rfl⟩
    rw [← hM]
    have HM := hide hM
    have hM3 := HGl.out
    rw [← hM] at hM3
    clear hM
    go_wp2_with fail
    rcases HP.out with ⟨p1, p2, q, hq, hsm, hfit, hpq⟩ | ⟨hno, hfit⟩
    · rw [hfit] at HFt
      have HPq := hide hpq
      clear hpq hfit
      refine (HFt.out _ (HI.out _ HB2.out)).mono ?_
      rintro e w3 ⟨rfl, hb⟩
      have HB3 := hide (HB2.out.trans (hb.mono HB2.out.size))
      have HAr3 := hide (HAr.out.of_below hb (Nat.le_refl _))
      clear hb HAr
      go_wp2_with fail
      have hr20 : ¬ 20 < N := h20
      go_loopw [9, 15, 79] (fun mv wv kv wo => ∃ k : Nat, k ≤ M ∧ kv = .int .i64 k ∧ mv = .int .i64 ((cv + sumL (G.take k) : Nat) : Int) ∧ wv = .int .i64 (widest (G.take k) : Nat) ∧ Below w3.heap.size w3 wo) (fun _ _ kv _ => M - (intOf kv).toNat)
      case atStart => exact ⟨0, Nat.zero_le _, rfl, rfl, rfl, Below.refl _ _⟩
      case round =>
        rename World => wo
        obtain ⟨k, hk, rfl, rfl, rfl, hbw⟩ := hrel
        have HBw := hide hbw
        by_cases hlt : k < M
        · have hkl : k < G.length := by rw [← HM.out]; exact hlt
          obtain ⟨b, off, rfl, hbl, c0, c1⟩ := (HAr3.out.of_below hbw (Nat.le_refl _)).at (by rw [toI_len]; exact hkl)
          rw [toI_get G k hkl] at c0 c1
          have hmem := memA_at hkl
          have hokx := HGm.out _ hmem
          have HX := hide (HGt.out _ hmem)
          have HSum1 := hide (show sumL (G.take (k + 1)) = sumL (G.take k) + (G.getD k (0, 0)).2 from by rw [take_snoc G (0, 0) k hkl, sumL_snoc])
          have HWd1 := hide (show widest (G.take (k + 1)) = max (widest (G.take k)) (G.getD k (0, 0)).2 from by rw [take_snoc G (0, 0) k hkl, widest_snoc])
          have hle1 := sumL_take G (k + 1)
          have hsum := HSum.out
          rw [HSum1.out] at hle1
          have hwk := Nat.le_trans (widest_take G k) HWl.out
          generalize G.getD k (0, 0) = x at *
          generalize hs1 : sumL (G.take k) = sk at *
          generalize hw1 : widest (G.take k) = wk at *
          obtain ⟨F, Gl⟩ := x
          dsimp only at c0 c1 hokx hle1
          obtain ⟨hF, hGl⟩ := hokx
          have hokB := okB_of (m := m) (g := (F, Gl)) ⟨hF, hGl⟩
          have HOkB := hide hokB
          clear hmem hs1 hw1 hbw hokB
          have hmx : ∀ (ts : Array TypeId) (ty : TypeId) (W : World), (Builtin.max_ ts ty #[.int .i64 (wk : Nat), .int .i64 (Gl : Nat)]).run Try.prog W = .ok (.int .i64 (max wk Gl : Nat)) W := fun ts ty W => by
            rw [run_max_int2]
            have : (if (Gl : Int) > (wk : Int) then (Gl : Int) else (wk : Int)) = ((max wk Gl : Nat) : Int) := by split <;> omega
            rw [this]
          generalize hmq : max wk Gl = mq at *
          clear hmq
          go_wp2_with fail
          have x0 : (wo.alloc (.cells #[.int .i64 (F : Nat), .int .i64 (Gl : Nat)] 41)).cell? ⟨wo.heap.size, 0, none⟩ = some (.int .i64 (F : Nat)) := by rw [cell_of_row _ _ _ _ _ _ (heap_alloc_new wo _)]; rfl
          have x1 : (wo.alloc (.cells #[.int .i64 (F : Nat), .int .i64 (Gl : Nat)] 41)).cell? ⟨wo.heap.size, 1, none⟩ = some (.int .i64 (Gl : Nat)) := by rw [cell_of_row _ _ _ _ _ _ (heap_alloc_new wo _)]; rfl
          have HBi := hide (HBw.out.trans ((bal wo (.cells #[.int .i64 (F : Nat), .int .i64 (Gl : Nat)] 41)).mono HBw.out.size))
          generalize wo.alloc (.cells #[.int .i64 (F : Nat), .int .i64 (Gl : Nat)] 41) = wi at *
          generalize wo.heap.size = xb at *
          have HX0 := hide x0
          have HX1 := hide x1
          clear x0 x1
          go_loopw [93] (fun iv wr => ∃ j : Nat, j ≤ N ∧ iv = .int .i64 j ∧ Below wi.heap.size wi wr) (fun iv _ => N - (intOf iv).toNat)
          case atStart => exact ⟨0, Nat.zero_le _, rfl, Below.refl _ _⟩
          case round =>
            obtain ⟨j, hj, rfl, hbr⟩ := hrel
            have HBr := hide hbr
            by_cases hjl : j < N
            · have hjl' : j < l.length := by rw [← HN.out]; exact hjl
              obtain ⟨lb, lo, rfl, hlb, d0, d1⟩ := (HI.out wr (HB3.out.trans ((HBi.out.trans (hbr.mono HBi.out.size)).mono HB3.out.size))).at hjl'
              have hokl := HOk.out _ (mem_at hjl')
              have hxl := HX.out _ (List.mem_map.2 ⟨_, mem_at hjl', rfl⟩)
              have HMt := hide (fun V => Meet_at ((F : Int), (Gl : Int)) (l.getD j (0, 0)) m V)
              rw [meetV_ok hm0 hm1 HOkB.out hokl, show tA ((F : Int), (Gl : Int)) = (F, Gl) from tA_cast (F, Gl), hxl] at HMt
              generalize l.getD j (0, 0) = y at *
              obtain ⟨f, g⟩ := y
              dsimp only at d0 d1
              clear hokl hxl hjl' hbr
              have HS0 : Hid ((fun w' => w'.cell? ⟨xb, 0, none⟩ = some (.int .i64 (F : Nat)) ∧ w'.cell? ⟨xb, 1, none⟩ = some (.int .i64 (Gl : Nat)) ∧ w'.cell? ⟨lb, lo + j * 2, none⟩ = some (.int .i64 f) ∧ w'.cell? ⟨lb, lo + j * 2 + 1, none⟩ = some (.int .i64 g) ∧ Below wi.heap.size wi w') wr.drew) := ⟨keep_cell (Below.trans HBr.out (below_drew (Below.refl _ wr)) |>.mono (Nat.le_refl _)) HX0.out, keep_cell (Below.trans HBr.out (below_drew (Below.refl _ wr)) |>.mono (Nat.le_refl _)) HX1.out, d0, d1, below_drew HBr.out⟩
              have HKp : Hid (∀ (V V' : World), (fun w' => w'.cell? ⟨xb, 0, none⟩ = some (.int .i64 (F : Nat)) ∧ w'.cell? ⟨xb, 1, none⟩ = some (.int .i64 (Gl : Nat)) ∧ w'.cell? ⟨lb, lo + j * 2, none⟩ = some (.int .i64 f) ∧ w'.cell? ⟨lb, lo + j * 2 + 1, none⟩ = some (.int .i64 g) ∧ Below wi.heap.size wi w') V → Below V.heap.size V V' → (fun w' => w'.cell? ⟨xb, 0, none⟩ = some (.int .i64 (F : Nat)) ∧ w'.cell? ⟨xb, 1, none⟩ = some (.int .i64 (Gl : Nat)) ∧ w'.cell? ⟨lb, lo + j * 2, none⟩ = some (.int .i64 f) ∧ w'.cell? ⟨lb, lo + j * 2 + 1, none⟩ = some (.int .i64 g) ∧ Below wi.heap.size wi w') V') := fun V V' h hb => Tc.on (xo := 0) (x := ((F : Int), (Gl : Int))) (y := (f, g)) h hb
              go_wp2_with fail
              refine wp_region_held_drew (S := fun w' => w'.cell? ⟨xb, 0, none⟩ = some (.int .i64 (F : Nat)) ∧ w'.cell? ⟨xb, 1, none⟩ = some (.int .i64 (Gl : Nat)) ∧ w'.cell? ⟨lb, lo + j * 2, none⟩ = some (.int .i64 f) ∧ w'.cell? ⟨lb, lo + j * 2 + 1, none⟩ = some (.int .i64 g) ∧ Below wi.heap.size wi w') (by kernel_rfl) (by (first | exact HKp.out _ _ hHeld hb1 | exact HS0.out)) (fun hHeld => ?_)
              refine wpAnyH_take (i := 0) (v := ?v1_0) rfl (by kernel_rfl) (by kernel_rfl) (by kernel_rfl) (fun _ _ _ h => h) (Or.inl ⟨by kernel_rfl, ?y1_0⟩) (by assumption) ?r1_0
              case y1_0 => (intro W hSW; (try dsimp only at hSW); go_simp; (try with_reducible rfl))
              change wpAnyH _ _ _ _ _ _ _ (Act.put _ (some 97) _) _
              (try simp only [Act.put, List.setIfInBounds_toArray, List.set_cons_zero, List.set_cons_succ])
              refine wpAnyH_take (i := 1) (v := ?v1_1) rfl (by kernel_rfl) (by kernel_rfl) (by kernel_rfl) (fun _ _ _ h => h) (Or.inl ⟨by kernel_rfl, ?y1_1⟩) (by assumption) ?r1_1
              case y1_1 => (intro W hSW; (try dsimp only at hSW); go_simp; (try with_reducible rfl))
              change wpAnyH _ _ _ _ _ _ _ (Act.put _ (some 98) _) _
              (try simp only [Act.put, List.setIfInBounds_toArray, List.set_cons_zero, List.set_cons_succ])
              refine wpAnyH_take (i := 2) (v := ?v1_2) rfl (by kernel_rfl) (by kernel_rfl) (by kernel_rfl) (fun _ _ _ h => h) (Or.inl ⟨by kernel_rfl, ?y1_2⟩) (by assumption) ?r1_2
              case y1_2 => (intro W hSW; (try dsimp only at hSW); go_simp; (try with_reducible rfl))
              change wpAnyH _ _ _ _ _ _ _ (Act.put _ (some 99) _) _
              (try simp only [Act.put, List.setIfInBounds_toArray, List.set_cons_zero, List.set_cons_succ])
              refine wpAnyH_take (i := 3) (v := ?v1_3) rfl (by kernel_rfl) (by kernel_rfl) (by kernel_rfl) (fun _ _ _ h => h) (Or.inl ⟨by kernel_rfl, ?y1_3⟩) (by assumption) ?r1_3
              case y1_3 => (intro W hSW; (try dsimp only at hSW); go_simp; (try with_reducible rfl))
              change wpAnyH _ _ _ _ _ _ _ (Act.put _ (some 100) _) _
              (try simp only [Act.put, List.setIfInBounds_toArray, List.set_cons_zero, List.set_cons_succ])
              refine wpAnyH_take (i := 4) (v := ?v1_4) rfl (by kernel_rfl) (by kernel_rfl) (by kernel_rfl) (fun _ _ _ h => h) (Or.inl ⟨by kernel_rfl, ?y1_4⟩) (by assumption) ?r1_4
              case y1_4 => (intro W hSW; (try dsimp only at hSW); go_simp; (try with_reducible rfl))
              change wpAnyH _ _ _ _ _ _ _ (Act.put _ (some 101) _) _
              (try simp only [Act.put, List.setIfInBounds_toArray, List.set_cons_zero, List.set_cons_succ])
              refine wpAnyH_take (i := 5) (v := ?v1_5) rfl (by kernel_rfl) (by kernel_rfl) (by kernel_rfl) (fun _ _ _ h => h) (Or.inl ⟨by kernel_rfl, ?y1_5⟩) (by assumption) ?r1_5
              case y1_5 => (intro W hSW; (try dsimp only at hSW); go_simp; (try with_reducible rfl))
              change wpAnyH _ _ _ _ _ _ _ (Act.put _ (some 102) _) _
              (try simp only [Act.put, List.setIfInBounds_toArray, List.set_cons_zero, List.set_cons_succ])
              refine wpAnyH_ready (rs := [6]) (by kernel_rfl) (by simp) ?_
              refine AllReadyH.cons rfl (fun K hK => ?_) AllReadyH.nil
              rw [if_pos (by rfl)]
              go_simp
              refine (HMt.out _).mono ?_
              rintro e w5 ⟨rfl, hb1⟩
              go_simp
              refine hK.out _ _ (by (first | exact HKp.out _ _ hHeld hb1 | exact HS0.out)) (fun hHeld => ?_)
              clear hK K
              (try simp only [Act.put, List.setIfInBounds_toArray, List.set_cons_zero, List.set_cons_succ])
              refine wpAnyH_take (i := 7) (v := ?v1_7) rfl (by kernel_rfl) (by kernel_rfl) (by kernel_rfl) (fun _ _ _ h => h) (Or.inl ⟨by kernel_rfl, ?y1_7⟩) (by assumption) ?r1_7
              case y1_7 => (intro W hSW; (try dsimp only at hSW); go_simp; (try with_reducible rfl))
              change wpAnyH _ _ _ _ _ _ _ (Act.put _ (some 96) _) _
              (try simp only [Act.put, List.setIfInBounds_toArray, List.set_cons_zero, List.set_cons_succ])
              refine wpAnyH_take (i := 8) (v := ?v1_8) rfl (by kernel_rfl) (by kernel_rfl) (by kernel_rfl) (fun _ _ _ h => h) (Or.inl ⟨by kernel_rfl, ?y1_8⟩) (by assumption) ?r1_8
              case y1_8 => (intro W hSW; (try dsimp only at hSW); go_simp; (try with_reducible rfl))
              change wpAnyH _ _ _ _ _ _ _ (Act.put _ (some 104) _) _
              (try simp only [Act.put, List.setIfInBounds_toArray, List.set_cons_zero, List.set_cons_succ])
              refine wpAnyH_take (i := 9) (v := ?v1_9) rfl (by kernel_rfl) (by kernel_rfl) (by kernel_rfl) (fun _ _ _ h => h) (Or.inl ⟨by kernel_rfl, ?y1_9⟩) (by assumption) ?r1_9
              case y1_9 => (intro W hSW; (try dsimp only at hSW); go_simp; (try with_reducible rfl))
              change wpAnyH _ _ _ _ _ _ _ (Act.put _ (some 105) _) _
              (try simp only [Act.put, List.setIfInBounds_toArray, List.set_cons_zero, List.set_cons_succ])
              refine wpAnyH_take (i := 10) (v := ?v1_10) rfl (by kernel_rfl) (by kernel_rfl) (by kernel_rfl) (fun _ _ _ h => h) (Or.inl ⟨by kernel_rfl, ?y1_10⟩) (by assumption) ?r1_10
              case y1_10 => (intro W hSW; (try dsimp only at hSW); go_simp; (try with_reducible rfl))
              change wpAnyH _ _ _ _ _ _ _ (Act.put _ (some 19) _) _
              (try simp only [Act.put, List.setIfInBounds_toArray, List.set_cons_zero, List.set_cons_succ])
              refine wpAnyH_take (i := 11) (v := ?v1_11) rfl (by kernel_rfl) (by kernel_rfl) (by kernel_rfl) (fun _ _ _ h => h) (Or.inl ⟨by kernel_rfl, ?y1_11⟩) (by assumption) ?r1_11
              case y1_11 => (intro W hSW; (try dsimp only at hSW); go_simp; (try with_reducible rfl))
              change wpAnyH _ _ _ _ _ _ _ (Act.put _ (some 20) _) _
              (try simp only [Act.put, List.setIfInBounds_toArray, List.set_cons_zero, List.set_cons_succ])
              refine wpAnyH_done (by kernel_rfl) ?_ _
              obtain ⟨_, _, _, _, hbw5⟩ := hHeld
              have HB5 := hide hbw5
              clear hbw5 hb1
              go_wp2_with fail
              go_roundw
              case rel =>
                first
                | exact ⟨j + 1, by omega, by go_num, HB5.out⟩
                | (repeat apply Exists.intro); exact ⟨⟨j + 1, by omega, by go_num, HB5.out⟩, rfl⟩
              case measure => simp [intOf]; omega
            · obtain rfl : j = N := by omega
              have HBo := hide (show Below w3.heap.size w3 wr from HBi.out.trans (hbr.mono HBi.out.size))
              clear hbr
              go_wp2_with fail
              go_roundw
              case rel =>
                first
                | exact ⟨k + 1, by omega, by go_num, by rw [HSum1.out, ← Nat.add_assoc]; rfl, by rw [HWd1.out], HBo.out⟩
                | (repeat apply Exists.intro); exact ⟨⟨k + 1, by omega, by go_num, by rw [HSum1.out, ← Nat.add_assoc]; rfl, by rw [HWd1.out], HBo.out⟩, rfl⟩
              case measure => simp [intOf]; omega
        · obtain rfl : k = M := by omega
          have HTk := hide (show G.take k = G by rw [HM.out, List.take_length])
          have hsum := HSum.out
          rw [HTk.out]
          rw [show cv + sumL G = m by omega]
          generalize widest G = wd at *
          have HBo := hide (HB3.out.trans (hbw.mono HB3.out.size))
          obtain ⟨sN, rfl⟩ := Int.eq_ofNat_of_zero_le (show 0 ≤ s by omega)
          rw [Int.toNat_natCast] at HPq
          have p3 : 1 ≤ sN := by omega
          have p4 : sN ≤ wd := by omega
          have hq1 : decide (m ≤ q) = false := decide_eq_false (by omega)
          have hq2 : decide ((q : Int) < 0) = false := decide_eq_false (by omega)
          have hq3 : decide ((m : Int) ≤ (q : Int)) = false := decide_eq_false (by omega)
          clear hbw HTk
          go_wp2_with fail
          go_loopw [21] (fun pv wv => ∃ p : Nat, p ≤ q + 1 ∧ pv = .int .i64 p ∧ Below wo.heap.size wo wv) (fun pv _ => q + 1 - (intOf pv).toNat)
          case atStart => exact ⟨0, Nat.zero_le _, rfl, Below.refl _ _⟩
          case round =>
            rename World => wp
            obtain ⟨p, hp, rfl, hbp⟩ := hrel
            have HBp := hide (HBo.out.trans (hbp.mono HBo.out.size))
            have HBq := hide hbp
            clear hbp
            by_cases hpq : p ≤ q
            · have hokp : okA m (p, sN) := ⟨by show p < m; omega, by show sN ≤ m; omega⟩
              have HokB := hide (okB_of hokp)
              have HFr := hide (HPq.out p hpq)
              clear hokp
              go_wp2_with fail
              go_loopw [22, 150] (fun fv iv wq => ∃ j : Nat, j ≤ N ∧ iv = .int .i64 j ∧ fv = .bool (((l.map tA).take j).all fun a => !meetB m (p, sN) a) ∧ Below wp.heap.size wp wq) (fun _ iv _ => N - (intOf iv).toNat)
              case atStart => exact ⟨0, Nat.zero_le _, rfl, by simp, Below.refl _ _⟩
              case round =>
                rename World => wq
                obtain ⟨j, hj, rfl, rfl, hbr⟩ := hrel
                have HBr := hide hbr
                by_cases hjl : j < N
                · have hjl' : j < l.length := by rw [← HN.out]; exact hjl
                  obtain ⟨lb, lo, rfl, hlb, d0, d1⟩ := (HI.out wq (HBp.out.trans (hbr.mono HBp.out.size))).at hjl'
                  have hokl := HOk.out _ (mem_at hjl')
                  have HAll := hide (show (((l.map tA).take (j + 1)).all fun a => !meetB m (p, sN) a) = ((((l.map tA).take j).all fun a => !meetB m (p, sN) a) && !meetB m (p, sN) (tA (l.getD j (0, 0)))) from by
                    rw [map_take_snoc hjl', List.all_append]; simp)
                  have HMt := hide (fun V => Meet_at ((p : Int), (sN : Int)) (l.getD j (0, 0)) m V)
                  rw [meetV_ok hm0 hm1 HokB.out hokl, show tA ((p : Int), (sN : Int)) = (p, sN) from tA_cast (p, sN)] at HMt
                  generalize meetB m (p, sN) (tA (l.getD j (0, 0))) = mb at *
                  generalize (((l.map tA).take j).all fun a => !meetB m (p, sN) a) = fb at *
                  generalize l.getD j (0, 0) = y at *
                  obtain ⟨f, g⟩ := y
                  dsimp only at d0 d1
                  clear hokl hjl' hbr
                  cases fb with
                  | true =>
                    go_wp2_with fail
                    refine (HMt.out _).mono ?_
                    rintro e w5 ⟨rfl, hb1⟩
                    have HB5 := hide (HBr.out.trans (hb1.mono HBr.out.size))
                    clear hb1
                    go_wp2_with fail
                    go_roundw
                    case rel =>
                      first
                      | exact ⟨j + 1, by omega, by go_num, by rw [HAll.out]; rfl, HB5.out⟩
                      | (repeat apply Exists.intro); exact ⟨⟨j + 1, by omega, by go_num, by rw [HAll.out]; rfl, HB5.out⟩, rfl⟩
                    case measure => simp [intOf]; omega
                  | false =>
                    go_wp2_with fail
                    refine (HMt.out _).mono ?_
                    rintro e w5 ⟨rfl, hb1⟩
                    have HB5 := hide (HBr.out.trans (hb1.mono HBr.out.size))
                    clear hb1
                    go_wp2_with fail
                    go_roundw
                    case rel =>
                      first
                      | exact ⟨j + 1, by omega, by go_num, by rw [HAll.out]; rfl, HB5.out⟩
                      | (repeat apply Exists.intro); exact ⟨⟨j + 1, by omega, by go_num, by rw [HAll.out]; rfl, HB5.out⟩, rfl⟩
                    case measure => simp [intOf]; omega
                · obtain rfl : j = N := by omega
                  have hfb : (((l.map tA).take j).all fun a => !meetB m (p, sN) a) = decide (p = q) := by
                    rw [HN.out, ← List.map_take, List.take_length, Bool.eq_iff_iff, decide_eq_true_iff, ← HFr.out, List.all_eq_true]
                    constructor
                    · intro h a ha; have := h a ha; simpa using this
                    · intro h a ha; rw [h a ha]; rfl
                  rw [hfb]
                  have HBn2 := hide (show Below wo.heap.size wo wq from HBq.out.trans (hbr.mono HBq.out.size))
                  clear hbr hfb
                  by_cases he : p = q
                  · have h1 : decide (p = q) = true := decide_eq_true he
                    have h2 : ((p : Int) == (q : Int)) = true := beq_iff_eq.2 (by omega)
                    rw [h1]
                    have hp' : p ≤ q := hpq
                    clear he h1
                    go_wp2_with fail
                    go_roundw
                    case rel =>
                      first
                      | exact ⟨p + 1, by omega, by go_num, HBn2.out⟩
                      | (repeat apply Exists.intro); exact ⟨⟨p + 1, by omega, by go_num, HBn2.out⟩, rfl⟩
                    case measure => simp [intOf]; omega
                  · have h1 : decide (p = q) = false := decide_eq_false he
                    have h2 : ((p : Int) == (q : Int)) = false := beq_eq_false_iff_ne.2 (by omega)
                    rw [h1]
                    clear he h1
                    go_wp2_with fail
                    go_roundw
                    case rel =>
                      first
                      | exact ⟨p + 1, by omega, by go_num, HBn2.out⟩
                      | (repeat apply Exists.intro); exact ⟨⟨p + 1, by omega, by go_num, HBn2.out⟩, rfl⟩
                    case measure => simp [intOf]; omega
            · obtain rfl : p = q + 1 := by omega
              go_wp2_with fail
              go_ret
              exact ⟨rfl, HBp.out⟩
    · rw [hfit] at HFt
      clear hfit
      refine (HFt.out _ (HI.out _ HB2.out)).mono ?_
      rintro e w3 ⟨rfl, hb⟩
      have HB3 := hide (HB2.out.trans (hb.mono HB2.out.size))
      have HAr3 := hide (HAr.out.of_below hb (Nat.le_refl _))
      clear hb HAr
      go_wp2_with fail
      have hr20 : ¬ 20 < N := h20
      go_loopw [9, 15, 79] (fun mv wv kv wo => ∃ k : Nat, k ≤ M ∧ kv = .int .i64 k ∧ mv = .int .i64 ((cv + sumL (G.take k) : Nat) : Int) ∧ wv = .int .i64 (widest (G.take k) : Nat) ∧ Below w3.heap.size w3 wo) (fun _ _ kv _ => M - (intOf kv).toNat)
      case atStart => exact ⟨0, Nat.zero_le _, rfl, rfl, rfl, Below.refl _ _⟩
      case round =>
        rename World => wo
        obtain ⟨k, hk, rfl, rfl, rfl, hbw⟩ := hrel
        have HBw := hide hbw
        by_cases hlt : k < M
        · have hkl : k < G.length := by rw [← HM.out]; exact hlt
          obtain ⟨b, off, rfl, hbl, c0, c1⟩ := (HAr3.out.of_below hbw (Nat.le_refl _)).at (by rw [toI_len]; exact hkl)
          rw [toI_get G k hkl] at c0 c1
          have hmem := memA_at hkl
          have hokx := HGm.out _ hmem
          have HX := hide (HGt.out _ hmem)
          have HSum1 := hide (show sumL (G.take (k + 1)) = sumL (G.take k) + (G.getD k (0, 0)).2 from by rw [take_snoc G (0, 0) k hkl, sumL_snoc])
          have HWd1 := hide (show widest (G.take (k + 1)) = max (widest (G.take k)) (G.getD k (0, 0)).2 from by rw [take_snoc G (0, 0) k hkl, widest_snoc])
          have hle1 := sumL_take G (k + 1)
          have hsum := HSum.out
          rw [HSum1.out] at hle1
          have hwk := Nat.le_trans (widest_take G k) HWl.out
          generalize G.getD k (0, 0) = x at *
          generalize hs1 : sumL (G.take k) = sk at *
          generalize hw1 : widest (G.take k) = wk at *
          obtain ⟨F, Gl⟩ := x
          dsimp only at c0 c1 hokx hle1
          obtain ⟨hF, hGl⟩ := hokx
          have hokB := okB_of (m := m) (g := (F, Gl)) ⟨hF, hGl⟩
          have HOkB := hide hokB
          clear hmem hs1 hw1 hbw hokB
          have hmx : ∀ (ts : Array TypeId) (ty : TypeId) (W : World), (Builtin.max_ ts ty #[.int .i64 (wk : Nat), .int .i64 (Gl : Nat)]).run Try.prog W = .ok (.int .i64 (max wk Gl : Nat)) W := fun ts ty W => by
            rw [run_max_int2]
            have : (if (Gl : Int) > (wk : Int) then (Gl : Int) else (wk : Int)) = ((max wk Gl : Nat) : Int) := by split <;> omega
            rw [this]
          generalize hmq : max wk Gl = mq at *
          clear hmq
          go_wp2_with fail
          have x0 : (wo.alloc (.cells #[.int .i64 (F : Nat), .int .i64 (Gl : Nat)] 41)).cell? ⟨wo.heap.size, 0, none⟩ = some (.int .i64 (F : Nat)) := by rw [cell_of_row _ _ _ _ _ _ (heap_alloc_new wo _)]; rfl
          have x1 : (wo.alloc (.cells #[.int .i64 (F : Nat), .int .i64 (Gl : Nat)] 41)).cell? ⟨wo.heap.size, 1, none⟩ = some (.int .i64 (Gl : Nat)) := by rw [cell_of_row _ _ _ _ _ _ (heap_alloc_new wo _)]; rfl
          have HBi := hide (HBw.out.trans ((bal wo (.cells #[.int .i64 (F : Nat), .int .i64 (Gl : Nat)] 41)).mono HBw.out.size))
          generalize wo.alloc (.cells #[.int .i64 (F : Nat), .int .i64 (Gl : Nat)] 41) = wi at *
          generalize wo.heap.size = xb at *
          have HX0 := hide x0
          have HX1 := hide x1
          clear x0 x1
          go_loopw [93] (fun iv wr => ∃ j : Nat, j ≤ N ∧ iv = .int .i64 j ∧ Below wi.heap.size wi wr) (fun iv _ => N - (intOf iv).toNat)
          case atStart => exact ⟨0, Nat.zero_le _, rfl, Below.refl _ _⟩
          case round =>
            obtain ⟨j, hj, rfl, hbr⟩ := hrel
            have HBr := hide hbr
            by_cases hjl : j < N
            · have hjl' : j < l.length := by rw [← HN.out]; exact hjl
              obtain ⟨lb, lo, rfl, hlb, d0, d1⟩ := (HI.out wr (HB3.out.trans ((HBi.out.trans (hbr.mono HBi.out.size)).mono HB3.out.size))).at hjl'
              have hokl := HOk.out _ (mem_at hjl')
              have hxl := HX.out _ (List.mem_map.2 ⟨_, mem_at hjl', rfl⟩)
              have HMt := hide (fun V => Meet_at ((F : Int), (Gl : Int)) (l.getD j (0, 0)) m V)
              rw [meetV_ok hm0 hm1 HOkB.out hokl, show tA ((F : Int), (Gl : Int)) = (F, Gl) from tA_cast (F, Gl), hxl] at HMt
              generalize l.getD j (0, 0) = y at *
              obtain ⟨f, g⟩ := y
              dsimp only at d0 d1
              clear hokl hxl hjl' hbr
              have HS0 : Hid ((fun w' => w'.cell? ⟨xb, 0, none⟩ = some (.int .i64 (F : Nat)) ∧ w'.cell? ⟨xb, 1, none⟩ = some (.int .i64 (Gl : Nat)) ∧ w'.cell? ⟨lb, lo + j * 2, none⟩ = some (.int .i64 f) ∧ w'.cell? ⟨lb, lo + j * 2 + 1, none⟩ = some (.int .i64 g) ∧ Below wi.heap.size wi w') wr.drew) := ⟨keep_cell (Below.trans HBr.out (below_drew (Below.refl _ wr)) |>.mono (Nat.le_refl _)) HX0.out, keep_cell (Below.trans HBr.out (below_drew (Below.refl _ wr)) |>.mono (Nat.le_refl _)) HX1.out, d0, d1, below_drew HBr.out⟩
              have HKp : Hid (∀ (V V' : World), (fun w' => w'.cell? ⟨xb, 0, none⟩ = some (.int .i64 (F : Nat)) ∧ w'.cell? ⟨xb, 1, none⟩ = some (.int .i64 (Gl : Nat)) ∧ w'.cell? ⟨lb, lo + j * 2, none⟩ = some (.int .i64 f) ∧ w'.cell? ⟨lb, lo + j * 2 + 1, none⟩ = some (.int .i64 g) ∧ Below wi.heap.size wi w') V → Below V.heap.size V V' → (fun w' => w'.cell? ⟨xb, 0, none⟩ = some (.int .i64 (F : Nat)) ∧ w'.cell? ⟨xb, 1, none⟩ = some (.int .i64 (Gl : Nat)) ∧ w'.cell? ⟨lb, lo + j * 2, none⟩ = some (.int .i64 f) ∧ w'.cell? ⟨lb, lo + j * 2 + 1, none⟩ = some (.int .i64 g) ∧ Below wi.heap.size wi w') V') := fun V V' h hb => Tc.on (xo := 0) (x := ((F : Int), (Gl : Int))) (y := (f, g)) h hb
              go_wp2_with fail
              refine wp_region_held_drew (S := fun w' => w'.cell? ⟨xb, 0, none⟩ = some (.int .i64 (F : Nat)) ∧ w'.cell? ⟨xb, 1, none⟩ = some (.int .i64 (Gl : Nat)) ∧ w'.cell? ⟨lb, lo + j * 2, none⟩ = some (.int .i64 f) ∧ w'.cell? ⟨lb, lo + j * 2 + 1, none⟩ = some (.int .i64 g) ∧ Below wi.heap.size wi w') (by kernel_rfl) (by (first | exact HKp.out _ _ hHeld hb1 | exact HS0.out)) (fun hHeld => ?_)
              refine wpAnyH_take (i := 0) (v := ?v2_0) rfl (by kernel_rfl) (by kernel_rfl) (by kernel_rfl) (fun _ _ _ h => h) (Or.inl ⟨by kernel_rfl, ?y2_0⟩) (by assumption) ?r2_0
              case y2_0 => (intro W hSW; (try dsimp only at hSW); go_simp; (try with_reducible rfl))
              change wpAnyH _ _ _ _ _ _ _ (Act.put _ (some 97) _) _
              (try simp only [Act.put, List.setIfInBounds_toArray, List.set_cons_zero, List.set_cons_succ])
              refine wpAnyH_take (i := 1) (v := ?v2_1) rfl (by kernel_rfl) (by kernel_rfl) (by kernel_rfl) (fun _ _ _ h => h) (Or.inl ⟨by kernel_rfl, ?y2_1⟩) (by assumption) ?r2_1
              case y2_1 => (intro W hSW; (try dsimp only at hSW); go_simp; (try with_reducible rfl))
              change wpAnyH _ _ _ _ _ _ _ (Act.put _ (some 98) _) _
              (try simp only [Act.put, List.setIfInBounds_toArray, List.set_cons_zero, List.set_cons_succ])
              refine wpAnyH_take (i := 2) (v := ?v2_2) rfl (by kernel_rfl) (by kernel_rfl) (by kernel_rfl) (fun _ _ _ h => h) (Or.inl ⟨by kernel_rfl, ?y2_2⟩) (by assumption) ?r2_2
              case y2_2 => (intro W hSW; (try dsimp only at hSW); go_simp; (try with_reducible rfl))
              change wpAnyH _ _ _ _ _ _ _ (Act.put _ (some 99) _) _
              (try simp only [Act.put, List.setIfInBounds_toArray, List.set_cons_zero, List.set_cons_succ])
              refine wpAnyH_take (i := 3) (v := ?v2_3) rfl (by kernel_rfl) (by kernel_rfl) (by kernel_rfl) (fun _ _ _ h => h) (Or.inl ⟨by kernel_rfl, ?y2_3⟩) (by assumption) ?r2_3
              case y2_3 => (intro W hSW; (try dsimp only at hSW); go_simp; (try with_reducible rfl))
              change wpAnyH _ _ _ _ _ _ _ (Act.put _ (some 100) _) _
              (try simp only [Act.put, List.setIfInBounds_toArray, List.set_cons_zero, List.set_cons_succ])
              refine wpAnyH_take (i := 4) (v := ?v2_4) rfl (by kernel_rfl) (by kernel_rfl) (by kernel_rfl) (fun _ _ _ h => h) (Or.inl ⟨by kernel_rfl, ?y2_4⟩) (by assumption) ?r2_4
              case y2_4 => (intro W hSW; (try dsimp only at hSW); go_simp; (try with_reducible rfl))
              change wpAnyH _ _ _ _ _ _ _ (Act.put _ (some 101) _) _
              (try simp only [Act.put, List.setIfInBounds_toArray, List.set_cons_zero, List.set_cons_succ])
              refine wpAnyH_take (i := 5) (v := ?v2_5) rfl (by kernel_rfl) (by kernel_rfl) (by kernel_rfl) (fun _ _ _ h => h) (Or.inl ⟨by kernel_rfl, ?y2_5⟩) (by assumption) ?r2_5
              case y2_5 => (intro W hSW; (try dsimp only at hSW); go_simp; (try with_reducible rfl))
              change wpAnyH _ _ _ _ _ _ _ (Act.put _ (some 102) _) _
              (try simp only [Act.put, List.setIfInBounds_toArray, List.set_cons_zero, List.set_cons_succ])
              refine wpAnyH_ready (rs := [6]) (by kernel_rfl) (by simp) ?_
              refine AllReadyH.cons rfl (fun K hK => ?_) AllReadyH.nil
              rw [if_pos (by rfl)]
              go_simp
              refine (HMt.out _).mono ?_
              rintro e w5 ⟨rfl, hb1⟩
              go_simp
              refine hK.out _ _ (by (first | exact HKp.out _ _ hHeld hb1 | exact HS0.out)) (fun hHeld => ?_)
              clear hK K
              (try simp only [Act.put, List.setIfInBounds_toArray, List.set_cons_zero, List.set_cons_succ])
              refine wpAnyH_take (i := 7) (v := ?v2_7) rfl (by kernel_rfl) (by kernel_rfl) (by kernel_rfl) (fun _ _ _ h => h) (Or.inl ⟨by kernel_rfl, ?y2_7⟩) (by assumption) ?r2_7
              case y2_7 => (intro W hSW; (try dsimp only at hSW); go_simp; (try with_reducible rfl))
              change wpAnyH _ _ _ _ _ _ _ (Act.put _ (some 96) _) _
              (try simp only [Act.put, List.setIfInBounds_toArray, List.set_cons_zero, List.set_cons_succ])
              refine wpAnyH_take (i := 8) (v := ?v2_8) rfl (by kernel_rfl) (by kernel_rfl) (by kernel_rfl) (fun _ _ _ h => h) (Or.inl ⟨by kernel_rfl, ?y2_8⟩) (by assumption) ?r2_8
              case y2_8 => (intro W hSW; (try dsimp only at hSW); go_simp; (try with_reducible rfl))
              change wpAnyH _ _ _ _ _ _ _ (Act.put _ (some 104) _) _
              (try simp only [Act.put, List.setIfInBounds_toArray, List.set_cons_zero, List.set_cons_succ])
              refine wpAnyH_take (i := 9) (v := ?v2_9) rfl (by kernel_rfl) (by kernel_rfl) (by kernel_rfl) (fun _ _ _ h => h) (Or.inl ⟨by kernel_rfl, ?y2_9⟩) (by assumption) ?r2_9
              case y2_9 => (intro W hSW; (try dsimp only at hSW); go_simp; (try with_reducible rfl))
              change wpAnyH _ _ _ _ _ _ _ (Act.put _ (some 105) _) _
              (try simp only [Act.put, List.setIfInBounds_toArray, List.set_cons_zero, List.set_cons_succ])
              refine wpAnyH_take (i := 10) (v := ?v2_10) rfl (by kernel_rfl) (by kernel_rfl) (by kernel_rfl) (fun _ _ _ h => h) (Or.inl ⟨by kernel_rfl, ?y2_10⟩) (by assumption) ?r2_10
              case y2_10 => (intro W hSW; (try dsimp only at hSW); go_simp; (try with_reducible rfl))
              change wpAnyH _ _ _ _ _ _ _ (Act.put _ (some 19) _) _
              (try simp only [Act.put, List.setIfInBounds_toArray, List.set_cons_zero, List.set_cons_succ])
              refine wpAnyH_take (i := 11) (v := ?v2_11) rfl (by kernel_rfl) (by kernel_rfl) (by kernel_rfl) (fun _ _ _ h => h) (Or.inl ⟨by kernel_rfl, ?y2_11⟩) (by assumption) ?r2_11
              case y2_11 => (intro W hSW; (try dsimp only at hSW); go_simp; (try with_reducible rfl))
              change wpAnyH _ _ _ _ _ _ _ (Act.put _ (some 20) _) _
              (try simp only [Act.put, List.setIfInBounds_toArray, List.set_cons_zero, List.set_cons_succ])
              refine wpAnyH_done (by kernel_rfl) ?_ _
              obtain ⟨_, _, _, _, hbw5⟩ := hHeld
              have HB5 := hide hbw5
              clear hbw5 hb1
              go_wp2_with fail
              go_roundw
              case rel =>
                first
                | exact ⟨j + 1, by omega, by go_num, HB5.out⟩
                | (repeat apply Exists.intro); exact ⟨⟨j + 1, by omega, by go_num, HB5.out⟩, rfl⟩
              case measure => simp [intOf]; omega
            · obtain rfl : j = N := by omega
              have HBo := hide (show Below w3.heap.size w3 wr from HBi.out.trans (hbr.mono HBi.out.size))
              clear hbr
              go_wp2_with fail
              go_roundw
              case rel =>
                first
                | exact ⟨k + 1, by omega, by go_num, by rw [HSum1.out, ← Nat.add_assoc]; rfl, by rw [HWd1.out], HBo.out⟩
                | (repeat apply Exists.intro); exact ⟨⟨k + 1, by omega, by go_num, by rw [HSum1.out, ← Nat.add_assoc]; rfl, by rw [HWd1.out], HBo.out⟩, rfl⟩
              case measure => simp [intOf]; omega
        · obtain rfl : k = M := by omega
          have HTk := hide (show G.take k = G by rw [HM.out, List.take_length])
          have hsum := HSum.out
          rw [HTk.out]
          rw [show cv + sumL G = m by omega]
          generalize widest G = wd at *
          have HBo := hide (HB3.out.trans (hbw.mono HB3.out.size))
          have hno2 : s < 1 ∨ (1 ≤ s ∧ (wd : Int) < s) := by omega
          clear hbw HTk hno
          rcases hno2 with h1 | ⟨h1, h2⟩
          · go_wp2_with fail
            refine wp_loop_rounds 1 ?_
            rw [rounds_succ]
            go_wp2_with fail
            go_ret
            exact ⟨rfl, HBo.out⟩
          · go_wp2_with fail
            refine wp_loop_rounds 1 ?_
            rw [rounds_succ]
            go_wp2_with fail
            go_ret
            exact ⟨rfl, HBo.out⟩
end Go.Proofs.Ytmplioglihmkjaa
