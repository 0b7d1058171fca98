/-
  ClockNear's walk.
-/
import Derived.Test.YtdfpeilflinmhaaDoorNearM
import Derived.Test.YtdfpeilflinmhaaDoorClkN
namespace Go.Proofs.YtdfpeilflinmhaaDoor
open Go.RowKit Go.Deep
set_option linter.unusedVariables false
set_option linter.unusedSimpArgs false

/-- what stands while clocks are made and told: all that was there, and the two numbers -/
structure NrI (W0 W : World) (go : Nat) (o0 o1 : Int) : Prop where
  bel : Below W0.heap.size W0 W
  lo : W0.heap.size ≤ go
  out : W.heap[go]? = some (.cells #[.int .i64 o0, .int .i64 o1] 118 (0, 0))

theorem NrI.below {W0 W W' : World} {go : Nat} {o0 o1 : Int} (I : NrI W0 W go o0 o1) (hb : Below W.heap.size W W') : NrI W0 W' go o0 o1 :=
  ⟨I.bel.trans (hb.mono I.bel.size), I.lo, (hb.block _ (Array.getElem?_eq_some_iff.1 I.out).1).trans I.out⟩
theorem NrI.upd {W0 W W' : World} {go g : Nat} {o0 o1 : Int} (I : NrI W0 W go o0 o1) (u : Upd g W W') (hg : go < g) : NrI W0 W' go o0 o1 :=
  ⟨I.bel.trans (u.bel.mono (by have := I.lo; omega)), I.lo, (u.blk _ (Array.getElem?_eq_some_iff.1 I.out).1 (by omega)).trans I.out⟩
theorem NrI.lt {W0 W : World} {go : Nat} {o0 o1 : Int} (I : NrI W0 W go o0 o1) : go < W.heap.size := (Array.getElem?_eq_some_iff.1 I.out).1
theorem NrI.set0 {W0 W : World} {go : Nat} {o0 o1 : Int} (I : NrI W0 W go o0 o1) (z : Int) : NrI W0 (W.setCell ⟨go, 0, none⟩ (.int .i64 z)) go z o1 :=
  ⟨I.bel.setCell (p := ⟨go, 0, none⟩) I.lo _, I.lo, by rw [set_row I.out]; rfl⟩
theorem NrI.set1 {W0 W : World} {go : Nat} {o0 o1 : Int} (I : NrI W0 W go o0 o1) (z : Int) : NrI W0 (W.setCell ⟨go, 1, none⟩ (.int .i64 z)) go o0 z :=
  ⟨I.bel.setCell (p := ⟨go, 1, none⟩) I.lo _, I.lo, by rw [set_row I.out]; rfl⟩
theorem rd_hear {rd : List (Int × Bool)} {n : Nat} {V : Nat → Int} (hl : rd.length = 16) (hn : n < 16) (h : ∀ j, j < n → rd.getD j default = (V j, true)) : ∀ j, j < n + 1 → (rd.set n (V n, true)).getD j default = (V j, true) := by
  intro j hj
  simp only [List.getD_eq_getElem?_getD, List.getElem?_set]
  by_cases e : n = j
  · subst e
    rw [if_pos rfl, if_pos (by omega)]; rfl
  · rw [if_neg e]
    have := h j (by omega)
    rwa [List.getD_eq_getElem?_getD] at this

set_option maxRecDepth 100000 in
set_option maxHeartbeats 8000000 in
theorem near_walk (c : Conf) (d : Ad) (L1 L2 : List Int) (A1 A2 : Option Addr) (c1 c2 : Nat) (mb : Int) (hmb : 0 ≤ mb ∧ mb < 65536) (w : World) (hg : Glo w) (h : ConfAt w c d) (hI1 : Ints w A1 L1) (hI2 : Ints w A2 L2) (hl1 : L1.length ≤ 9223372036854775807) (hl2 : L2.length ≤ 9223372036854775807)
    (hal : ∀ W, Below w.heap.size w W → Calls Tryd.prog 41 #[] W fun e w' => e = .returned (.bool true) ∧ Below W.heap.size W w') :
    Calls Tryd.prog 10 #[c.val d, .slice A1 L1.length c1, .slice A2 L2.length c2, .int .u16 mb] w fun e w' => e = .returned (.bool true) ∧ Below w.heap.size w w' := by
  have hS := CfS.first 28 hg h
  have HC := hide (fun W (H : CfS w W c d) => check_any c d W H.g H.cf)
  have HN := hide (fun W (H : CfS w W c d) => new_at c d W H.g H.cf)
  have HAL := hide (fun W (H : CfS w W c d) => hal W H.bel)
  have HZ := hide (ck_zero (c := c))
  have HI1 := hide (fun W (hb : Below w.heap.size w W) => Ints.of_below hI1 hb (Nat.le_refl _))
  have HI2 := hide (fun W (hb : Below w.heap.size w W) => Ints.of_below hI2 hb (Nat.le_refl _))
  have HNP : Hid (∀ w e w', NewPost c w e w' ↔ Below w.heap.size w w' ∧ ((checkF c ≠ 0 ∧ e = .returned (.tuple #[.pointer none, .int .i64 (checkF c)])) ∨ (checkF c = 0 ∧ ∃ g, w.heap.size ≤ g ∧ e = .returned (.tuple #[.pointer (some ⟨g, 0, none⟩), .int .i64 0]) ∧ CkAt w' g ⟨c.nodes, c.drift, c.reading, c.margin, c.bound, 0, zero16⟩))) := fun _ _ _ => Iff.rfl
  generalize NewPost c = PP at HN HNP
  generalize checkF c = f at HC HZ HNP
  clear hg h hal hI1 hI2
  obtain ⟨oA, oC, pA, pC, wA, wC, qA, qC, lA, lC⟩ := d
  obtain ⟨nodes, owners, drift, reading, margin, bound, rejoin, quota, parts, windows, ports, links⟩ := c
  unfold Conf.val at HC HN ⊢
  unfold Conf.cells at hS
  dsimp only [precF] at hS HC HN HZ HNP ⊢
  obtain ⟨hb, ⟨hl, e0, e1, e2, e3, e4, e5, e6, e7, e8, e9, e10, e11⟩, _, _⟩ := id hS
  dsimp only at e0 e1 e2 e3 e4 e5 e6 e7 e8 e9 e10 e11
  have HS := hide hS
  clear hS hb
  go_enter Tryd.func10, Tryd.ntmps10
  go_wp2_with fail
  refine (HAL.out _ HS.out).mono ?_
  rintro e w1 ⟨rfl, hb1⟩
  have HT := hide (HS.out.below hb1)
  clear hb1 hl e0 e1 e2 e3 e4 e5 e6 e7 e8 e9 e10 e11 HAL HS
  obtain ⟨_, ⟨hl, e0, e1, e2, e3, e4, e5, e6, e7, e8, e9, e10, e11⟩, _, _⟩ := HT.out
  dsimp only at e0 e1 e2 e3 e4 e5 e6 e7 e8 e9 e10 e11
  go_wp2_with fail
  refine (HC.out _ HT.out).mono ?_
  rintro e w2 ⟨rfl, hb2⟩
  have HU := hide (HT.out.below hb2)
  clear hb2 hl e0 e1 e2 e3 e4 e5 e6 e7 e8 e9 e10 e11 HT HC
  by_cases hf : f = 0
  · subst hf
    obtain ⟨N, rfl, n4, n16, ⟨d0, d1⟩, ⟨r0, r1⟩, ⟨m0, m1⟩, ⟨b0, b1⟩⟩ := HZ.out rfl
    obtain ⟨hb, ⟨hl, e0, e1, e2, e3, e4, e5, e6, e7, e8, e9, e10, e11⟩, _, _⟩ := HU.out
    dsimp only at e0 e1 e2 e3 e4 e5 e6 e7 e8 e9 e10 e11
    clear e1 e2 e4 e5 e6 e7 e8 e9 e10 e11 hb HZ
    go_wp2
    have k0 := (bal w2 (.cells #[.int .i64 0, .int .i64 0] 118))
    have i0 : NrI w2 (w2.alloc (.cells #[.int .i64 0, .int .i64 0] 118)) w2.heap.size 0 0 := ⟨k0, Nat.le_refl _, heap_alloc_new w2 _⟩
    have j0 : (w2.alloc (.cells #[.int .i64 0, .int .i64 0] 118)).cell? ⟨w.heap.size, 0, none⟩ = some (.int .i64 N) := by rw [bcl k0 hl]; exact e0
    have HUs := hide (show w.heap.size < w2.heap.size from hl)
    have hN := HN; have hNP := HNP; have hU := HU; have H1 := HI1; have H2 := HI2
    clear HN HNP HU HI1 HI2 e0 e3
    generalize w2.alloc (.cells #[.int .i64 0, .int .i64 0] 118) = W at *
    go_loop [12, 13] (fun a i => ∃ k : Nat, k ≤ N ∧ i = .int .i64 k ∧ a = .int .u16 ((2 : Int) ^ k - 1)) (fun _ i => N - (intOf i).toNat)
    case atStart => exact ⟨0, by omega, rfl, rfl⟩
    case round =>
      obtain ⟨k, hk, rfl, rfl⟩ := hrel
      by_cases hlt : k < N
      · have hor := or_step k (by omega)
        go_wp2
        go_round
        case rel => exact ⟨k + 1, by omega, by go_num, rfl⟩
        case measure => simp [intOf]; omega
      · obtain rfl : k = N := by omega
        obtain ⟨m, hm1, hm2, hm3⟩ := and_low hmb n16
        have hmq : Hid (bits .and .u16 mb ((2 : Int) ^ k - 1) = (m : Int)) := hm3
        by_cases h0 : m = 0
        · subst h0
          go_wp2
          go_ret
          exact ⟨rfl, hU.out.bel.trans (i0.bel.mono hU.out.bel.size)⟩
        · have hne : ((m : Int) == 0) = false := by simpa using h0
          clear hmq hmb
          obtain ⟨AT, hAT⟩ : ∃ AT : List Int → Int → Int → Int, AT = fun L z most => atF L z.toNat most := ⟨_, rfl⟩
          have HX := hide (show ∀ z, -1073741824 ≤ AT L1 z 1073741824 ∧ AT L1 z 1073741824 ≤ 1073741824 from fun z => by rw [hAT]; exact atF_range L1 z.toNat (by omega))
          have HZ := hide (show ∀ z, -reading ≤ AT L2 z reading ∧ AT L2 z reading ≤ reading from fun z => by rw [hAT]; exact atF_range L2 z.toNat r0)
          have HAT := hide (show ∀ (L : List Int) (A : Option Addr) (cc : Nat) (z most : Int) (V : World), Ints V A L → L.length ≤ 9223372036854775807 → 0 ≤ z → z ≤ 1000 → 0 ≤ most → most ≤ 1099511627776 → Calls Tryd.prog 42 #[.slice A L.length cc, .int .i64 z, .int .i64 most] V fun e w' => e = .returned (.int .i64 (AT L z most)) ∧ w' = V from by
            intro L A cc z most V hI hL h0 h1 h2 h3
            obtain ⟨n, rfl⟩ := Int.eq_ofNat_of_zero_le h0
            rw [hAT]
            exact at_at L A cc n most V hI hL (by omega) ⟨h2, h3⟩)
          clear hAT
          have HL1 := hide hl1; have HL2 := hide hl2; have HI1 := H1; have HI2 := H2
          clear H1 H2 hl1 hl2
          obtain ⟨AV, hAV⟩ : ∃ AV : Nat → Int, AV = fun i => avg ((idxF k (m : Int)).map (heardF (fun n => AT L1 (n : Int) 1073741824) (fun i n => cutF (AT L2 ((i : Int) + 2 * (n : Int)) reading) (-reading) reading) i)) := ⟨_, rfl⟩
          have HAV := hide hAV
          clear hAV
          go_wp2_with fail
          clear hm3 hne
          have hI0 := hide i0
          have hgo := HUs.out
          clear i0 j0 k0
          go_loopw [14, 15, 16, 17, 18, 19, 20, 21, 22, 8] (fun i s15 s16 s17 s18 s19 s20 s21 s22 s8 wr => ∃ (t : Nat) (o0 o1 : Int), t ≤ 2 ∧ i = .int .i64 t ∧ NrI w2 wr w2.heap.size o0 o1 ∧
            (1 ≤ t → o0 = cutF (AT L1 0 1073741824 + cutF (AV 0) (-bound) bound) (-ckEnd) ckEnd ∧ AV 0 = cutF (AV 0) (-bound) bound) ∧ (2 ≤ t → o1 = cutF (AT L1 1 1073741824 + cutF (AV 1) (-bound) bound) (-ckEnd) ckEnd ∧ AV 1 = cutF (AV 1) (-bound) bound)) (fun i _ _ _ _ _ _ _ _ _ _ => 2 - (intOf i).toNat)
          case atStart => exact ⟨0, 0, 0, by omega, rfl, hI0.out, by omega, by omega⟩
          case round =>
            obtain ⟨t, o0, o1, ht, rfl, I, p0, p1⟩ := hrel
            have HI := hide I; have P0 := hide p0; have P1 := hide p1
            clear I p0 p1 hI0
            by_cases hlt : t < 2
            · have hCf := hU.out.below HI.out.bel
              obtain ⟨_, ⟨hlr, e0, e1, e2, e3, e4, e5, e6, e7, e8, e9, e10, e11⟩, _, _⟩ := id hCf
              dsimp only at e0 e1 e2 e3 e4 e5 e6 e7 e8 e9 e10 e11
              have HCf := hide hCf
              clear hCf
              go_wp2_with fail
              refine (hN.out _ HCf.out).mono ?_
              intro e w3 hp
              obtain ⟨hb3, hp2⟩ := (hNP.out _ _ _).1 hp
              rcases hp2 with ⟨hx, _⟩ | ⟨_, g, hg3, rfl, hx3⟩
              · exact absurd rfl hx
              have hgo3 : w2.heap.size < g := Nat.lt_of_lt_of_le HI.out.lt hg3
              have HI3 := hide (HI.out.below hb3)
              have HX3 := hide hx3
              clear hp hb3 hx3 hg3 HI HCf hlr e0 e1 e2 e3 e4 e5 e6 e7 e8 e9 e10 e11
              have hBw : ∀ V : World, Below w2.heap.size w2 V → Below w.heap.size w V := fun V h => hU.out.bel.trans (h.mono hU.out.bel.size)
              have HBw := hide hBw
              clear hBw
              go_wp2_with fail
              refine (HAT.out L1 A1 c1 (t : Int) 1073741824 _ (HI1.out _ (HBw.out _ HI3.out.bel)) HL1.out (by omega) (by omega) (by omega) (by omega)).mono ?_
              rintro e w4 ⟨rfl, rfl⟩
              go_wp2_with fail
              have hXt := HX.out (t : Int)
              refine (set_at HX3.out (AT L1 (t : Int) 1073741824) (by have : ckEnd = 1099511627776 := rfl; omega)).mono ?_
              rintro e w5 ⟨rfl, hu5, hx5⟩
              have HI5 := hide (HI3.out.upd hu5 hgo3)
              have HX5 := hide hx5
              clear hu5 hx5 HI3 HX3
              go_wp2_with fail
              go_loopw [17, 18] (fun i s18 wr => ∃ (n : Nat) (rd : List (Int × Bool)), n ≤ k ∧ i = .int .i64 n ∧ NrI w2 wr w2.heap.size o0 o1 ∧ CkAt wr g ⟨k, drift, reading, margin, bound, AT L1 (t : Int) 1073741824, rd⟩ ∧ ∀ j : Nat, j < n → rd.getD j default = (cutF (AT L1 (j : Int) 1073741824) (-ckEnd) ckEnd - AT L1 (t : Int) 1073741824 + cutF (AT L2 ((t : Int) + 2 * (j : Int)) reading) (-reading) reading, true)) (fun i _ _ => k - (intOf i).toNat)
              case atStart => exact ⟨0, zero16, by omega, rfl, HI5.out, HX5.out, by omega⟩
              case round =>
                obtain ⟨n, rd, hn, rfl, I, hxr, hrd⟩ := hrel
                have HI := hide I; have HXr := hide hxr; have HRd := hide hrd
                clear I hxr hrd HI5 HX5
                have hCf := hU.out.below HI.out.bel
                obtain ⟨_, ⟨hlr, e0, e1, e2, e3, e4, e5, e6, e7, e8, e9, e10, e11⟩, _, _⟩ := id hCf
                dsimp only at e0 e1 e2 e3 e4 e5 e6 e7 e8 e9 e10 e11
                clear hCf e1 e2 e4 e5 e6 e7 e8 e9 e10 e11
                by_cases hlt2 : n < k
                · have HBd := hide (fun m => cdrewN (HBw.out _ HI.out.bel) m)
                  have HXd := hide (fun m => HXr.out.kept (W' := wr.drewN m) rfl)
                  have hXn := HX.out (n : Int)
                  go_wp2_with fail
                  go_quiet ((first
                    | (go_at_call 42; refine Calls.quiet_of_same (HAT.out _ _ _ _ _ _ (by first | exact HI1.out _ (HBd.out _) | exact HI2.out _ (HBd.out _)) (by first | exact HL1.out | exact HL2.out) (by omega) (by omega) (by omega) (by omega)))
                    | (go_at_call 40; refine Calls.quiet_of (read_at (HXd.out _) _ _ (by have : ckEnd = 1099511627776 := rfl; show -ckEnd ≤ AT L1 (t : Int) 1073741824 ∧ AT L1 (t : Int) 1073741824 ≤ ckEnd; omega) (by have : ckEnd = 1099511627776 := rfl; show 0 ≤ reading ∧ reading ≤ ckEnd; omega)))))
                  have HI6 := hide (HI.out.below (cdrewN (Below.refl wr.heap.size wr) nq))
                  have HX6 := hide (HXr.out.kept (W' := wr.drewN nq) rfl)
                  clear HI HXr HBd HXd hlr e0 e3
                  generalize wr.drewN nq = w6 at *
                  have hz1 := cutF_in (x := AT L1 (n : Int) 1073741824) (lo := -ckEnd) (hi := ckEnd) (by have : ckEnd = 1099511627776 := rfl; omega) (by have : ckEnd = 1099511627776 := rfl; omega)
                  have hz2 := cutF_range (AT L2 ((t : Int) + 2 * (n : Int)) reading) (show -reading ≤ reading by omega)
                  have HV := hide (show ∀ (rd : List (Int × Bool)), rd.length = 16 → (∀ j : Nat, j < n → rd.getD j default = (cutF (AT L1 (j : Int) 1073741824) (-ckEnd) ckEnd - AT L1 (t : Int) 1073741824 + cutF (AT L2 ((t : Int) + 2 * (j : Int)) reading) (-reading) reading, true)) → ∀ j : Nat, j < n + 1 → (rd.set n (cutF (AT L1 (n : Int) 1073741824) (-ckEnd) ckEnd - AT L1 (t : Int) 1073741824 + cutF (AT L2 ((t : Int) + 2 * (n : Int)) reading) (-reading) reading, true)).getD j default = (cutF (AT L1 (j : Int) 1073741824) (-ckEnd) ckEnd - AT L1 (t : Int) 1073741824 + cutF (AT L2 ((t : Int) + 2 * (j : Int)) reading) (-reading) reading, true) from
                    fun rd hl h => rd_hear (V := fun j : Nat => cutF (AT L1 (j : Int) 1073741824) (-ckEnd) ckEnd - AT L1 (t : Int) 1073741824 + cutF (AT L2 ((t : Int) + 2 * (j : Int)) reading) (-reading) reading) hl (by omega) h)
                  have hvr : -2199023255552 ≤ cutF (AT L1 (n : Int) 1073741824) (-ckEnd) ckEnd - AT L1 (t : Int) 1073741824 + cutF (AT L2 ((t : Int) + 2 * (n : Int)) reading) (-reading) reading ∧ cutF (AT L1 (n : Int) 1073741824) (-ckEnd) ckEnd - AT L1 (t : Int) 1073741824 + cutF (AT L2 ((t : Int) + 2 * (n : Int)) reading) (-reading) reading ≤ 2199023255552 := by rw [hz1]; omega
                  clear hz1 hz2
                  go_wp2_with fail
                  refine (hear_at HX6.out n _ (by show (k : Int) ≤ 16; omega) (by show (n : Int) < k; omega) hvr).mono ?_
                  rintro e w7 ⟨rfl, hu7, hx7⟩
                  have HI7 := hide (HI6.out.upd hu7 hgo3)
                  have HX7 := hide hx7
                  have HR7 := hide (HV.out rd HX6.out.len HRd.out)
                  clear hu7 hx7 HV hvr HI6 HX6
                  go_wp2
                  go_roundw
                  case rel => exact ⟨n + 1, _, by omega, by go_num, HI7.out, HX7.out, HR7.out⟩
                  case measure => simp [intOf]; omega
                · obtain rfl : n = k := by omega
                  have hRF : readsF ⟨n, drift, reading, margin, bound, AT L1 (t : Int) 1073741824, rd⟩ (m : Int) (t : Int) = (idxF n (m : Int)).map (heardF (fun n => AT L1 (n : Int) 1073741824) (fun i n => cutF (AT L2 ((i : Int) + 2 * (n : Int)) reading) (-reading) reading) t) := by
                    rw [reads_heard (N := n) rfl (m : Int) (t : Int) _ HRd.out]
                    refine List.map_congr_left fun j _ => ?_
                    have hXj := HX.out (j : Int)
                    rw [cutF_in (by have : ckEnd = 1099511627776 := rfl; omega) (by have : ckEnd = 1099511627776 := rfl; omega)]
                    unfold heardF
                    by_cases e : j = t
                    · rw [if_pos (by omega), if_pos e]
                    · rw [if_neg (by omega), if_neg e]
                  have hrr : ∀ z ∈ readsF ⟨n, drift, reading, margin, bound, AT L1 (t : Int) 1073741824, rd⟩ (m : Int) (t : Int), -2305843009213693952 ≤ z ∧ z ≤ 2305843009213693952 := by
                    rw [hRF]
                    intro z hz
                    obtain ⟨j, _, rfl⟩ := List.mem_map.1 hz
                    have h1 := HX.out (j : Int); have h2 := HX.out (t : Int)
                    have h3 := cutF_range (AT L2 ((t : Int) + 2 * (j : Int)) reading) (show -reading ≤ reading by omega)
                    unfold heardF
                    dsimp only
                    split <;> omega
                  have hAVt : avg (readsF ⟨n, drift, reading, margin, bound, AT L1 (t : Int) 1073741824, rd⟩ (m : Int) (t : Int)) = AV t := by rw [hRF, HAV.out]
                  have hXt2 := HX.out (t : Int)
                  have HAve := hide (fun W (x : CkAt W g ⟨n, drift, reading, margin, bound, AT L1 (t : Int) 1073741824, rd⟩) => average_at x (m : Int) (t : Int) rfl n16 ⟨by omega, by omega⟩ hrr)
                  have HRnd := hide (fun W (x : CkAt W g ⟨n, drift, reading, margin, bound, AT L1 (t : Int) 1073741824, rd⟩) => round_at x (m : Int) (t : Int) rfl n16 ⟨by omega, by omega⟩ hrr (by have : ckEnd = 1099511627776 := rfl; show -ckEnd ≤ AT L1 (t : Int) 1073741824 ∧ AT L1 (t : Int) 1073741824 ≤ ckEnd; omega) (by have : ckEnd = 1099511627776 := rfl; show 0 ≤ bound ∧ bound ≤ ckEnd; omega))
                  rw [hAVt] at HAve HRnd
                  clear hRF hrr hAVt HRd hXt2
                  dsimp only at HAve HRnd
                  go_wp2_with fail
                  refine (HAve.out _ HXr.out).mono ?_
                  rintro e w6 ⟨rfl, hb6⟩
                  have HI6 := hide (HI.out.below hb6)
                  have HX6 := hide (HXr.out.below hb6)
                  clear hb6 HI HXr HAve hlr e0 e3
                  go_wp2_with fail
                  refine (HRnd.out _ HX6.out).mono ?_
                  rintro e w7 ⟨rfl, hu7, hx7⟩
                  have HI7 := hide (HI6.out.upd hu7 hgo3)
                  have HX7 := hide hx7
                  clear hu7 hx7 HI6 HX6 HRnd
                  by_cases hav : AV t = cutF (AV t) (-bound) bound
                  · have HAVE := hide hav
                    have hnn : (AV t != cutF (AV t) (-bound) bound) = false := by rw [bne_eq_false_iff_eq]; exact hav
                    clear hav
                    go_wp2_with fail
                    refine (offset_at HX7.out).mono ?_
                    rintro e w8 ⟨rfl, rfl⟩
                    have q0 : w7.cell? ⟨w2.heap.size, 0, none⟩ = some (.int .i64 o0) := by rw [cell_row HI7.out.out]; rfl
                    have q1 : w7.cell? ⟨w2.heap.size, 1, none⟩ = some (.int .i64 o1) := by rw [cell_row HI7.out.out]; rfl
                    have f0 : w7.frozen? ⟨w2.heap.size, 0, none⟩ = false := by unfold World.frozen?; rw [HI7.out.out]; simp
                    have f1 : w7.frozen? ⟨w2.heap.size, 1, none⟩ = false := by unfold World.frozen?; rw [HI7.out.out]; simp
                    have ht01 : t = 0 ∨ t = 1 := by omega
                    rcases ht01 with rfl | rfl
                    · go_wp2
                      go_roundw
                      case rel => exact ⟨1, _, o1, by omega, rfl, HI7.out.set0 _, fun _ => ⟨rfl, HAVE.out⟩, by omega⟩
                      case measure => simp [intOf]
                    · go_wp2
                      go_roundw
                      case rel => exact ⟨2, o0, _, by omega, rfl, HI7.out.set1 _, fun _ => P0.out (by omega), fun _ => ⟨rfl, HAVE.out⟩⟩
                      case measure => simp [intOf]
                  · have hnn : (AV t != cutF (AV t) (-bound) bound) = true := by rw [bne_iff_ne]; exact hav
                    go_wp2
                    go_ret
                    exact ⟨rfl, HBw.out _ HI7.out.bel⟩
            · obtain rfl : t = 2 := by omega
              have hCf := hU.out.below HI.out.bel
              obtain ⟨_, ⟨hlr, e0, e1, e2, e3, e4, e5, e6, e7, e8, e9, e10, e11⟩, _, _⟩ := id hCf
              dsimp only at e0 e1 e2 e3 e4 e5 e6 e7 e8 e9 e10 e11
              clear hCf e0 e1 e2 e4 e5 e6 e7 e8 e9 e10 e11
              have q0 : wr.cell? ⟨w2.heap.size, 0, none⟩ = some (.int .i64 o0) := by rw [cell_row HI.out.out]; rfl
              have q1 : wr.cell? ⟨w2.heap.size, 1, none⟩ = some (.int .i64 o1) := by rw [cell_row HI.out.out]; rfl
              obtain ⟨u0, v0⟩ := P0.out (by omega)
              obtain ⟨u1, v1⟩ := P1.out (by omega)
              rw [← v0] at u0
              rw [← v1] at u1
              have hE : ckEnd = 1099511627776 := rfl
              have hns := idx_some hm1 h0
              have her : ∀ i n : Nat, -reading ≤ cutF (AT L2 ((i : Int) + 2 * (n : Int)) reading) (-reading) reading ∧ cutF (AT L2 ((i : Int) + 2 * (n : Int)) reading) (-reading) reading ≤ reading := fun i n => cutF_range _ (by omega)
              have g01 := near_avg (fun n => AT L1 (n : Int) 1073741824) (fun i n => cutF (AT L2 ((i : Int) + 2 * (n : Int)) reading) (-reading) reading) reading r0 her (idxF k (m : Int)) hns 0 1
              have g10 := near_avg (fun n => AT L1 (n : Int) 1073741824) (fun i n => cutF (AT L2 ((i : Int) + 2 * (n : Int)) reading) (-reading) reading) reading r0 her (idxF k (m : Int)) hns 1 0
              have a0 : avg ((idxF k (m : Int)).map (heardF (fun n => AT L1 (n : Int) 1073741824) (fun i n => cutF (AT L2 ((i : Int) + 2 * (n : Int)) reading) (-reading) reading) 0)) = AV 0 := by rw [HAV.out]
              have a1 : avg ((idxF k (m : Int)).map (heardF (fun n => AT L1 (n : Int) 1073741824) (fun i n => cutF (AT L2 ((i : Int) + 2 * (n : Int)) reading) (-reading) reading) 1)) = AV 1 := by rw [HAV.out]
              rw [a0, a1] at g01 g10
              have n01 := cutF_near (-ckEnd) ckEnd (by omega) g01 (by omega)
              have n10 := cutF_near (-ckEnd) ckEnd (by omega) g10 (by omega)
              have z0 := cutF_range (AT L1 0 1073741824 + AV 0) (show -ckEnd ≤ ckEnd by omega)
              have z1 := cutF_range (AT L1 1 1073741824 + AV 1) (show -ckEnd ≤ ckEnd by omega)
              simp only [Int.natCast_zero, Int.natCast_one] at n01 n10
              rw [← u0] at n01 n10 z0
              rw [← u1] at n01 n10 z1
              have hfar : (if o0 < o1 then o1 - o0 else o0 - o1) ≤ 2 * reading := by split <;> omega
              have HF := hide (fun V => far_at o0 o1 V (by omega) (by omega))
              have hw2 : IntKind.i64.wrap (2 * reading) = 2 * reading := by rw [IntKind.wrap_i64]; omega
              generalize (if o0 < o1 then o1 - o0 else o0 - o1) = fr at *
              have hdec : decide (fr ≤ 2 * reading) = true := decide_eq_true hfar
              clear g01 g10 a0 a1 n01 n10 z0 z1 u0 u1 v0 v1 her hns hfar hE P0 P1
              go_wp2_with fail
              go_quiet ((go_at_call 43; refine Calls.quiet_of_same (HF.out _)))
              go_wp2
              go_ret
              exact ⟨rfl, cdrewN (hU.out.bel.trans (HI.out.bel.mono hU.out.bel.size)) _⟩
  · have hne : (f != 0) = true := by simpa using hf
    go_wp2
    go_ret
    exact ⟨rfl, HU.out.bel⟩
end Go.Proofs.YtdfpeilflinmhaaDoor
