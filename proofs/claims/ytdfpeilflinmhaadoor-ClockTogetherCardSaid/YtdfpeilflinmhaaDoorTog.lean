/-
  ClockTogether's walk.
-/
import Derived.Test.YtdfpeilflinmhaaDoorTogM
namespace Go.Proofs.YtdfpeilflinmhaaDoor
open Go.RowKit Go.Deep
set_option linter.unusedVariables false
set_option linter.unusedSimpArgs false

theorem info_ckp : (Tryd.prog.info? 95).map (fun i => (i.zero, i.size, i.bytes)) = some (some (.pointer none), 1, 8) := by kernel_rfl

set_option maxRecDepth 100000 in
set_option maxHeartbeats 16000000 in
theorem tog_walk (c : Conf) (d : Ad) (L1 L2 : List Int) (A1 A2 : Option Addr) (c1 c2 : Nat) (rounds : Int) (w : World) (hg : Glo w) (h : ConfAt w c d) (hI1 : Ints w A1 L1) (hI2 : Ints w A2 L2) (hl1 : L1.length ≤ 9223372036854775807) (hl2 : L2.length ≤ 9223372036854775807)
    (hal : ∀ W, Below w.heap.size w W → Calls Tryd.prog 41 #[] W fun e w' => e = .returned (.bool true) ∧ Below W.heap.size W w') :
    Calls Tryd.prog 11 #[c.val d, .slice A1 L1.length c1, .slice A2 L2.length c2, .int .i64 rounds] w fun e w' => e = .returned (.bool true) ∧ Below w.heap.size w w' := by
  have hS := CfS.first 28 hg h
  have HC := hide (fun W (H : CfS w W c d) => check_any c d W H.g H.cf)
  have HN := hide (fun W (H : CfS w W c d) => new_at c d W H.g H.cf)
  have HPr := hide (fun W (H : CfS w W c d) (h1 : 0 ≤ c.drift) (h2 : c.drift ≤ 1048576) (h3 : 0 ≤ c.reading) (h4 : c.reading ≤ 1048576) => precision_any c d W h1 h2 h3 h4)
  have HAL := hide (fun W (H : CfS w W c d) => hal W H.bel)
  have HZ := hide (ck_zero (c := c))
  have HI1 := hide (fun W (hb : Below w.heap.size w W) => Ints.of_below hI1 hb (Nat.le_refl _))
  have HI2 := hide (fun W (hb : Below w.heap.size w W) => Ints.of_below hI2 hb (Nat.le_refl _))
  have HNP : Hid (∀ w e w', NewPost c w e w' ↔ Below w.heap.size w w' ∧ ((checkF c ≠ 0 ∧ e = .returned (.tuple #[.pointer none, .int .i64 (checkF c)])) ∨ (checkF c = 0 ∧ ∃ g, w.heap.size ≤ g ∧ e = .returned (.tuple #[.pointer (some ⟨g, 0, none⟩), .int .i64 0]) ∧ CkAt w' g ⟨c.nodes, c.drift, c.reading, c.margin, c.bound, 0, zero16⟩))) := fun _ _ _ => Iff.rfl
  generalize NewPost c = PP at HN HNP
  generalize checkF c = f at HC HZ HNP
  clear hg h hal hI1 hI2
  obtain ⟨oA, oC, pA, pC, wA, wC, qA, qC, lA, lC⟩ := d
  obtain ⟨nodes, owners, drift, reading, margin, bound, rejoin, quota, parts, windows, ports, links⟩ := c
  unfold Conf.val at HC HN HPr ⊢
  unfold Conf.cells at hS
  dsimp only [precF] at hS HC HN HPr HZ HNP ⊢
  obtain ⟨hb, ⟨hl, e0, e1, e2, e3, e4, e5, e6, e7, e8, e9, e10, e11⟩, _, _⟩ := id hS
  dsimp only at e0 e1 e2 e3 e4 e5 e6 e7 e8 e9 e10 e11
  have HS := hide hS
  clear hS hb
  go_enter Tryd.func11, Tryd.ntmps11
  go_wp2_with fail
  refine (HAL.out _ HS.out).mono ?_
  rintro e w1 ⟨rfl, hb1⟩
  have HT := hide (HS.out.below hb1)
  clear hb1 hl e0 e1 e2 e3 e4 e5 e6 e7 e8 e9 e10 e11 HAL HS
  obtain ⟨_, ⟨hl, e0, e1, e2, e3, e4, e5, e6, e7, e8, e9, e10, e11⟩, _, _⟩ := HT.out
  dsimp only at e0 e1 e2 e3 e4 e5 e6 e7 e8 e9 e10 e11
  go_wp2_with fail
  refine (HC.out _ HT.out).mono ?_
  rintro e w2 ⟨rfl, hb2⟩
  have HU := hide (HT.out.below hb2)
  clear hb2 hl e0 e1 e2 e3 e4 e5 e6 e7 e8 e9 e10 e11 HT HC
  by_cases hf : f = 0
  · subst hf
    obtain ⟨N, rfl, n4, n16, ⟨d0, d1⟩, ⟨r0, r1⟩, ⟨m0, m1⟩, ⟨b0, b1⟩⟩ := HZ.out rfl
    obtain ⟨hb, ⟨hl, e0, e1, e2, e3, e4, e5, e6, e7, e8, e9, e10, e11⟩, _, _⟩ := HU.out
    dsimp only at e0 e1 e2 e3 e4 e5 e6 e7 e8 e9 e10 e11
    clear hb HZ
    have hPr := hide (fun W H => HPr.out W H d0 d1 r0 r1)
    clear HPr
    go_wp2_with fail
    refine (hPr.out _ HU.out).mono ?_
    rintro e w3 ⟨rfl, hb3⟩
    have HU3 := hide (HU.out.below hb3)
    clear hb3 hl e0 e1 e2 e3 e4 e5 e6 e7 e8 e9 e10 e11 HU hPr
    go_wp2_with fail
    have HUs := hide (HU3.out.bel.size)
    have hN := HN; have hNP := HNP
    clear HN HNP
    go_loopw [12, 13, 14, 15, 16, 8] (fun l a i s15 s16 s8 wr => ∃ (n : Nat) (G : Nat → Nat), n ≤ N ∧ i = .int .i64 n ∧ a = .int .u16 ((2 : Int) ^ n - 1) ∧ Bg w3 wr n l G ⟨N, drift, reading, margin, bound, 0, zero16⟩) (fun _ _ i _ _ _ _ => N - (intOf i).toNat)
    case atStart => exact ⟨0, fun _ => 0, by omega, rfl, rfl, Below.refl _ _, ⟨rfl, .inl ⟨rfl, rfl⟩⟩, by omega, by omega, by omega⟩
    case round =>
      obtain ⟨n, G, hn, rfl, rfl, hbg⟩ := hrel
      obtain ⟨A0, k0, c0, hl0⟩ := cown_slice hbg.own
      subst hl0
      have HBG := hide hbg
      clear hbg
      by_cases hlt : n < N
      · have hor := or_step n (by omega)
        have hCf := HU3.out.below HBG.out.bel
        obtain ⟨_, ⟨hlr, e0, e1, e2, e3, e4, e5, e6, e7, e8, e9, e10, e11⟩, _, _⟩ := id hCf
        dsimp only at e0 e1 e2 e3 e4 e5 e6 e7 e8 e9 e10 e11
        have HCf := hide hCf
        clear hCf
        go_wp2_with fail
        refine (hN.out _ HCf.out).mono ?_
        intro e w4 hp
        obtain ⟨hb4, hp2⟩ := (hNP.out _ _ _).1 hp
        rcases hp2 with ⟨hx, _⟩ | ⟨_, g, hg4, rfl, hx4⟩
        · exact absurd rfl hx
        have HB4 := hide (HBG.out.below hb4)
        have HX4 := hide hx4
        have HLg := hide (Nat.le_trans HBG.out.bel.size hg4)
        have HNe := hide (show ∀ i, i < n → G i ≠ g from fun i hi e => by have := (HBG.out.clk i hi).lt; omega)
        clear hp hb4 hx4 HCf hlr e0 e1 e2 e3 e4 e5 e6 e7 e8 e9 e10 e11 HBG
        have HBs := hide HB4.out.bel.size
        go_wp2_with (refine wpList_one _ rfl (.tmp 52) (.tmp 54) 122 rfl 95 (.pointer none) 1 8 Tryd.underlying122 info_ckp rfl (by decide) (by decide) w3.heap.size (.slice A0 k0 c0) n _ rfl (HB4.out.below (bal w4 (.cells #[.pointer (some ⟨g, 0, none⟩)] 95))).own w4.heap.size 1 [.pointer (some ⟨g, 0, none⟩)] rfl (heap_alloc_new w4 _) rfl (by simp [Value.oneCell']) (by omega) (by have := HBs.out; simp; omega) ?_; intro v5 w5 hown5 hgr5 _; obtain ⟨A5, k5, c5, hl5⟩ := cown_slice hown5; subst hl5; have HM := hide ((HB4.out.below (bal w4 (.cells #[.pointer (some ⟨g, 0, none⟩)] 95))).more (HX4.out.below (bal w4 _)) HLg.out HNe.out hown5 hgr5); clear hown5 hgr5)
        go_roundw
        case rel => exact ⟨n + 1, _, by omega, by go_num, rfl, HM.out⟩
        case measure => simp [intOf]; omega
      · obtain rfl : n = N := by omega
        have hCf := HU3.out.below HBG.out.bel
        obtain ⟨_, ⟨hlr, e0, e1, e2, e3, e4, e5, e6, e7, e8, e9, e10, e11⟩, _, _⟩ := id hCf
        dsimp only at e0 e1 e2 e3 e4 e5 e6 e7 e8 e9 e10 e11
        clear hCf e1 e2 e3 e4 e5 e6 e7 e8 e9 e10 e11
        obtain ⟨gl, cap, hl2, hT⟩ := HBG.out.row (by omega)
        injection hl2 with x1 x2 x3
        have x2' := x2.symm
        subst x1 x2' x3
        have HT := hide hT
        clear hT HBG
        go_wp2_with fail
        obtain ⟨mm, hmm, hm1, hm2, hm3⟩ := all_bits n4 n16
        rw [hmm]
        clear hmm
        obtain ⟨AT, hAT⟩ : ∃ AT : List Int → Int → Int → Int, AT = fun L z most => atF L z.toNat most := ⟨_, rfl⟩
        have HAT := hide (show ∀ (L : List Int) (A : Option Addr) (cc : Nat) (z most : Int) (V : World), Ints V A L → L.length ≤ 9223372036854775807 → 0 ≤ z → z ≤ 1000 → 0 ≤ most → most ≤ 1099511627776 → Calls Tryd.prog 42 #[.slice A L.length cc, .int .i64 z, .int .i64 most] V fun e w' => e = .returned (.int .i64 (AT L z most)) ∧ w' = V from by
          intro L A cc z most V hI hL h0 h1 h2 h3
          obtain ⟨n, rfl⟩ := Int.eq_ofNat_of_zero_le h0
          rw [hAT]
          exact at_at L A cc n most V hI hL (by omega) ⟨h2, h3⟩)
        clear hAT
        have HL1 := hide hl1; have HL2 := hide hl2; clear hl1 hl2
        have hBw : ∀ V : World, Below w3.heap.size w3 V → Below w.heap.size w V := fun V h => HU3.out.bel.trans (h.mono HU3.out.bel.size)
        have HBw := hide hBw
        clear hBw
        obtain ⟨MU, hMU⟩ : ∃ MU : Nat → Int, MU = fun z : Nat => (z : Int) * (n : Int) := ⟨_, rfl⟩
        have HMw := hide (show ∀ z : Nat, z ≤ 20 → IntKind.i64.wrap ((z : Int) * (n : Int)) = MU z from fun z hz => by have := mul_small hz n16; rw [hMU, IntKind.wrap_i64]; dsimp only; omega)
        have HMr := hide (show ∀ z : Nat, z ≤ 20 → 0 ≤ MU z ∧ MU z ≤ 320 from fun z hz => by rw [hMU]; exact mul_small hz n16)
        clear hMU hlr e0
        go_loopw [17, 18, 19, 20, 21, 22, 23, 24, 25, 26, 8] (fun s17 s18 s19 s20 s21 s22 s23 s24 s25 s26 s8 wr => ∃ (t : Nat) (O : Nat → Int), t ≤ 20 ∧ s17 = .int .i64 t ∧ Tg w3 wr n gl G (fun i => ⟨n, drift, reading, margin, bound, O i, zero16⟩) ∧ (∀ i j, i < n → j < n → O i ≤ O j + 2 * reading) ∧ (∀ i, i < n → -(33554432 * (t : Int)) ≤ O i ∧ O i ≤ 33554432 * (t : Int))) (fun s17 _ _ _ _ _ _ _ _ _ _ _ => 20 - (intOf s17).toNat)
        case atStart => exact ⟨0, fun _ => 0, by omega, rfl, HT.out, fun _ _ _ _ => by dsimp only; omega, fun _ _ => by dsimp only; omega⟩
        case round =>
          obtain ⟨t, O, ht, rfl, hT, hsp, hbd⟩ := hrel
          clear HT
          have HT := hide hT
          clear hT
          by_cases hr1 : (t : Int) < rounds
          · by_cases hr2 : t < 20
            · obtain ⟨dr, hdr⟩ : ∃ dr : Nat → Int, dr = fun i : Nat => cutF (AT L1 ((i : Int) + MU t) 1073741824) (-drift) drift := ⟨_, rfl⟩
              obtain ⟨er, her⟩ : ∃ er : Nat → Nat → Int, er = fun i j : Nat => cutF (AT L2 ((i : Int) + MU j + (t : Int)) 1073741824) (-reading) reading := ⟨_, rfl⟩
              have hdrr : ∀ i, -drift ≤ dr i ∧ dr i ≤ drift := fun i => by rw [hdr]; exact cutF_range _ (by omega)
              have herr : ∀ i j, -reading ≤ er i j ∧ er i j ≤ reading := fun i j => by rw [her]; exact cutF_range _ (by omega)
              have hE : ckEnd = 1099511627776 := rfl
              obtain ⟨M1, M2, M3, M4, M5⟩ := round_math n4 hm1 hm2 (D := drift) (R := reading) (B := bound) (E := ckEnd) (T := 33554432 * (t : Int)) ⟨d0, d1⟩ ⟨r0, r1⟩ ⟨b0, b1⟩ hE O dr er hdrr herr (by omega) hsp hbd
              obtain ⟨O1, hO1⟩ : ∃ O1 : Nat → Int, O1 = fun i => O i + dr i := ⟨_, rfl⟩
              obtain ⟨AV, hAV⟩ : ∃ AV : Nat → Int, AV = fun i => avg ((idxF n (mm : Int)).map (heardF (fun i => O i + dr i) er i)) := ⟨_, rfl⟩
              have HO1r := hide (show ∀ i, i < n → -1073741824 ≤ O1 i ∧ O1 i ≤ 1073741824 from fun i hi => by rw [hO1]; have := hbd i hi; have := hdrr i; dsimp only; omega)
              have HOr := hide (show ∀ i, i < n → -1073741824 ≤ O i ∧ O i ≤ 1073741824 from fun i hi => by have := hbd i hi; omega)
              have HM1 := hide (show ∀ i, i < n → cutF (O i + cutF (AT L1 ((i : Int) + MU t) 1073741824) (-drift) drift) (-ckEnd) ckEnd = O1 i from fun i hi => by have := M1 i hi; rw [hdr] at this; rw [hO1, hdr]; exact this)
              have HM2 := hide (show ∀ i j, i < n → j < n → O1 i ≤ O1 j + 2 * reading + 2 * drift from fun i j hi hj => by rw [hO1]; exact M2 i j hi hj)
              have HM3 := hide (show ∀ i, i < n → -bound ≤ AV i ∧ AV i ≤ bound from fun i hi => by rw [hAV]; exact M3 i hi)
              have HM4 := hide (show ∀ i j, i < n → j < n → O1 i + AV i ≤ O1 j + AV j + 2 * reading from fun i j hi hj => by rw [hO1, hAV]; exact M4 i j hi hj)
              have HM5 := hide (show ∀ i, i < n → -(33554432 * (t : Int) + 33554432) ≤ O1 i + AV i ∧ O1 i + AV i ≤ 33554432 * (t : Int) + 33554432 from fun i hi => by rw [hO1, hAV]; exact M5 i hi)
              have HAV := hide (show ∀ i, AV i = avg ((idxF n (mm : Int)).map (heardF O1 er i)) from fun i => by rw [hO1, hAV])
              have HER := hide her
              have HERR := hide herr
              clear M1 M2 M3 M4 M5 hsp hbd hdr hdrr her herr hO1 hAV
              clear dr
              have hd1 : decide ((t : Int) < rounds) = true := decide_eq_true hr1
              have hd2 : decide ((t : Int) < 20) = true := decide_eq_true (by omega)
              have hMt := HMr.out t (by omega)
              have hMtw := HMw.out t (by omega)
              go_wp2_with fail
              go_loopw [18] (fun s18 wr => ∃ a : Nat, a ≤ n ∧ s18 = .int .i64 a ∧ Tg w3 wr n gl G (fun i => ⟨n, drift, reading, margin, bound, if i < a then O1 i else O i, zero16⟩)) (fun s18 _ => n - (intOf s18).toNat)
              case atStart => exact ⟨0, by omega, rfl, HT.out.congr fun i hi => by rw [if_neg (by omega)]⟩
              case round =>
                obtain ⟨a, ha, rfl, hT⟩ := hrel
                have HTa := hide hT
                clear hT
                by_cases hla : a < n
                · have hwa : IntKind.i64.wrap ((a : Int) + MU t) = (a : Int) + MU t := IntWalk.i64_in _ (by omega)
                  have ca : wr.cell? ⟨gl, a, none⟩ = some (.pointer (some ⟨G a, 0, none⟩)) := HTa.out.cell hla
                  have HT6 := hide (HTa.out.below (W' := { wr with drawn := wr.drawn + 1 }) (cdrewN (Below.refl _ _) 1))
                  have ca6 : ({ wr with drawn := wr.drawn + 1 } : World).cell? ⟨gl, a, none⟩ = some (.pointer (some ⟨G a, 0, none⟩)) := ca
                  go_wp2_with fail
                  refine wp_region_still_tail 12 (by kernel_rfl) (by kernel_rfl) ?_
                  simp only [List.take_succ_cons, List.take_zero, List.drop_succ_cons, List.drop_zero]
                  generalize ({ wr with drawn := wr.drawn + 1 } : World) = w6 at *
                  repeat still_step
                  still_call (HAT.out L1 A1 c1 _ 1073741824 w6 (HI1.out _ (HBw.out _ HT6.out.bel)) HL1.out (by omega) (by omega) (by omega) (by omega))
                  refine wpStill_nil ?_
                  have hxa : CkAt w6 (G a) ⟨n, drift, reading, margin, bound, O a, zero16⟩ := by have := HT6.out.clk a hla; rw [if_neg (Nat.lt_irrefl a)] at this; exact this
                  have hOa := HOr.out a hla
                  have HXa := hide hxa
                  clear hxa
                  go_wp2_with fail
                  refine (drift_at HXa.out _ (by have : ckEnd = 1099511627776 := rfl; show -ckEnd ≤ O a ∧ O a ≤ ckEnd; omega) (by have : ckEnd = 1099511627776 := rfl; show 0 ≤ drift ∧ drift ≤ ckEnd; omega)).mono ?_
                  rintro e w7 ⟨rfl, hu7, hx7⟩
                  dsimp only at hx7
                  rw [HM1.out a hla] at hx7
                  have HT7 := hide (HT6.out.upd (ks' := fun i => ⟨n, drift, reading, margin, bound, if i < a + 1 then O1 i else O i, zero16⟩) hla hu7 hx7 (fun i hi => by
                    by_cases h1 : i = a
                    · subst h1; rw [if_pos rfl, if_pos (by omega)]
                    · rw [if_neg h1]
                      by_cases h2 : i < a
                      · rw [if_pos h2, if_pos (by omega)]
                      · rw [if_neg h2, if_neg (by omega)]))
                  clear hu7 hx7 HT6 HXa HTa ca ca6
                  go_wp2
                  go_roundw
                  case rel => exact ⟨a + 1, by omega, by go_num, HT7.out⟩
                  case measure => simp [intOf]; omega
                · obtain rfl : a = n := by omega
                  have HT1 := hide (HTa.out.congr (ks' := fun i => ⟨a, drift, reading, margin, bound, O1 i, zero16⟩) fun i hi => by rw [if_pos hi])
                  clear HTa HT
                  obtain ⟨VV, hVV⟩ : ∃ VV : Nat → Nat → Int, VV = fun i j : Nat => cutF (O1 j) (-ckEnd) ckEnd - O1 i + er i j := ⟨_, rfl⟩
                  have HVV := hide (show ∀ i j : Nat, i < a → j < a → VV i j = O1 j - O1 i + er i j from fun i j hi hj => by rw [hVV]; dsimp only; have := HO1r.out j hj; rw [cutF_in (by have : ckEnd = 1099511627776 := rfl; omega) (by have : ckEnd = 1099511627776 := rfl; omega)])
                  have HRd := hide (show ∀ (i j : Nat) (rd : List (Int × Bool)) (V : World), i < a → CkAt V (G i) ⟨a, drift, reading, margin, bound, O1 i, rd⟩ → Calls Tryd.prog 40 #[.pointer (some ⟨G i, 0, none⟩), .int .i64 (O1 j), .int .i64 (AT L2 ((i : Int) + MU j + (t : Int)) 1073741824)] V fun e w' => e = .returned (.int .i64 (VV i j)) ∧ ∃ m, w' = V.drewN m from by
                    intro i j rd V hi hx
                    have h1 := HO1r.out i hi
                    have h2 := read_at hx (O1 j) (AT L2 ((i : Int) + MU j + (t : Int)) 1073741824) (by have : ckEnd = 1099511627776 := rfl; show -ckEnd ≤ O1 i ∧ O1 i ≤ ckEnd; omega) (by have : ckEnd = 1099511627776 := rfl; show 0 ≤ reading ∧ reading ≤ ckEnd; omega)
                    have h3 := HER.out
                    rw [hVV, h3]
                    exact h2)
                  clear hVV
                  have HVr := hide (show ∀ i j : Nat, i < a → j < a → -(2 * reading + 2 * drift + reading) ≤ VV i j ∧ VV i j ≤ 2 * reading + 2 * drift + reading from fun i j hi hj => by
                    rw [HVV.out i j hi hj]
                    have h1 := HM2.out i j hi hj; have h2 := HM2.out j i hj hi; have h3 := HERR.out i j
                    omega)
                  go_wp2_with fail
                  go_loopw [19, 20, 21, 8] (fun s19 s20 s21 s8 wr => ∃ (i : Nat) (RD : Nat → List (Int × Bool)), i ≤ a ∧ s19 = .int .i64 i ∧ Tg w3 wr a gl G (fun i => ⟨a, drift, reading, margin, bound, O1 i, RD i⟩) ∧ ∀ k, k < i → ∀ j, j < a → (RD k).getD j default = (VV k j, true)) (fun s19 _ _ _ _ => a - (intOf s19).toNat)
                  case atStart => exact ⟨0, fun _ => zero16, by omega, rfl, HT1.out, by omega⟩
                  case round =>
                    obtain ⟨i, RD, hi, rfl, hT, hRD⟩ := hrel
                    have HTi := hide hT; have HRD := hide hRD
                    clear hT hRD HT1
                    by_cases hli : i < a
                    · go_wp2_with fail
                      go_loopw [20, 21, 8] (fun s20 s21 s8 wr => ∃ (j : Nat) (RD : Nat → List (Int × Bool)), j ≤ a ∧ s20 = .int .i64 j ∧ Tg w3 wr a gl G (fun i => ⟨a, drift, reading, margin, bound, O1 i, RD i⟩) ∧ (∀ k, k < i → ∀ j, j < a → (RD k).getD j default = (VV k j, true)) ∧ ∀ k, k < j → (RD i).getD k default = (VV i k, true)) (fun s20 _ _ _ => a - (intOf s20).toNat)
                      case atStart => exact ⟨0, RD, by omega, rfl, HTi.out, HRD.out, by omega⟩
                      case round =>
                        obtain ⟨j, RD, hj, rfl, hT, hRD, hRi⟩ := hrel
                        clear HTi HRD
                        have HTj := hide hT; have HRD := hide hRD; have HRi := hide hRi
                        clear hT hRD hRi
                        by_cases hlj : j < a
                        · have hMj := HMr.out j (by omega)
                          have hMjw := HMw.out j (by omega)
                          have hwj : IntKind.i64.wrap ((i : Int) + MU j) = (i : Int) + MU j := IntWalk.i64_in _ (by omega)
                          have hwj2 : IntKind.i64.wrap ((i : Int) + MU j + (t : Int)) = (i : Int) + MU j + (t : Int) := IntWalk.i64_in _ (by omega)
                          have ci : wr.cell? ⟨gl, i, none⟩ = some (.pointer (some ⟨G i, 0, none⟩)) := HTj.out.cell hli
                          have cj : wr.cell? ⟨gl, j, none⟩ = some (.pointer (some ⟨G j, 0, none⟩)) := HTj.out.cell hlj
                          have HTd := hide (fun m => HTj.out.below (cdrewN (Below.refl wr.heap.size wr) m))
                          have HOF := hide (show ∀ (k : Nat) (V : World), k < a → Tg w3 V a gl G (fun i => ⟨a, drift, reading, margin, bound, O1 i, RD i⟩) → Calls Tryd.prog 32 #[.pointer (some ⟨G k, 0, none⟩)] V fun e w' => e = .returned (.int .i64 (O1 k)) ∧ w' = V from fun k V hk hT => (offset_at (hT.clk k hk)).mono (by rintro e w' ⟨h1, h2⟩; exact ⟨h1, h2.symm⟩))
                          go_wp2_with fail
                          go_quiet ((first
                            | (go_at_call 42; refine Calls.quiet_of_same (HAT.out _ _ _ _ _ _ (HI2.out _ (HBw.out _ (HTd.out _).bel)) HL2.out (by omega) (by omega) (by omega) (by omega)))
                            | (go_at_call 32; refine Calls.quiet_of_same (HOF.out _ _ (by omega) (HTd.out _)))
                            | (go_at_call 40; refine Calls.quiet_of (HRd.out _ _ _ _ hli ((HTd.out _).clk i hli)))))
                          have HT6 := hide (HTj.out.below (cdrewN (Below.refl wr.heap.size wr) nq))
                          clear HTd HTj ci cj HOF
                          generalize wr.drewN nq = w6 at *
                          have ci6 : w6.cell? ⟨gl, i, none⟩ = some (.pointer (some ⟨G i, 0, none⟩)) := HT6.out.cell hli
                          have hvr := HVr.out i j hli hlj
                          go_wp2_with fail
                          refine (hear_at (HT6.out.clk i hli) j _ (by show (a : Int) ≤ 16; omega) (by show (j : Int) < a; omega) (by omega)).mono ?_
                          rintro e w7 ⟨rfl, hu7, hx7⟩
                          dsimp only at hx7
                          have hE8 : ∃ RE : Nat → List (Int × Bool), Tg w3 w7 a gl G (fun i => ⟨a, drift, reading, margin, bound, O1 i, RE i⟩) ∧ (∀ k, k < i → ∀ j, j < a → (RE k).getD j default = (VV k j, true)) ∧ ∀ k, k < j + 1 → (RE i).getD k default = (VV i k, true) := by
                            refine ⟨fun k => if k = i then (RD i).set j (VV i j, true) else RD k, HT6.out.upd hli hu7 hx7 (fun k hk => ?_), fun k hk j' hj' => ?_, fun k hk => ?_⟩
                            · dsimp only
                              by_cases h1 : k = i
                              · subst h1; rw [if_pos rfl, if_pos rfl]
                              · rw [if_neg h1, if_neg h1]
                            · dsimp only
                              rw [if_neg (by omega)]
                              exact HRD.out k hk j' hj'
                            · dsimp only
                              rw [if_pos rfl]
                              exact heard_set (V := fun k => VV i k) rfl (HT6.out.clk i hli).len (by omega) HRi.out k hk
                          obtain ⟨RE, hT8, hRD8, hRi8⟩ := hE8
                          have HT8 := hide hT8; have HRD8 := hide hRD8; have HRi8 := hide hRi8
                          clear hu7 hx7 hT8 hRD8 hRi8 HT6 HRD HRi ci6
                          have ci7 : w7.cell? ⟨gl, i, none⟩ = some (.pointer (some ⟨G i, 0, none⟩)) := HT8.out.cell hli
                          have cj7 : w7.cell? ⟨gl, j, none⟩ = some (.pointer (some ⟨G j, 0, none⟩)) := HT8.out.cell hlj
                          have HTd := hide (fun m => HT8.out.below (cdrewN (Below.refl w7.heap.size w7) m))
                          have HOF := hide (show ∀ (k : Nat) (V : World), k < a → Tg w3 V a gl G (fun i => ⟨a, drift, reading, margin, bound, O1 i, RE i⟩) → Calls Tryd.prog 32 #[.pointer (some ⟨G k, 0, none⟩)] V fun e w' => e = .returned (.int .i64 (O1 k)) ∧ w' = V from fun k V hk hT => (offset_at (hT.clk k hk)).mono (by rintro e w' ⟨h1, h2⟩; exact ⟨h1, h2.symm⟩))
                          have hoi := HO1r.out i hli; have hoj := HO1r.out j hlj
                          have hm1 := HM2.out i j hli hlj; have hm2' := HM2.out j i hlj hli
                          obtain ⟨FR, hFR⟩ : ∃ FR, FR = (if O1 i < O1 j then O1 j - O1 i else O1 i - O1 j) := ⟨_, rfl⟩
                          have HFA := hide (show ∀ V : World, Calls Tryd.prog 43 #[.int .i64 (O1 i), .int .i64 (O1 j)] V fun e w' => e = .returned (.int .i64 FR) ∧ w' = V from fun V => by rw [hFR]; exact far_at (O1 i) (O1 j) V (by omega) (by omega))
                          have hgt : decide (2 * (drift + reading) + 1 < FR) = false := decide_eq_false (by rw [hFR]; split <;> omega)
                          have HFT := hide (show ∀ V : World, Tg w3 V a gl G (fun i => ⟨a, drift, reading, margin, bound, O1 i, RE i⟩) → Calls Tryd.prog 39 #[.pointer (some ⟨G i, 0, none⟩), .int .i64 (VV i j)] V fun e w' => e = .returned (.bool true) ∧ w' = V from fun V hT => by
                            have h1 := fits_at (hT.clk i hli) (VV i j) (by have : ckEnd = 1099511627776 := rfl; show 0 ≤ margin ∧ margin ≤ ckEnd; omega)
                            have h2 : (decide (-margin ≤ VV i j) && decide (VV i j ≤ margin)) = true := by rw [Bool.and_eq_true, decide_eq_true_eq, decide_eq_true_eq]; omega
                            dsimp only at h1
                            rw [h2] at h1
                            exact h1)
                          clear hFR hm1 hm2' hoi hoj
                          go_wp2_with fail
                          go_quiet ((first
                            | (go_at_call 32; refine Calls.quiet_of_same (HOF.out _ _ (by omega) (HTd.out _)))
                            | (go_at_call 43; refine Calls.quiet_of_same (HFA.out _))
                            | (go_at_call 39; refine Calls.quiet_of_same (HFT.out _ (HTd.out _)))))
                          have HT9 := hide (HT8.out.below (cdrewN (Below.refl w7.heap.size w7) nq))
                          clear HTd HT8 ci7 cj7 HOF HFA HFT
                          generalize w7.drewN nq = w9 at *
                          go_wp2
                          go_roundw
                          case rel => exact ⟨j + 1, RE, by omega, by go_num, HT9.out, HRD8.out, HRi8.out⟩
                          case measure => simp [intOf]; omega
                        · obtain rfl : a = j := by omega
                          go_wp2
                          go_roundw
                          case rel => exact ⟨i + 1, RD, by omega, by go_num, HTj.out, fun k hk j' hj' => by
                            by_cases h1 : k = i
                            · subst h1; exact HRi.out j' hj'
                            · exact HRD.out k (by omega) j' hj'⟩
                          case measure => simp [intOf]; omega
                    · obtain rfl : a = i := by omega
                      have HRF := hide (show ∀ k, k < a → readsF ⟨a, drift, reading, margin, bound, O1 k, RD k⟩ (mm : Int) (k : Int) = (idxF a (mm : Int)).map (heardF O1 er k) from fun k hk => by
                        rw [reads_heard (N := a) rfl (mm : Int) (k : Int) (fun j => VV k j) (HRD.out k hk)]
                        refine List.map_congr_left fun j hj => ?_
                        have hja : j < a := by
                          unfold idxF at hj
                          simpa using (List.mem_filter.1 hj).1
                        unfold heardF
                        by_cases e : j = k
                        · rw [if_pos (by omega), if_pos e]
                        · rw [if_neg (by omega), if_neg e]
                          exact HVV.out k j hk hja)
                      have HRr := hide (show ∀ k, k < a → ∀ z ∈ readsF ⟨a, drift, reading, margin, bound, O1 k, RD k⟩ (mm : Int) (k : Int), -2305843009213693952 ≤ z ∧ z ≤ 2305843009213693952 from fun k hk z hz => by
                        rw [HRF.out k hk] at hz
                        obtain ⟨j, hj, rfl⟩ := List.mem_map.1 hz
                        have hja : j < a := by
                          unfold idxF at hj
                          simpa using (List.mem_filter.1 hj).1
                        have h1 := HO1r.out j hja; have h2 := HO1r.out k hk; have h3 := HERR.out k j
                        unfold heardF
                        split <;> omega)
                      obtain ⟨VB, hVB⟩ : ∃ VB : Nat → Bool, VB = fun k : Nat => decide (0 < (readsF ⟨a, drift, reading, margin, bound, O1 k, RD k⟩ (mm : Int) (k : Int)).length) := ⟨_, rfl⟩
                      have HAve := hide (show ∀ (k : Nat) (V : World), k < a → CkAt V (G k) ⟨a, drift, reading, margin, bound, O1 k, RD k⟩ → Calls Tryd.prog 35 #[.pointer (some ⟨G k, 0, none⟩), .int .u16 (mm : Int), .int .i64 (k : Int)] V fun e w' => e = .returned (.tuple #[.int .i64 (AV k), .bool (VB k)]) ∧ Below V.heap.size V w' from fun k V hk hx => by
                        have h1 := average_at hx (mm : Int) (k : Int) rfl n16 ⟨by omega, by omega⟩ (HRr.out k hk)
                        rw [hVB, HAV.out k, ← HRF.out k hk]
                        exact h1)
                      clear hVB
                      have HRnd := hide (show ∀ (k : Nat) (V : World), k < a → CkAt V (G k) ⟨a, drift, reading, margin, bound, O1 k, RD k⟩ → Calls Tryd.prog 36 #[.pointer (some ⟨G k, 0, none⟩), .int .u16 (mm : Int), .int .i64 (k : Int)] V fun e w' => e = .returned (.tuple #[.int .i64 (AV k), .int .i64 0]) ∧ Upd (G k) V w' ∧ CkAt w' (G k) ⟨a, drift, reading, margin, bound, O1 k + AV k, zero16⟩ from fun k V hk hx => by
                        have h5 := HO1r.out k hk
                        have h1 := round_at hx (mm : Int) (k : Int) rfl n16 ⟨by omega, by omega⟩ (HRr.out k hk) (by have : ckEnd = 1099511627776 := rfl; show -ckEnd ≤ O1 k ∧ O1 k ≤ ckEnd; omega) (by have : ckEnd = 1099511627776 := rfl; show 0 ≤ bound ∧ bound ≤ ckEnd; omega)
                        have h2 := HM3.out k hk; have h3 := HM5.out k hk
                        rw [HRF.out k hk, ← HAV.out k] at h1
                        dsimp only at h1
                        rw [cutF_in h2.1 h2.2, cutF_in (by have : ckEnd = 1099511627776 := rfl; omega) (by have : ckEnd = 1099511627776 := rfl; omega)] at h1
                        exact h1)
                      have HT1 := hide (HTi.out.congr (ks' := fun i => if i < 0 then ⟨a, drift, reading, margin, bound, O1 i + AV i, zero16⟩ else ⟨a, drift, reading, margin, bound, O1 i, RD i⟩) fun i hi => by rw [if_neg (by omega)])
                      clear HTi HRF HRr HRD HVV HRd HVr HER HERR
                      go_wp2_with fail
                      go_loopw [22, 23, 24, 25, 26, 8] (fun s22 s23 s24 s25 s26 s8 wr => ∃ k : Nat, k ≤ a ∧ s22 = .int .i64 k ∧ Tg w3 wr a gl G (fun i => if i < k then ⟨a, drift, reading, margin, bound, O1 i + AV i, zero16⟩ else ⟨a, drift, reading, margin, bound, O1 i, RD i⟩)) (fun s22 _ _ _ _ _ _ => a - (intOf s22).toNat)
                      case atStart => exact ⟨0, by omega, rfl, HT1.out⟩
                      case round =>
                        obtain ⟨k, hk, rfl, hT⟩ := hrel
                        have HTk := hide hT
                        clear hT HT1
                        by_cases hlk : k < a
                        · have ck : wr.cell? ⟨gl, k, none⟩ = some (.pointer (some ⟨G k, 0, none⟩)) := HTk.out.cell hlk
                          have hxk : CkAt wr (G k) ⟨a, drift, reading, margin, bound, O1 k, RD k⟩ := by have := HTk.out.clk k hlk; rw [if_neg (Nat.lt_irrefl k)] at this; exact this
                          have HXk := hide hxk
                          clear hxk
                          have hnn : (AV k != AV k) = false := by simp
                          go_wp2_with fail
                          refine (HAve.out k _ hlk HXk.out).mono ?_
                          rintro e w6 ⟨rfl, hb6⟩
                          have HT6 := hide (HTk.out.below hb6)
                          have HX6 := hide (HXk.out.below hb6)
                          clear hb6 HTk HXk ck
                          have ck6 : w6.cell? ⟨gl, k, none⟩ = some (.pointer (some ⟨G k, 0, none⟩)) := HT6.out.cell hlk
                          go_wp2_with fail
                          refine (HRnd.out k _ hlk HX6.out).mono ?_
                          rintro e w7 ⟨rfl, hu7, hx7⟩
                          have HT7 := hide (HT6.out.upd (ks' := fun i => if i < k + 1 then ⟨a, drift, reading, margin, bound, O1 i + AV i, zero16⟩ else ⟨a, drift, reading, margin, bound, O1 i, RD i⟩) hlk hu7 hx7 (fun i hi => by
                            by_cases h1 : i = k
                            · subst h1; rw [if_pos rfl, if_pos (by omega)]
                            · rw [if_neg h1]
                              by_cases h2 : i < k
                              · rw [if_pos h2, if_pos (by omega)]
                              · rw [if_neg h2, if_neg (by omega)]))
                          clear hu7 hx7 HT6 HX6 ck6
                          go_wp2
                          go_roundw
                          case rel => exact ⟨k + 1, by omega, by go_num, HT7.out⟩
                          case measure => simp [intOf]; omega
                        · obtain rfl : a = k := by omega
                          have HT2 := hide (HTk.out.congr (ks' := fun i => ⟨a, drift, reading, margin, bound, O1 i + AV i, zero16⟩) fun i hi => by rw [if_pos hi])
                          clear HTk
                          go_wp2
                          go_roundw
                          case rel => exact ⟨t + 1, fun i => O1 i + AV i, by omega, by go_num, HT2.out, fun i j hi hj => HM4.out i j hi hj, fun i hi => by have := HM5.out i hi; dsimp only; omega⟩
                          case measure => simp [intOf]; omega
            · go_wp2
              go_ret
              exact ⟨rfl, HBw.out _ HT.out.bel⟩
          · go_wp2
            go_ret
            exact ⟨rfl, HBw.out _ HT.out.bel⟩
  · have hne : (f != 0) = true := by simpa using hf
    go_wp2
    go_ret
    exact ⟨rfl, HU.out.bel⟩
end Go.Proofs.YtdfpeilflinmhaaDoor
