/-
  The walk of ConfigReaches.
-/
import Derived.Test.YthngjegimecaaaaDoorRmD
import Derived.Test.YthngjegimecaaaaDoorRmE
import Derived.Test.YthngjegimecaaaaDoorTwD
import Derived.Test.YthngjegimecaaaaDoorRckJ
import Derived.Test.YthngjegimecaaaaDoorSize
namespace Go.Proofs.YthngjegimecaaaaDoor
open Go.RowKit Go.Deep
set_option linter.unusedVariables false
set_option linter.unusedSimpArgs false

/-- the configuration, and another one that is alike in memory of its own -/
structure RcS (w W : World) (c : Conf) (B : Nat) (d e : Ad) : Prop where
  bel : Below w.heap.size w W
  x : Boxed W w.heap.size c d
  g : Glo W
  cf : ConfAt W c d
  y : Boxed W B c e
  cy : ConfAt W c e
theorem RcS.below {w W W' : World} {c : Conf} {B : Nat} {d e : Ad} (h : RcS w W c B d e) (hb : Below W.heap.size W W') : RcS w W' c B d e :=
  ⟨h.bel.trans (hb.mono h.bel.size), h.x.below hb (Nat.le_refl _), h.g.below hb (Nat.le_refl _), h.cf.of_below hb (Nat.le_refl _), h.y.below hb (Nat.le_refl _), h.cy.of_below hb (Nat.le_refl _)⟩
/-- the configuration of nothing -/
def zeroC : Conf := ⟨0, [], 0, 0, 0, 0, 0, 0, [], [], [], []⟩
def zeroA : Ad := ⟨none, 0, none, 0, none, 0, none, 0, none, 0⟩
theorem zero_at (w : World) : ConfAt w zeroC zeroA :=
  have h0 : I64 0 := ⟨by decide, by decide⟩
  ⟨h0, h0, h0, h0, h0, h0, h0, ⟨fun z hz => (by cases hz), .inl rfl⟩, ⟨fun z hz => (by cases hz), .inl rfl⟩, .inl rfl, ⟨fun z hz => (by cases hz), .inl rfl⟩, ⟨fun z hz => (by cases hz), .inl rfl⟩, ⟨Nat.le_refl _, Nat.zero_le _⟩, ⟨Nat.le_refl _, Nat.zero_le _⟩, ⟨Nat.le_refl _, Nat.zero_le _⟩, ⟨Nat.le_refl _, Nat.zero_le _⟩, ⟨Nat.le_refl _, Nat.zero_le _⟩⟩
theorem zero_check : checkF zeroC = 21 := by decide

set_option maxRecDepth 100000 in
set_option maxHeartbeats 8000000 in
theorem reaches_walk (c : Conf) (d : Ad) (w : World) (hg : Glo w) (h : ConfAt w c d) (hB : Borne c) (hSm : great c = false → Small c) :
    Calls Tryd.prog 3 #[c.val d] w fun e w' => e = .returned (.bool true) ∧ Below w.heap.size w w' := by
  have hS := CfS.first 28 hg h
  have HG := hide hg
  have HGr := hide (fun W (H : CfS w W c d) => great_any c d W H.cf hB)
  clear hB
  cases hgr : great c with
  | true =>
    rw [hgr] at HGr
    clear hSm hg h hgr HG
    obtain ⟨oA, oC, pA, pC, wA, wC, qA, qC, lA, lC⟩ := d
    unfold Conf.val at HGr ⊢
    unfold Conf.cells at hS
    dsimp only at hS HGr ⊢
    obtain ⟨hb, ⟨hl, e0, e1, e2, e3, e4, e5, e6, e7, e8, e9, e10, e11⟩, hg, hc⟩ := id hS
    dsimp only at e0 e1 e2 e3 e4 e5 e6 e7 e8 e9 e10 e11
    have HS := hide hS
    clear hS hg hc
    go_enter Tryd.func3, Tryd.ntmps3
    go_wp2_with (go_at_call 4; refine (HGr.out _ HS.out).mono ?_; rintro e w1 ⟨rfl, hb1⟩; have HT := hide (HS.out.below hb1); clear hb1)
    go_ret
    exact ⟨rfl, HT.out.bel⟩
  | false =>
    rw [hgr] at HGr
    have hmd := modest_of hgr
    have hp100 := hmd.parts
    have HTw := hide (fun W (H : CfS w W c d) => twin_any c d W H.cf (hSm hgr))
    have HRr := hide (fun B e W (H : RcS w W c B d e) => rreach_at c d W H.g H.cf (by omega) hmd.links hmd.dests)
    have HRa := hide (fun B e W (H : RcS w W c B d e) => reach_at c e W H.g H.cy (by omega) hmd.links hmd.dests)
    have HSa := hide (fun B e W (H : RcS w W c B d e) => rsame_true c e d W H.cy H.cf)
    have HZ := hide (fun W (H : Glo W) => check_any zeroC zeroA W H (zero_at W))
    rw [zero_check] at HZ
    clear hSm hg h hgr hmd
    obtain ⟨oA, oC, pA, pC, wA, wC, qA, qC, lA, lC⟩ := d
    unfold Conf.val at HGr HTw HRr HRa HSa HZ ⊢
    unfold Conf.cells at hS
    dsimp only [zeroC, zeroA, List.length_nil] at hS HGr HTw HRr HRa HSa HZ ⊢
    obtain ⟨hb, ⟨hl, e0, e1, e2, e3, e4, e5, e6, e7, e8, e9, e10, e11⟩, hg, hc⟩ := id hS
    dsimp only at e0 e1 e2 e3 e4 e5 e6 e7 e8 e9 e10 e11
    have HS := hide hS
    clear hS hg hc hb
    go_enter Tryd.func3, Tryd.ntmps3
    go_upto_region 3 with (go_at_call 4; refine (HGr.out _ HS.out).mono ?_; rintro e w1 ⟨rfl, hb1⟩; have HT := hide (HS.out.below hb1); clear hb1 hl e0 e1 e2 e3 e4 e5 e6 e7 e8 e9 e10 e11; obtain ⟨_, ⟨hl, e0, e1, e2, e3, e4, e5, e6, e7, e8, e9, e10, e11⟩, _, _⟩ := HT.out; dsimp only at e0 e1 e2 e3 e4 e5 e6 e7 e8 e9 e10 e11)
    go_upto_region 4 with (go_at_call 5; refine (HTw.out _ HT.out).mono ?_; intro e w4 hp; obtain ⟨⟨⟨oB, oF, pB, pF, wB, wF, qB, qF, lB, lF⟩, b0, b1, b2, gO, gP, gQ, vs, xs, rfl, hT, hlow, h01⟩, hb4⟩ := hp; have HT4 := hide (HT.out.below hb4); have hcy := Twn.conf hT; have HCY := hide hcy; unfold Conf.val; dsimp only; clear hT hlow h01 hb4 hcy hl e0 e1 e2 e3 e4 e5 e6 e7 e8 e9 e10 e11; obtain ⟨_, ⟨hl, e0, e1, e2, e3, e4, e5, e6, e7, e8, e9, e10, e11⟩, _, _⟩ := HT4.out; dsimp only at e0 e1 e2 e3 e4 e5 e6 e7 e8 e9 e10 e11)
    have HT0 : Hid (RcS w (w4.alloc (.cells #[.int .i64 c.nodes, .slice oB c.owners.length oF, .int .i64 c.drift, .int .i64 c.reading, .int .i64 c.margin, .int .i64 c.bound, .int .i64 c.rejoin, .int .i64 c.quota, .slice pB c.parts.length pF, .slice wB c.windows.length wF, .slice qB c.ports.length qF, .slice lB c.links.length lF] 28)) c w4.heap.size ⟨oA, oC, pA, pC, wA, wC, qA, qC, lA, lC⟩ ⟨oB, oF, pB, pF, wB, wF, qB, qF, lB, lF⟩) := by
      have ha := (Below.refl w4.heap.size w4).alloc (Nat.le_refl _) (.cells #[.int .i64 c.nodes, .slice oB c.owners.length oF, .int .i64 c.drift, .int .i64 c.reading, .int .i64 c.margin, .int .i64 c.bound, .int .i64 c.rejoin, .int .i64 c.quota, .slice pB c.parts.length pF, .slice wB c.windows.length wF, .slice qB c.ports.length qF, .slice lB c.links.length lF] 28)
      have h1 := HT4.out.below ha
      exact ⟨h1.bel, h1.x, h1.g, h1.cf, boxed_new w4 c ⟨oB, oF, pB, pF, wB, wF, qB, qF, lB, lF⟩ 28, HCY.out.of_below ha (Nat.le_refl _)⟩
    clear HT4 HCY HT HS HGr HTw hl e0 e1 e2 e3 e4 e5 e6 e7 e8 e9 e10 e11
    generalize w4.alloc (.cells #[.int .i64 c.nodes, .slice oB c.owners.length oF, .int .i64 c.drift, .int .i64 c.reading, .int .i64 c.margin, .int .i64 c.bound, .int .i64 c.rejoin, .int .i64 c.quota, .slice pB c.parts.length pF, .slice wB c.windows.length wF, .slice qB c.ports.length qF, .slice lB c.links.length lF] 28) = w5 at HT0 ⊢
    generalize w4.heap.size = B at HT0 ⊢
    replace HRr := hide (HRr.out B ⟨oB, oF, pB, pF, wB, wF, qB, qF, lB, lF⟩)
    replace HRa := hide (HRa.out B ⟨oB, oF, pB, pF, wB, wF, qB, qF, lB, lF⟩)
    replace HSa := hide (HSa.out B ⟨oB, oF, pB, pF, wB, wF, qB, qF, lB, lF⟩)
    dsimp only at HRr HRa HSa
    obtain ⟨_, ⟨hl, e0, e1, e2, e3, e4, e5, e6, e7, e8, e9, e10, e11⟩, _, _, ⟨hm, g0, g1, g2, g3, g4, g5, g6, g7, g8, g9, g10, g11⟩, _⟩ := HT0.out
    dsimp only at e0 e1 e2 e3 e4 e5 e6 e7 e8 e9 e10 e11 g0 g1 g2 g3 g4 g5 g6 g7 g8 g9 g10 g11
    go_wp2_with fail
    refine (HRr.out _ HT0.out).mono ?_
    rintro e w6 ⟨q0, bs0, rfl, hr0, hg0, hb6⟩
    have HT6 := hide (HT0.out.below hb6); have HM6 := hide hr0.mts
    clear hb6 hr0 HT0 HRr e0 e1 e2 e3 e4 e5 e6 e7 e8 e9 e10 e11 g0 g1 g2 g3 g4 g5 g6 g7 g8 g9 g10 g11 hl hm
    obtain ⟨_, ⟨hl, e0, e1, e2, e3, e4, e5, e6, e7, e8, e9, e10, e11⟩, _, _, ⟨hm, g0, g1, g2, g3, g4, g5, g6, g7, g8, g9, g10, g11⟩, _⟩ := HT6.out
    dsimp only at e0 e1 e2 e3 e4 e5 e6 e7 e8 e9 e10 e11 g0 g1 g2 g3 g4 g5 g6 g7 g8 g9 g10 g11
    go_wp2_with fail
    refine (HRa.out _ HT6.out).mono ?_
    rintro e w7 ⟨qa, bsa, rfl, hra, hga, hb7⟩
    have HT7 := hide (HT6.out.below hb7); have HM7 := hide (HM6.out.below hb7); have HA7 := hide hra.mts
    have HLa := hide (fun x hx => Nat.lt_of_lt_of_le (HM6.out.lt x hx) hga)
    have HL0 := hide (Nat.lt_of_lt_of_le (Array.getElem?_eq_some_iff.1 HM6.out.blk).1 hga)
    have HWa := hide (Nat.le_trans HT6.out.bel.size hga)
    clear hb7 hra HT6 HM6 e0 e1 e2 e3 e4 e5 e6 e7 e8 e9 e10 e11 g0 g1 g2 g3 g4 g5 g6 g7 g8 g9 g10 g11 hl hm
    obtain ⟨_, ⟨hl, e0, e1, e2, e3, e4, e5, e6, e7, e8, e9, e10, e11⟩, _, _, ⟨hm, g0, g1, g2, g3, g4, g5, g6, g7, g8, g9, g10, g11⟩, _⟩ := HT7.out
    dsimp only at e0 e1 e2 e3 e4 e5 e6 e7 e8 e9 e10 e11 g0 g1 g2 g3 g4 g5 g6 g7 g8 g9 g10 g11
    go_wp2_with fail
    refine (HRa.out _ HT7.out).mono ?_
    rintro e w8 ⟨qb, bsb, rfl, hrb, hgb, hb8⟩
    have HT8 := hide (HT7.out.below hb8); have HM8 := hide (HM7.out.below hb8); have HA8 := hide (HA7.out.below hb8); have HB8 := hide hrb.mts
    have HSep : Hid (∀ x ∈ bsa, w.heap.size ≤ x ∧ q0 ≠ x ∧ (∀ y ∈ bs0, y ≠ x) ∧ qa ≠ x ∧ qb ≠ x ∧ (∀ y ∈ bsb, y ≠ x)) := fun x hx => by
      have h1 := HA7.out.low x hx
      have h2 := HA7.out.lt x hx
      have h3 := HL0.out
      have h4 := HWa.out
      exact ⟨by omega, by omega, fun y hy => (by have := HLa.out y hy; omega), by omega, by omega, fun y hy => (by have := HB8.out.low y hy; omega)⟩
    clear hb8 hrb HT7 HM7 HA7 HRa HLa HL0 HWa hg0 hga hgb e0 e1 e2 e3 e4 e5 e6 e7 e8 e9 e10 e11 g0 g1 g2 g3 g4 g5 g6 g7 g8 g9 g10 g11 hl hm
    generalize reachX (nextF c c.links) c.parts.length = X at HM8 HA8 HB8
    obtain ⟨_, ⟨hl, e0, e1, e2, e3, e4, e5, e6, e7, e8, e9, e10, e11⟩, _, _, ⟨hm, g0, g1, g2, g3, g4, g5, g6, g7, g8, g9, g10, g11⟩, _⟩ := HT8.out
    dsimp only at e0 e1 e2 e3 e4 e5 e6 e7 e8 e9 e10 e11 g0 g1 g2 g3 g4 g5 g6 g7 g8 g9 g10 g11
    go_wp2_with fail
    refine (HSa.out _ HT8.out).mono ?_
    rintro e w9 ⟨rfl, hb9⟩
    have HM9 := hide (HM8.out.below hb9); have HB9 := hide (HB8.out.below hb9)
    have HA9 : Hid (MtS w9 qa bsa c.parts.length (togM c.parts.length X 0 0)) := (HA8.out.below hb9).ext fun p _ => togM_zero _ _ _
    have HW9 := hide (HT8.out.bel.trans (hb9.mono HT8.out.bel.size))
    clear hb9 HT8 HM8 HA8 HB8 HSa e0 e1 e2 e3 e4 e5 e6 e7 e8 e9 e10 e11 g0 g1 g2 g3 g4 g5 g6 g7 g8 g9 g10 g11 hl hm
    go_wp2_with fail
    go_loopw [7, 8] (fun s7 s8 W => ∃ i : Nat, i ≤ c.parts.length ∧ s7 = .int .i64 i ∧ Below w.heap.size w W ∧ MtS W q0 bs0 c.parts.length X ∧ MtS W qa bsa c.parts.length (togM c.parts.length X i 0) ∧ MtS W qb bsb c.parts.length X) (fun s7 _ _ => c.parts.length - (intOf s7).toNat)
    case atStart => exact ⟨0, by omega, rfl, HW9.out, HM9.out, HA9.out, HB9.out⟩
    case round =>
      obtain ⟨i, hi, rfl, hbw, hm0, hma, hmb⟩ := hrel
      have HBW := hide hbw; have HM0 := hide hm0; have HMA := hide hma; have HMB := hide hmb
      clear hbw hm0 hma hmb HW9 HM9 HA9 HB9
      by_cases hlt : i < c.parts.length
      · have HIL := hide (show i + 1 ≤ c.parts.length by omega)
        have c1 := HMA.out.cell hlt
        have c2 := HMB.out.cell hlt
        go_wp2_with fail
        clear c1 c2
        go_loopw [8] (fun s8 W => ∃ k : Nat, k ≤ c.parts.length ∧ s8 = .int .i64 k ∧ Below w.heap.size w W ∧ MtS W q0 bs0 c.parts.length X ∧ MtS W qa bsa c.parts.length (togM c.parts.length X i k) ∧ MtS W qb bsb c.parts.length X) (fun s8 _ => c.parts.length - (intOf s8).toNat)
        case atStart => exact ⟨0, by omega, rfl, HBW.out, HM0.out, HMA.out, HMB.out⟩
        case round =>
          obtain ⟨k, hk, rfl, hbw, hm0, hma, hmb⟩ := hrel
          have HBk := hide hbw; have HM0k := hide hm0; have HMAk := hide hma; have HMBk := hide hmb
          by_cases hlk : k < c.parts.length
          · have HKL := hide (show k + 1 ≤ c.parts.length by omega)
            have c1 := hma.cell hlt
            have c2 := hm0.cell hlt
            have c3 := hma.bit hlt hlk
            have c4 := hm0.bit hlt hlk
            have hlen : (X i).length = c.parts.length := (hm0.row i hlt).2
            have hv : (togM c.parts.length X i k i).getD k false = (X i).getD k false := by
              unfold togM
              rw [if_neg (Nat.lt_irrefl _), if_pos rfl, tog_get _ _ _ (by omega), if_neg (Nat.lt_irrefl _)]
            rw [hv] at c3
            have HNext : Hid (∀ W, Below w.heap.size w W → MtS W q0 bs0 c.parts.length X → MtS W qa bsa c.parts.length (togM c.parts.length X i k) → MtS W qb bsb c.parts.length X → ∀ v, v = (!(X i).getD k false) → Below w.heap.size w (W.setCell ⟨bsa.getD i 0, k, none⟩ (.bool v)) ∧ MtS (W.setCell ⟨bsa.getD i 0, k, none⟩ (.bool v)) q0 bs0 c.parts.length X ∧ MtS (W.setCell ⟨bsa.getD i 0, k, none⟩ (.bool v)) qa bsa c.parts.length (togM c.parts.length X i (k + 1)) ∧ MtS (W.setCell ⟨bsa.getD i 0, k, none⟩ (.bool v)) qb bsb c.parts.length X) := fun W h1 h2 h3 h4 v hv => by
              obtain ⟨s1, s2, s3, s4, s5, s6⟩ := HSep.out _ (h3.mem hlt)
              refine ⟨h1.setCell (p := ⟨bsa.getD i 0, k, none⟩) s1 _, h2.far _ s2 s3, (h3.put hlt v).ext fun p hp => ?_, h4.far _ s5 s6⟩
              by_cases e : p = i
              · subst e
                rw [if_pos rfl]
                unfold togM
                rw [if_neg (Nat.lt_irrefl _), if_pos rfl, if_neg (Nat.lt_irrefl _), if_pos rfl, hv, tog_set (by omega)]
              · rw [if_neg e]
                unfold togM
                rw [if_neg e, if_neg e]
            have fz : wr.frozen? ⟨bsa.getD i 0, k, none⟩ = false := hma.free hlt
            clear hbw hm0 hma hmb HBW HM0 HMA HMB hlen hv
            generalize (X i).getD k false = x at c3 c4 HNext
            generalize bsa.getD i 0 = xa at c1 c3 fz HNext
            generalize bs0.getD i 0 = x0 at c2 c4
            cases x
            · go_wp2_with fail
              go_quiet (fail)
              have HNn := hide (HNext.out (wr.drewN nq).drew (vdrewNx HBk.out (nq + 1)) (HM0k.out.below (vdrewNx (Below.refl _ wr) (nq + 1))) (HMAk.out.below (vdrewNx (Below.refl _ wr) (nq + 1))) (HMBk.out.below (vdrewNx (Below.refl _ wr) (nq + 1))) true rfl)
              have c1' : (wr.drewN nq).cell? ⟨qa, i, none⟩ = some (.slice (some ⟨xa, 0, none⟩) c.parts.length c.parts.length) := c1
              have c2' : (wr.drewN nq).cell? ⟨q0, i, none⟩ = some (.slice (some ⟨x0, 0, none⟩) c.parts.length c.parts.length) := c2
              have c3' : (wr.drewN nq).cell? ⟨xa, k, none⟩ = some (.bool false) := c3
              have c4' : (wr.drewN nq).cell? ⟨x0, k, none⟩ = some (.bool false) := c4
              have fz' : (wr.drewN nq).drew.frozen? ⟨xa, k, none⟩ = false := fz
              clear c1 c2 c3 c4 fz HBk HM0k HMAk HMBk HNext
              generalize wr.drewN nq = w5 at c1' c2' c3' c4' fz' HNn ⊢
              go_upto_region 19 with fail
              have c1 : w5.drew.cell? ⟨qa, i, none⟩ = some (.slice (some ⟨xa, 0, none⟩) c.parts.length c.parts.length) := c1'
              have c2 : w5.drew.cell? ⟨q0, i, none⟩ = some (.slice (some ⟨x0, 0, none⟩) c.parts.length c.parts.length) := c2'
              have c3 : w5.drew.cell? ⟨xa, k, none⟩ = some (.bool false) := c3'
              have c4 : w5.drew.cell? ⟨x0, k, none⟩ = some (.bool false) := c4'
              go_still_tail 14, (by kernel_rfl)
              change wpList _ _ _ _ _ w5.drew
              clear c1' c2' c3' c4'
              generalize w5.drew = w6 at c1 c2 c3 c4 fz' HNn ⊢
              go_wp2_with fail
              go_roundw
              case rel => exact ⟨k + 1, HKL.out, by go_num, HNn.out⟩
              case measure => have := HKL.out; simp [intOf]; omega
            · go_wp2_with fail
              go_quiet (fail)
              have HNn := hide (HNext.out (wr.drewN nq).drew (vdrewNx HBk.out (nq + 1)) (HM0k.out.below (vdrewNx (Below.refl _ wr) (nq + 1))) (HMAk.out.below (vdrewNx (Below.refl _ wr) (nq + 1))) (HMBk.out.below (vdrewNx (Below.refl _ wr) (nq + 1))) false rfl)
              have c1' : (wr.drewN nq).cell? ⟨qa, i, none⟩ = some (.slice (some ⟨xa, 0, none⟩) c.parts.length c.parts.length) := c1
              have c2' : (wr.drewN nq).cell? ⟨q0, i, none⟩ = some (.slice (some ⟨x0, 0, none⟩) c.parts.length c.parts.length) := c2
              have c3' : (wr.drewN nq).cell? ⟨xa, k, none⟩ = some (.bool true) := c3
              have c4' : (wr.drewN nq).cell? ⟨x0, k, none⟩ = some (.bool true) := c4
              have fz' : (wr.drewN nq).drew.frozen? ⟨xa, k, none⟩ = false := fz
              clear c1 c2 c3 c4 fz HBk HM0k HMAk HMBk HNext
              generalize wr.drewN nq = w5 at c1' c2' c3' c4' fz' HNn ⊢
              go_upto_region 19 with fail
              have c1 : w5.drew.cell? ⟨qa, i, none⟩ = some (.slice (some ⟨xa, 0, none⟩) c.parts.length c.parts.length) := c1'
              have c2 : w5.drew.cell? ⟨q0, i, none⟩ = some (.slice (some ⟨x0, 0, none⟩) c.parts.length c.parts.length) := c2'
              have c3 : w5.drew.cell? ⟨xa, k, none⟩ = some (.bool true) := c3'
              have c4 : w5.drew.cell? ⟨x0, k, none⟩ = some (.bool true) := c4'
              go_still_tail 14, (by kernel_rfl)
              change wpList _ _ _ _ _ w5.drew
              clear c1' c2' c3' c4'
              generalize w5.drew = w6 at c1 c2 c3 c4 fz' HNn ⊢
              go_wp2_with fail
              go_roundw
              case rel => exact ⟨k + 1, HKL.out, by go_num, HNn.out⟩
              case measure => have := HKL.out; simp [intOf]; omega
          · obtain rfl : k = c.parts.length := by omega
            have HBn := hide hbw; have HM0n := hide hm0; have HMBn := hide hmb
            have HMAn : Hid (MtS wr qa bsa c.parts.length (togM c.parts.length X (i + 1) 0)) := hma.ext fun p _ => togM_next _ _ _ _
            clear hbw hm0 hma hmb HBk HM0k HMAk HMBk HBW HM0 HMA HMB
            go_wp2_with fail
            go_roundw
            case rel => exact ⟨i + 1, HIL.out, by go_num, HBn.out, HM0n.out, HMAn.out, HMBn.out⟩
            case measure => have := HIL.out; simp [intOf]; omega
      · obtain rfl : i = c.parts.length := by omega
        have HW0 := hide HBW.out; have HM0s := hide HM0.out; have HMBs := hide HMB.out
        have HMAs : Hid (MtS wr qa bsa c.parts.length (fun p => tog (X p) c.parts.length)) := HMA.out.ext fun p hp => (togM_all _ _ _ hp).symm
        clear HBW HM0 HMA HMB
        go_wp2_with fail
        go_loopw [9, 10, 11] (fun s9 s10 s11 W => ∃ i : Nat, i ≤ c.parts.length ∧ s9 = .int .i64 i ∧ Below w.heap.size w W ∧ MtS W q0 bs0 c.parts.length X ∧ MtS W qa bsa c.parts.length (fun p => tog (X p) c.parts.length) ∧ MtS W qb bsb c.parts.length X) (fun s9 _ _ _ => c.parts.length - (intOf s9).toNat)
        case atStart => exact ⟨0, by omega, rfl, HW0.out, HM0s.out, HMAs.out, HMBs.out⟩
        case round =>
          obtain ⟨i, hi, rfl, hbw, hm0, hma, hmb⟩ := hrel
          have HBW := hide hbw; have HM0 := hide hm0; have HMA := hide hma; have HMB := hide hmb
          clear hbw hm0 hma hmb HW0 HM0s HMAs HMBs
          by_cases hlt : i < c.parts.length
          · have HIL := hide (show i + 1 ≤ c.parts.length by omega)
            have HRA := hide (HMA.out.row i hlt)
            have c1 := HMA.out.cell hlt
            generalize hxa : bsa.getD i 0 = xa at c1 HRA
            have hb1 := bal wr (.cells #[.bool true] 4)
            have HRW := hide ((hb1.block _ (Array.getElem?_eq_some_iff.1 HRA.out.1).1).trans HRA.out.1)
            have HRL := hide HRA.out.2
            have HTn := hide (heap_alloc_new wr (.cells #[.bool true] 4))
            have hnn : c.parts.length ≤ 1000 := by omega
            go_upto_region 24 with (refine wpList_bool _ rfl (.tmp 108) (.tmp 109) rfl xa c.parts.length _ HRL.out HRW.out rfl hnn wr.heap.size 1 rfl HTn.out ?_; intro gx cx w7 hgx hux hfx hb7; obtain ⟨ux, hux⟩ := hux; have HB7 := hide (hb1.trans (hb7.mono hb1.size)); have hgz := Nat.le_trans hb1.size hgx; clear hb7 hgx hb1 c1)
            have hlx : ((((c.parts.length + 1 : Nat) : Int)) - 1) = ((c.parts.length : Nat) : Int) := by omega
            have HBs : Hid (Below wr.heap.size wr (w7.setCell ⟨gx, c.parts.length, none⟩ (.bool false))) := HB7.out.setCell (p := ⟨gx, c.parts.length, none⟩) hgz _
            have HB8 := hide (HBW.out.trans (HBs.out.mono HBW.out.size)); have HM08 := hide (HM0.out.below HBs.out); have HMA8 := hide (HMA.out.below HBs.out); have HMB8 := hide (HMB.out.below HBs.out)
            clear HBW HM0 HMA HMB HRA HRW HRL HTn HBs HB7 hgz
            go_upto_region 25 with fail
            clear hfx hux hlx
            generalize w7.setCell ⟨gx, c.parts.length, none⟩ (.bool false) = w8 at HB8 HM08 HMA8 HMB8 ⊢
            go_wp2_with fail
            go_loopw [11] (fun s11 W => ∃ k : Nat, k ≤ c.parts.length ∧ s11 = .int .i64 k ∧ Below w.heap.size w W ∧ MtS W q0 bs0 c.parts.length X ∧ MtS W qa bsa c.parts.length (fun p => tog (X p) c.parts.length) ∧ MtS W qb bsb c.parts.length X) (fun s11 _ => c.parts.length - (intOf s11).toNat)
            case atStart => exact ⟨0, by omega, rfl, HB8.out, HM08.out, HMA8.out, HMB8.out⟩
            case round =>
              obtain ⟨k, hk, rfl, hbw, hm0, hma, hmb⟩ := hrel
              clear HB8 HM08 HMA8 HMB8
              by_cases hlk : k < c.parts.length
              · have HKL := hide (show k + 1 ≤ c.parts.length by omega)
                have hlen : (X i).length = c.parts.length := (hm0.row i hlt).2
                have d1 : wr.drew.cell? _ = _ := hmb.cell hlt
                have d2 : wr.drew.cell? _ = _ := hmb.bit hlt hlk
                have d3 : wr.drew.cell? _ = _ := hm0.cell hlt
                have d4 : wr.drew.cell? _ = _ := hm0.bit hlt hlk
                have d5 : wr.drew.cell? _ = _ := hma.cell hlt
                have d6 : wr.drew.cell? ⟨bsa.getD i 0, k, none⟩ = some (.bool ((tog (X i) c.parts.length).getD k false)) := hma.bit hlt hlk
                have hv : (tog (X i) c.parts.length).getD k false = (!(X i).getD k false) := by rw [tog_get _ _ _ (by omega), if_pos hlk]
                rw [hv] at d6
                have HBn : Hid (Below w.heap.size w wr.drew) := vdrewNx hbw 1; have HM0n : Hid (MtS wr.drew q0 bs0 c.parts.length X) := hm0.below (vdrewNx (Below.refl _ wr) 1); have HMAn : Hid (MtS wr.drew qa bsa c.parts.length (fun p => tog (X p) c.parts.length)) := hma.below (vdrewNx (Below.refl _ wr) 1); have HMBn : Hid (MtS wr.drew qb bsb c.parts.length X) := hmb.below (vdrewNx (Below.refl _ wr) 1)
                clear hbw hm0 hma hmb hlen hv hxa
                generalize (X i).getD k false = x at d2 d4 d6
                generalize bsa.getD i 0 = xa at d5 d6
                generalize bs0.getD i 0 = x0 at d3 d4
                generalize bsb.getD i 0 = xb at d1 d2
                cases x
                · have HS0 : Hid (wr.drew.cell? ⟨qb, i, none⟩ = some (.slice (some ⟨xb, 0, none⟩) c.parts.length c.parts.length) ∧ wr.drew.cell? ⟨xb, k, none⟩ = some (.bool false) ∧ wr.drew.cell? ⟨q0, i, none⟩ = some (.slice (some ⟨x0, 0, none⟩) c.parts.length c.parts.length) ∧ wr.drew.cell? ⟨x0, k, none⟩ = some (.bool false) ∧ wr.drew.cell? ⟨qa, i, none⟩ = some (.slice (some ⟨xa, 0, none⟩) c.parts.length c.parts.length) ∧ wr.drew.cell? ⟨xa, k, none⟩ = some (.bool true)) := ⟨d1, d2, d3, d4, d5, d6⟩
                  go_wp2_with fail
                  clear d1 d2 d3 d4 d5 d6
                  refine wp_region_held_drew (S := fun w' => w'.cell? ⟨qb, i, none⟩ = some (.slice (some ⟨xb, 0, none⟩) c.parts.length c.parts.length) ∧ w'.cell? ⟨xb, k, none⟩ = some (.bool false) ∧ w'.cell? ⟨q0, i, none⟩ = some (.slice (some ⟨x0, 0, none⟩) c.parts.length c.parts.length) ∧ w'.cell? ⟨x0, k, none⟩ = some (.bool false) ∧ w'.cell? ⟨qa, i, none⟩ = some (.slice (some ⟨xa, 0, none⟩) c.parts.length c.parts.length) ∧ w'.cell? ⟨xa, k, none⟩ = some (.bool true)) (by kernel_rfl) (HS0.out) (fun hHeld => ?_)
                  refine wpAnyH_take (i := 0) (v := ?v1_0) rfl (by kernel_rfl) (by kernel_rfl) (by kernel_rfl) (fun _ _ _ h => h) (Or.inl ⟨by kernel_rfl, ?y1_0⟩) (by assumption) ?r1_0
                  case y1_0 => (intro W hSW; (try dsimp only at hSW); go_simp; (try with_reducible rfl))
                  change wpAnyH _ _ _ _ _ _ _ (Act.put _ (some 122) _) _
                  (try simp only [Act.put, List.setIfInBounds_toArray, List.set_cons_zero, List.set_cons_succ])
                  refine wpAnyH_take (i := 1) (v := ?v1_1) rfl (by kernel_rfl) (by kernel_rfl) (by kernel_rfl) (fun _ _ _ h => h) (Or.inl ⟨by kernel_rfl, ?y1_1⟩) (by assumption) ?r1_1
                  case y1_1 => (intro W hSW; (try dsimp only at hSW); go_simp; (try with_reducible rfl))
                  change wpAnyH _ _ _ _ _ _ _ (Act.put _ (some 123) _) _
                  (try simp only [Act.put, List.setIfInBounds_toArray, List.set_cons_zero, List.set_cons_succ])
                  refine wpAnyH_take (i := 2) (v := ?v1_2) rfl (by kernel_rfl) (by kernel_rfl) (by kernel_rfl) (fun _ _ _ h => h) (Or.inl ⟨by kernel_rfl, ?y1_2⟩) (by assumption) ?r1_2
                  case y1_2 => (intro W hSW; (try dsimp only at hSW); go_simp; (try with_reducible rfl))
                  change wpAnyH _ _ _ _ _ _ _ (Act.put _ (some 124) _) _
                  (try simp only [Act.put, List.setIfInBounds_toArray, List.set_cons_zero, List.set_cons_succ])
                  refine wpAnyH_take (i := 3) (v := ?v1_3) rfl (by kernel_rfl) (by kernel_rfl) (by kernel_rfl) (fun _ _ _ h => h) (Or.inl ⟨by kernel_rfl, ?y1_3⟩) (by assumption) ?r1_3
                  case y1_3 => (intro W hSW; (try dsimp only at hSW); go_simp; (try with_reducible rfl))
                  change wpAnyH _ _ _ _ _ _ _ (Act.put _ (some 125) _) _
                  (try simp only [Act.put, List.setIfInBounds_toArray, List.set_cons_zero, List.set_cons_succ])
                  refine wpAnyH_take (i := 4) (v := ?v1_4) rfl (by kernel_rfl) (by kernel_rfl) (by kernel_rfl) (fun _ _ _ h => h) (Or.inl ⟨by kernel_rfl, ?y1_4⟩) (by assumption) ?r1_4
                  case y1_4 => (intro W hSW; (try dsimp only at hSW); go_simp; (try with_reducible rfl))
                  change wpAnyH _ _ _ _ _ _ _ (Act.put _ (some 126) _) _
                  (try simp only [Act.put, List.setIfInBounds_toArray, List.set_cons_zero, List.set_cons_succ])
                  refine wpAnyH_take (i := 5) (v := ?v1_5) rfl (by kernel_rfl) (by kernel_rfl) (by kernel_rfl) (fun _ _ _ h => h) (Or.inl ⟨by kernel_rfl, ?y1_5⟩) (by assumption) ?r1_5
                  case y1_5 => (intro W hSW; (try dsimp only at hSW); go_simp; (try with_reducible rfl))
                  change wpAnyH _ _ _ _ _ _ _ (Act.put _ (some 127) _) _
                  (try simp only [Act.put, List.setIfInBounds_toArray, List.set_cons_zero, List.set_cons_succ])
                  refine wpAnyH_take (i := 6) (v := ?v1_6) rfl (by kernel_rfl) (by kernel_rfl) (by kernel_rfl) (fun _ _ _ h => h) (Or.inl ⟨by kernel_rfl, ?y1_6⟩) (by assumption) ?r1_6
                  case y1_6 => (intro W hSW; (try dsimp only at hSW); go_simp; (try with_reducible rfl))
                  change wpAnyH _ _ _ _ _ _ _ (Act.put _ (some 128) _) _
                  (try simp only [Act.put, List.setIfInBounds_toArray, List.set_cons_zero, List.set_cons_succ])
                  refine wpAnyH_take (i := 7) (v := ?v1_7) rfl (by kernel_rfl) (by kernel_rfl) (by kernel_rfl) (fun _ _ _ h => h) (Or.inl ⟨by kernel_rfl, ?y1_7⟩) (by assumption) ?r1_7
                  case y1_7 => (intro W hSW; (try dsimp only at hSW); go_simp; (try with_reducible rfl))
                  change wpAnyH _ _ _ _ _ _ _ (Act.put _ (some 129) _) _
                  (try simp only [Act.put, List.setIfInBounds_toArray, List.set_cons_zero, List.set_cons_succ])
                  refine wpAnyH_take (i := 8) (v := ?v1_8) rfl (by kernel_rfl) (by kernel_rfl) (by kernel_rfl) (fun _ _ _ h => h) (Or.inl ⟨by kernel_rfl, ?y1_8⟩) (by assumption) ?r1_8
                  case y1_8 => (intro W hSW; (try dsimp only at hSW); go_simp; (try with_reducible rfl))
                  change wpAnyH _ _ _ _ _ _ _ (Act.put _ (some 130) _) _
                  (try simp only [Act.put, List.setIfInBounds_toArray, List.set_cons_zero, List.set_cons_succ])
                  refine wpAnyH_take (i := 9) (v := ?v1_9) rfl (by kernel_rfl) (by kernel_rfl) (by kernel_rfl) (fun _ _ _ h => h) (Or.inl ⟨by kernel_rfl, ?y1_9⟩) (by assumption) ?r1_9
                  case y1_9 => (intro W hSW; (try dsimp only at hSW); go_simp; (try with_reducible rfl))
                  change wpAnyH _ _ _ _ _ _ _ (Act.put _ (some 131) _) _
                  (try simp only [Act.put, List.setIfInBounds_toArray, List.set_cons_zero, List.set_cons_succ])
                  refine wpAnyH_take (i := 10) (v := ?v1_10) rfl (by kernel_rfl) (by kernel_rfl) (by kernel_rfl) (fun _ _ _ h => h) (Or.inl ⟨by kernel_rfl, ?y1_10⟩) (by assumption) ?r1_10
                  case y1_10 => (intro W hSW; (try dsimp only at hSW); go_simp; (try with_reducible rfl))
                  change wpAnyH _ _ _ _ _ _ _ (Act.put _ (some 132) _) _
                  (try simp only [Act.put, List.setIfInBounds_toArray, List.set_cons_zero, List.set_cons_succ])
                  refine wpAnyH_take (i := 11) (v := ?v1_11) rfl (by kernel_rfl) (by kernel_rfl) (by kernel_rfl) (fun _ _ _ h => h) (Or.inl ⟨by kernel_rfl, ?y1_11⟩) (by assumption) ?r1_11
                  case y1_11 => (intro W hSW; (try dsimp only at hSW); go_simp; (try with_reducible rfl))
                  change wpAnyH _ _ _ _ _ _ _ (Act.put _ (some 133) _) _
                  (try simp only [Act.put, List.setIfInBounds_toArray, List.set_cons_zero, List.set_cons_succ])
                  refine wpAnyH_take (i := 12) (v := ?v1_12) rfl (by kernel_rfl) (by kernel_rfl) (by kernel_rfl) (fun _ _ _ h => h) (Or.inl ⟨by kernel_rfl, ?y1_12⟩) (by assumption) ?r1_12
                  case y1_12 => (intro W hSW; (try dsimp only at hSW); go_simp; (try with_reducible rfl))
                  change wpAnyH _ _ _ _ _ _ _ (Act.put _ (some 134) _) _
                  (try simp only [Act.put, List.setIfInBounds_toArray, List.set_cons_zero, List.set_cons_succ])
                  refine wpAnyH_take (i := 13) (v := ?v1_13) rfl (by kernel_rfl) (by kernel_rfl) (by kernel_rfl) (fun _ _ _ h => h) (Or.inl ⟨by kernel_rfl, ?y1_13⟩) (by assumption) ?r1_13
                  case y1_13 => (intro W hSW; (try dsimp only at hSW); go_simp; (try with_reducible rfl))
                  change wpAnyH _ _ _ _ _ _ _ (Act.put _ (some 135) _) _
                  (try simp only [Act.put, List.setIfInBounds_toArray, List.set_cons_zero, List.set_cons_succ])
                  refine wpAnyH_take (i := 14) (v := ?v1_14) rfl (by kernel_rfl) (by kernel_rfl) (by kernel_rfl) (fun _ _ _ h => h) (Or.inl ⟨by kernel_rfl, ?y1_14⟩) (by assumption) ?r1_14
                  case y1_14 => (intro W hSW; (try dsimp only at hSW); go_simp; (try with_reducible rfl))
                  change wpAnyH _ _ _ _ _ _ _ (Act.put _ (some 136) _) _
                  (try simp only [Act.put, List.setIfInBounds_toArray, List.set_cons_zero, List.set_cons_succ])
                  refine wpAnyH_take (i := 15) (v := ?v1_15) rfl (by kernel_rfl) (by kernel_rfl) (by kernel_rfl) (fun _ _ _ h => h) (Or.inl ⟨by kernel_rfl, ?y1_15⟩) (by assumption) ?r1_15
                  case y1_15 => (intro W hSW; (try dsimp only at hSW); go_simp; (try with_reducible rfl))
                  change wpAnyH _ _ _ _ _ _ _ (Act.put _ (some 137) _) _
                  (try simp only [Act.put, List.setIfInBounds_toArray, List.set_cons_zero, List.set_cons_succ])
                  refine wpAnyH_take (i := 16) (v := ?v1_16) rfl (by kernel_rfl) (by kernel_rfl) (by kernel_rfl) (fun _ _ _ h => h) (Or.inl ⟨by kernel_rfl, ?y1_16⟩) (by assumption) ?r1_16
                  case y1_16 => (intro W hSW; (try dsimp only at hSW); go_simp; (try with_reducible rfl))
                  change wpAnyH _ _ _ _ _ _ _ (Act.put _ (some 138) _) _
                  (try simp only [Act.put, List.setIfInBounds_toArray, List.set_cons_zero, List.set_cons_succ])
                  refine wpAnyH_take (i := 17) (v := ?v1_17) rfl (by kernel_rfl) (by kernel_rfl) (by kernel_rfl) (fun _ _ _ h => h) (Or.inl ⟨by kernel_rfl, ?y1_17⟩) (by assumption) ?r1_17
                  case y1_17 => (intro W hSW; (try dsimp only at hSW); go_simp; (try with_reducible rfl))
                  change wpAnyH _ _ _ _ _ _ _ (Act.put _ (some 139) _) _
                  (try simp only [Act.put, List.setIfInBounds_toArray, List.set_cons_zero, List.set_cons_succ])
                  refine wpAnyH_take (i := 18) (v := ?v1_18) rfl (by kernel_rfl) (by kernel_rfl) (by kernel_rfl) (fun _ _ _ h => h) (Or.inl ⟨by kernel_rfl, ?y1_18⟩) (by assumption) ?r1_18
                  case y1_18 => (intro W hSW; (try dsimp only at hSW); go_simp; (try with_reducible rfl))
                  change wpAnyH _ _ _ _ _ _ _ (Act.put _ (some 140) _) _
                  (try simp only [Act.put, List.setIfInBounds_toArray, List.set_cons_zero, List.set_cons_succ])
                  refine wpAnyH_take (i := 19) (v := ?v1_19) rfl (by kernel_rfl) (by kernel_rfl) (by kernel_rfl) (fun _ _ _ h => h) (Or.inl ⟨by kernel_rfl, ?y1_19⟩) (by assumption) ?r1_19
                  case y1_19 => (intro W hSW; (try dsimp only at hSW); go_simp; (try with_reducible rfl))
                  change wpAnyH _ _ _ _ _ _ _ (Act.put _ (some 141) _) _
                  (try simp only [Act.put, List.setIfInBounds_toArray, List.set_cons_zero, List.set_cons_succ])
                  refine wpAnyH_take (i := 20) (v := ?v1_20) rfl (by kernel_rfl) (by kernel_rfl) (by kernel_rfl) (fun _ _ _ h => h) (Or.inl ⟨by kernel_rfl, ?y1_20⟩) (by assumption) ?r1_20
                  case y1_20 => (intro W hSW; (try dsimp only at hSW); go_simp; (try with_reducible rfl))
                  change wpAnyH _ _ _ _ _ _ _ (Act.put _ (some 142) _) _
                  (try simp only [Act.put, List.setIfInBounds_toArray, List.set_cons_zero, List.set_cons_succ])
                  refine wpAnyH_take (i := 21) (v := ?v1_21) rfl (by kernel_rfl) (by kernel_rfl) (by kernel_rfl) (fun _ _ _ h => h) (Or.inl ⟨by kernel_rfl, ?y1_21⟩) (by assumption) ?r1_21
                  case y1_21 => (intro W hSW; (try dsimp only at hSW); go_simp; (try with_reducible rfl))
                  change wpAnyH _ _ _ _ _ _ _ (Act.put _ (some 143) _) _
                  (try simp only [Act.put, List.setIfInBounds_toArray, List.set_cons_zero, List.set_cons_succ])
                  refine wpAnyH_take (i := 22) (v := ?v1_22) rfl (by kernel_rfl) (by kernel_rfl) (by kernel_rfl) (fun _ _ _ h => h) (Or.inl ⟨by kernel_rfl, ?y1_22⟩) (by assumption) ?r1_22
                  case y1_22 => (intro W hSW; (try dsimp only at hSW); go_simp; (try with_reducible rfl))
                  change wpAnyH _ _ _ _ _ _ _ (Act.put _ (some 144) _) _
                  (try simp only [Act.put, List.setIfInBounds_toArray, List.set_cons_zero, List.set_cons_succ])
                  refine wpAnyH_take (i := 23) (v := ?v1_23) rfl (by kernel_rfl) (by kernel_rfl) (by kernel_rfl) (fun _ _ _ h => h) (Or.inl ⟨by kernel_rfl, ?y1_23⟩) (by assumption) ?r1_23
                  case y1_23 => (intro W hSW; (try dsimp only at hSW); go_simp; (try with_reducible rfl))
                  change wpAnyH _ _ _ _ _ _ _ (Act.put _ (some 145) _) _
                  (try simp only [Act.put, List.setIfInBounds_toArray, List.set_cons_zero, List.set_cons_succ])
                  refine wpAnyH_take (i := 24) (v := ?v1_24) rfl (by kernel_rfl) (by kernel_rfl) (by kernel_rfl) (fun _ _ _ h => h) (Or.inl ⟨by kernel_rfl, ?y1_24⟩) (by assumption) ?r1_24
                  case y1_24 => (intro W hSW; (try dsimp only at hSW); go_simp; (try with_reducible rfl))
                  change wpAnyH _ _ _ _ _ _ _ (Act.put _ (some 146) _) _
                  (try simp only [Act.put, List.setIfInBounds_toArray, List.set_cons_zero, List.set_cons_succ])
                  refine wpAnyH_take (i := 25) (v := ?v1_25) rfl (by kernel_rfl) (by kernel_rfl) (by kernel_rfl) (fun _ _ _ h => h) (Or.inl ⟨by kernel_rfl, ?y1_25⟩) (by assumption) ?r1_25
                  case y1_25 => (intro W hSW; (try dsimp only at hSW); go_simp; (try with_reducible rfl))
                  change wpAnyH _ _ _ _ _ _ _ (Act.put _ (some 147) _) _
                  (try simp only [Act.put, List.setIfInBounds_toArray, List.set_cons_zero, List.set_cons_succ])
                  refine wpAnyH_take (i := 26) (v := ?v1_26) rfl (by kernel_rfl) (by kernel_rfl) (by kernel_rfl) (fun _ _ _ h => h) (Or.inl ⟨by kernel_rfl, ?y1_26⟩) (by assumption) ?r1_26
                  case y1_26 => (intro W hSW; (try dsimp only at hSW); go_simp; (try with_reducible rfl))
                  change wpAnyH _ _ _ _ _ _ _ (Act.put _ (some 148) _) _
                  (try simp only [Act.put, List.setIfInBounds_toArray, List.set_cons_zero, List.set_cons_succ])
                  refine wpAnyH_take (i := 27) (v := ?v1_27) rfl (by kernel_rfl) (by kernel_rfl) (by kernel_rfl) (fun _ _ _ h => h) (Or.inl ⟨by kernel_rfl, ?y1_27⟩) (by assumption) ?r1_27
                  case y1_27 => (intro W hSW; (try dsimp only at hSW); go_simp; (try with_reducible rfl))
                  change wpAnyH _ _ _ _ _ _ _ (Act.put _ (some 149) _) _
                  (try simp only [Act.put, List.setIfInBounds_toArray, List.set_cons_zero, List.set_cons_succ])
                  refine wpAnyH_take (i := 28) (v := ?v1_28) rfl (by kernel_rfl) (by kernel_rfl) (by kernel_rfl) (fun _ _ _ h => h) (Or.inl ⟨by kernel_rfl, ?y1_28⟩) (by assumption) ?r1_28
                  case y1_28 => (intro W hSW; (try dsimp only at hSW); go_simp; (try with_reducible rfl))
                  change wpAnyH _ _ _ _ _ _ _ (Act.put _ (some 150) _) _
                  (try simp only [Act.put, List.setIfInBounds_toArray, List.set_cons_zero, List.set_cons_succ])
                  refine wpAnyH_take (i := 29) (v := ?v1_29) rfl (by kernel_rfl) (by kernel_rfl) (by kernel_rfl) (fun _ _ _ h => h) (Or.inl ⟨by kernel_rfl, ?y1_29⟩) (by assumption) ?r1_29
                  case y1_29 => (intro W hSW; (try dsimp only at hSW); go_simp; (try with_reducible rfl))
                  change wpAnyH _ _ _ _ _ _ _ (Act.put _ (some 151) _) _
                  (try simp only [Act.put, List.setIfInBounds_toArray, List.set_cons_zero, List.set_cons_succ])
                  refine wpAnyH_take (i := 30) (v := ?v1_30) rfl (by kernel_rfl) (by kernel_rfl) (by kernel_rfl) (fun _ _ _ h => h) (Or.inl ⟨by kernel_rfl, ?y1_30⟩) (by assumption) ?r1_30
                  case y1_30 => (intro W hSW; (try dsimp only at hSW); go_simp; (try with_reducible rfl))
                  change wpAnyH _ _ _ _ _ _ _ (Act.put _ (some 152) _) _
                  (try simp only [Act.put, List.setIfInBounds_toArray, List.set_cons_zero, List.set_cons_succ])
                  refine wpAnyH_take (i := 31) (v := ?v1_31) rfl (by kernel_rfl) (by kernel_rfl) (by kernel_rfl) (fun _ _ _ h => h) (Or.inl ⟨by kernel_rfl, ?y1_31⟩) (by assumption) ?r1_31
                  case y1_31 => (intro W hSW; (try dsimp only at hSW); go_simp; (try with_reducible rfl))
                  change wpAnyH _ _ _ _ _ _ _ (Act.put _ (some 153) _) _
                  (try simp only [Act.put, List.setIfInBounds_toArray, List.set_cons_zero, List.set_cons_succ])
                  refine wpAnyH_done (by kernel_rfl) ?_ _
                  clear hHeld HS0
                  generalize wr.drew = w9 at HBn HM0n HMAn HMBn ⊢
                  go_wp2_with fail
                  go_roundw
                  case rel => exact ⟨k + 1, HKL.out, by go_num, HBn.out, HM0n.out, HMAn.out, HMBn.out⟩
                  case measure => have := HKL.out; simp [intOf]; omega
                · have HS0 : Hid (wr.drew.cell? ⟨qb, i, none⟩ = some (.slice (some ⟨xb, 0, none⟩) c.parts.length c.parts.length) ∧ wr.drew.cell? ⟨xb, k, none⟩ = some (.bool true) ∧ wr.drew.cell? ⟨q0, i, none⟩ = some (.slice (some ⟨x0, 0, none⟩) c.parts.length c.parts.length) ∧ wr.drew.cell? ⟨x0, k, none⟩ = some (.bool true) ∧ wr.drew.cell? ⟨qa, i, none⟩ = some (.slice (some ⟨xa, 0, none⟩) c.parts.length c.parts.length) ∧ wr.drew.cell? ⟨xa, k, none⟩ = some (.bool false)) := ⟨d1, d2, d3, d4, d5, d6⟩
                  go_wp2_with fail
                  clear d1 d2 d3 d4 d5 d6
                  refine wp_region_held_drew (S := fun w' => w'.cell? ⟨qb, i, none⟩ = some (.slice (some ⟨xb, 0, none⟩) c.parts.length c.parts.length) ∧ w'.cell? ⟨xb, k, none⟩ = some (.bool true) ∧ w'.cell? ⟨q0, i, none⟩ = some (.slice (some ⟨x0, 0, none⟩) c.parts.length c.parts.length) ∧ w'.cell? ⟨x0, k, none⟩ = some (.bool true) ∧ w'.cell? ⟨qa, i, none⟩ = some (.slice (some ⟨xa, 0, none⟩) c.parts.length c.parts.length) ∧ w'.cell? ⟨xa, k, none⟩ = some (.bool false)) (by kernel_rfl) (HS0.out) (fun hHeld => ?_)
                  refine wpAnyH_take (i := 0) (v := ?v2_0) rfl (by kernel_rfl) (by kernel_rfl) (by kernel_rfl) (fun _ _ _ h => h) (Or.inl ⟨by kernel_rfl, ?y2_0⟩) (by assumption) ?r2_0
                  case y2_0 => (intro W hSW; (try dsimp only at hSW); go_simp; (try with_reducible rfl))
                  change wpAnyH _ _ _ _ _ _ _ (Act.put _ (some 122) _) _
                  (try simp only [Act.put, List.setIfInBounds_toArray, List.set_cons_zero, List.set_cons_succ])
                  refine wpAnyH_take (i := 1) (v := ?v2_1) rfl (by kernel_rfl) (by kernel_rfl) (by kernel_rfl) (fun _ _ _ h => h) (Or.inl ⟨by kernel_rfl, ?y2_1⟩) (by assumption) ?r2_1
                  case y2_1 => (intro W hSW; (try dsimp only at hSW); go_simp; (try with_reducible rfl))
                  change wpAnyH _ _ _ _ _ _ _ (Act.put _ (some 123) _) _
                  (try simp only [Act.put, List.setIfInBounds_toArray, List.set_cons_zero, List.set_cons_succ])
                  refine wpAnyH_take (i := 2) (v := ?v2_2) rfl (by kernel_rfl) (by kernel_rfl) (by kernel_rfl) (fun _ _ _ h => h) (Or.inl ⟨by kernel_rfl, ?y2_2⟩) (by assumption) ?r2_2
                  case y2_2 => (intro W hSW; (try dsimp only at hSW); go_simp; (try with_reducible rfl))
                  change wpAnyH _ _ _ _ _ _ _ (Act.put _ (some 124) _) _
                  (try simp only [Act.put, List.setIfInBounds_toArray, List.set_cons_zero, List.set_cons_succ])
                  refine wpAnyH_take (i := 3) (v := ?v2_3) rfl (by kernel_rfl) (by kernel_rfl) (by kernel_rfl) (fun _ _ _ h => h) (Or.inl ⟨by kernel_rfl, ?y2_3⟩) (by assumption) ?r2_3
                  case y2_3 => (intro W hSW; (try dsimp only at hSW); go_simp; (try with_reducible rfl))
                  change wpAnyH _ _ _ _ _ _ _ (Act.put _ (some 125) _) _
                  (try simp only [Act.put, List.setIfInBounds_toArray, List.set_cons_zero, List.set_cons_succ])
                  refine wpAnyH_take (i := 4) (v := ?v2_4) rfl (by kernel_rfl) (by kernel_rfl) (by kernel_rfl) (fun _ _ _ h => h) (Or.inl ⟨by kernel_rfl, ?y2_4⟩) (by assumption) ?r2_4
                  case y2_4 => (intro W hSW; (try dsimp only at hSW); go_simp; (try with_reducible rfl))
                  change wpAnyH _ _ _ _ _ _ _ (Act.put _ (some 126) _) _
                  (try simp only [Act.put, List.setIfInBounds_toArray, List.set_cons_zero, List.set_cons_succ])
                  refine wpAnyH_take (i := 5) (v := ?v2_5) rfl (by kernel_rfl) (by kernel_rfl) (by kernel_rfl) (fun _ _ _ h => h) (Or.inl ⟨by kernel_rfl, ?y2_5⟩) (by assumption) ?r2_5
                  case y2_5 => (intro W hSW; (try dsimp only at hSW); go_simp; (try with_reducible rfl))
                  change wpAnyH _ _ _ _ _ _ _ (Act.put _ (some 127) _) _
                  (try simp only [Act.put, List.setIfInBounds_toArray, List.set_cons_zero, List.set_cons_succ])
                  refine wpAnyH_take (i := 6) (v := ?v2_6) rfl (by kernel_rfl) (by kernel_rfl) (by kernel_rfl) (fun _ _ _ h => h) (Or.inl ⟨by kernel_rfl, ?y2_6⟩) (by assumption) ?r2_6
                  case y2_6 => (intro W hSW; (try dsimp only at hSW); go_simp; (try with_reducible rfl))
                  change wpAnyH _ _ _ _ _ _ _ (Act.put _ (some 128) _) _
                  (try simp only [Act.put, List.setIfInBounds_toArray, List.set_cons_zero, List.set_cons_succ])
                  refine wpAnyH_take (i := 7) (v := ?v2_7) rfl (by kernel_rfl) (by kernel_rfl) (by kernel_rfl) (fun _ _ _ h => h) (Or.inl ⟨by kernel_rfl, ?y2_7⟩) (by assumption) ?r2_7
                  case y2_7 => (intro W hSW; (try dsimp only at hSW); go_simp; (try with_reducible rfl))
                  change wpAnyH _ _ _ _ _ _ _ (Act.put _ (some 129) _) _
                  (try simp only [Act.put, List.setIfInBounds_toArray, List.set_cons_zero, List.set_cons_succ])
                  refine wpAnyH_take (i := 8) (v := ?v2_8) rfl (by kernel_rfl) (by kernel_rfl) (by kernel_rfl) (fun _ _ _ h => h) (Or.inl ⟨by kernel_rfl, ?y2_8⟩) (by assumption) ?r2_8
                  case y2_8 => (intro W hSW; (try dsimp only at hSW); go_simp; (try with_reducible rfl))
                  change wpAnyH _ _ _ _ _ _ _ (Act.put _ (some 130) _) _
                  (try simp only [Act.put, List.setIfInBounds_toArray, List.set_cons_zero, List.set_cons_succ])
                  refine wpAnyH_take (i := 9) (v := ?v2_9) rfl (by kernel_rfl) (by kernel_rfl) (by kernel_rfl) (fun _ _ _ h => h) (Or.inl ⟨by kernel_rfl, ?y2_9⟩) (by assumption) ?r2_9
                  case y2_9 => (intro W hSW; (try dsimp only at hSW); go_simp; (try with_reducible rfl))
                  change wpAnyH _ _ _ _ _ _ _ (Act.put _ (some 131) _) _
                  (try simp only [Act.put, List.setIfInBounds_toArray, List.set_cons_zero, List.set_cons_succ])
                  refine wpAnyH_take (i := 10) (v := ?v2_10) rfl (by kernel_rfl) (by kernel_rfl) (by kernel_rfl) (fun _ _ _ h => h) (Or.inl ⟨by kernel_rfl, ?y2_10⟩) (by assumption) ?r2_10
                  case y2_10 => (intro W hSW; (try dsimp only at hSW); go_simp; (try with_reducible rfl))
                  change wpAnyH _ _ _ _ _ _ _ (Act.put _ (some 132) _) _
                  (try simp only [Act.put, List.setIfInBounds_toArray, List.set_cons_zero, List.set_cons_succ])
                  refine wpAnyH_take (i := 11) (v := ?v2_11) rfl (by kernel_rfl) (by kernel_rfl) (by kernel_rfl) (fun _ _ _ h => h) (Or.inl ⟨by kernel_rfl, ?y2_11⟩) (by assumption) ?r2_11
                  case y2_11 => (intro W hSW; (try dsimp only at hSW); go_simp; (try with_reducible rfl))
                  change wpAnyH _ _ _ _ _ _ _ (Act.put _ (some 133) _) _
                  (try simp only [Act.put, List.setIfInBounds_toArray, List.set_cons_zero, List.set_cons_succ])
                  refine wpAnyH_take (i := 12) (v := ?v2_12) rfl (by kernel_rfl) (by kernel_rfl) (by kernel_rfl) (fun _ _ _ h => h) (Or.inl ⟨by kernel_rfl, ?y2_12⟩) (by assumption) ?r2_12
                  case y2_12 => (intro W hSW; (try dsimp only at hSW); go_simp; (try with_reducible rfl))
                  change wpAnyH _ _ _ _ _ _ _ (Act.put _ (some 134) _) _
                  (try simp only [Act.put, List.setIfInBounds_toArray, List.set_cons_zero, List.set_cons_succ])
                  refine wpAnyH_take (i := 13) (v := ?v2_13) rfl (by kernel_rfl) (by kernel_rfl) (by kernel_rfl) (fun _ _ _ h => h) (Or.inl ⟨by kernel_rfl, ?y2_13⟩) (by assumption) ?r2_13
                  case y2_13 => (intro W hSW; (try dsimp only at hSW); go_simp; (try with_reducible rfl))
                  change wpAnyH _ _ _ _ _ _ _ (Act.put _ (some 135) _) _
                  (try simp only [Act.put, List.setIfInBounds_toArray, List.set_cons_zero, List.set_cons_succ])
                  refine wpAnyH_take (i := 14) (v := ?v2_14) rfl (by kernel_rfl) (by kernel_rfl) (by kernel_rfl) (fun _ _ _ h => h) (Or.inl ⟨by kernel_rfl, ?y2_14⟩) (by assumption) ?r2_14
                  case y2_14 => (intro W hSW; (try dsimp only at hSW); go_simp; (try with_reducible rfl))
                  change wpAnyH _ _ _ _ _ _ _ (Act.put _ (some 136) _) _
                  (try simp only [Act.put, List.setIfInBounds_toArray, List.set_cons_zero, List.set_cons_succ])
                  refine wpAnyH_take (i := 15) (v := ?v2_15) rfl (by kernel_rfl) (by kernel_rfl) (by kernel_rfl) (fun _ _ _ h => h) (Or.inl ⟨by kernel_rfl, ?y2_15⟩) (by assumption) ?r2_15
                  case y2_15 => (intro W hSW; (try dsimp only at hSW); go_simp; (try with_reducible rfl))
                  change wpAnyH _ _ _ _ _ _ _ (Act.put _ (some 137) _) _
                  (try simp only [Act.put, List.setIfInBounds_toArray, List.set_cons_zero, List.set_cons_succ])
                  refine wpAnyH_take (i := 16) (v := ?v2_16) rfl (by kernel_rfl) (by kernel_rfl) (by kernel_rfl) (fun _ _ _ h => h) (Or.inl ⟨by kernel_rfl, ?y2_16⟩) (by assumption) ?r2_16
                  case y2_16 => (intro W hSW; (try dsimp only at hSW); go_simp; (try with_reducible rfl))
                  change wpAnyH _ _ _ _ _ _ _ (Act.put _ (some 138) _) _
                  (try simp only [Act.put, List.setIfInBounds_toArray, List.set_cons_zero, List.set_cons_succ])
                  refine wpAnyH_take (i := 17) (v := ?v2_17) rfl (by kernel_rfl) (by kernel_rfl) (by kernel_rfl) (fun _ _ _ h => h) (Or.inl ⟨by kernel_rfl, ?y2_17⟩) (by assumption) ?r2_17
                  case y2_17 => (intro W hSW; (try dsimp only at hSW); go_simp; (try with_reducible rfl))
                  change wpAnyH _ _ _ _ _ _ _ (Act.put _ (some 139) _) _
                  (try simp only [Act.put, List.setIfInBounds_toArray, List.set_cons_zero, List.set_cons_succ])
                  refine wpAnyH_take (i := 18) (v := ?v2_18) rfl (by kernel_rfl) (by kernel_rfl) (by kernel_rfl) (fun _ _ _ h => h) (Or.inl ⟨by kernel_rfl, ?y2_18⟩) (by assumption) ?r2_18
                  case y2_18 => (intro W hSW; (try dsimp only at hSW); go_simp; (try with_reducible rfl))
                  change wpAnyH _ _ _ _ _ _ _ (Act.put _ (some 140) _) _
                  (try simp only [Act.put, List.setIfInBounds_toArray, List.set_cons_zero, List.set_cons_succ])
                  refine wpAnyH_take (i := 19) (v := ?v2_19) rfl (by kernel_rfl) (by kernel_rfl) (by kernel_rfl) (fun _ _ _ h => h) (Or.inl ⟨by kernel_rfl, ?y2_19⟩) (by assumption) ?r2_19
                  case y2_19 => (intro W hSW; (try dsimp only at hSW); go_simp; (try with_reducible rfl))
                  change wpAnyH _ _ _ _ _ _ _ (Act.put _ (some 141) _) _
                  (try simp only [Act.put, List.setIfInBounds_toArray, List.set_cons_zero, List.set_cons_succ])
                  refine wpAnyH_take (i := 20) (v := ?v2_20) rfl (by kernel_rfl) (by kernel_rfl) (by kernel_rfl) (fun _ _ _ h => h) (Or.inl ⟨by kernel_rfl, ?y2_20⟩) (by assumption) ?r2_20
                  case y2_20 => (intro W hSW; (try dsimp only at hSW); go_simp; (try with_reducible rfl))
                  change wpAnyH _ _ _ _ _ _ _ (Act.put _ (some 142) _) _
                  (try simp only [Act.put, List.setIfInBounds_toArray, List.set_cons_zero, List.set_cons_succ])
                  refine wpAnyH_take (i := 21) (v := ?v2_21) rfl (by kernel_rfl) (by kernel_rfl) (by kernel_rfl) (fun _ _ _ h => h) (Or.inl ⟨by kernel_rfl, ?y2_21⟩) (by assumption) ?r2_21
                  case y2_21 => (intro W hSW; (try dsimp only at hSW); go_simp; (try with_reducible rfl))
                  change wpAnyH _ _ _ _ _ _ _ (Act.put _ (some 143) _) _
                  (try simp only [Act.put, List.setIfInBounds_toArray, List.set_cons_zero, List.set_cons_succ])
                  refine wpAnyH_take (i := 22) (v := ?v2_22) rfl (by kernel_rfl) (by kernel_rfl) (by kernel_rfl) (fun _ _ _ h => h) (Or.inl ⟨by kernel_rfl, ?y2_22⟩) (by assumption) ?r2_22
                  case y2_22 => (intro W hSW; (try dsimp only at hSW); go_simp; (try with_reducible rfl))
                  change wpAnyH _ _ _ _ _ _ _ (Act.put _ (some 144) _) _
                  (try simp only [Act.put, List.setIfInBounds_toArray, List.set_cons_zero, List.set_cons_succ])
                  refine wpAnyH_take (i := 23) (v := ?v2_23) rfl (by kernel_rfl) (by kernel_rfl) (by kernel_rfl) (fun _ _ _ h => h) (Or.inl ⟨by kernel_rfl, ?y2_23⟩) (by assumption) ?r2_23
                  case y2_23 => (intro W hSW; (try dsimp only at hSW); go_simp; (try with_reducible rfl))
                  change wpAnyH _ _ _ _ _ _ _ (Act.put _ (some 145) _) _
                  (try simp only [Act.put, List.setIfInBounds_toArray, List.set_cons_zero, List.set_cons_succ])
                  refine wpAnyH_take (i := 24) (v := ?v2_24) rfl (by kernel_rfl) (by kernel_rfl) (by kernel_rfl) (fun _ _ _ h => h) (Or.inl ⟨by kernel_rfl, ?y2_24⟩) (by assumption) ?r2_24
                  case y2_24 => (intro W hSW; (try dsimp only at hSW); go_simp; (try with_reducible rfl))
                  change wpAnyH _ _ _ _ _ _ _ (Act.put _ (some 146) _) _
                  (try simp only [Act.put, List.setIfInBounds_toArray, List.set_cons_zero, List.set_cons_succ])
                  refine wpAnyH_take (i := 25) (v := ?v2_25) rfl (by kernel_rfl) (by kernel_rfl) (by kernel_rfl) (fun _ _ _ h => h) (Or.inl ⟨by kernel_rfl, ?y2_25⟩) (by assumption) ?r2_25
                  case y2_25 => (intro W hSW; (try dsimp only at hSW); go_simp; (try with_reducible rfl))
                  change wpAnyH _ _ _ _ _ _ _ (Act.put _ (some 147) _) _
                  (try simp only [Act.put, List.setIfInBounds_toArray, List.set_cons_zero, List.set_cons_succ])
                  refine wpAnyH_take (i := 26) (v := ?v2_26) rfl (by kernel_rfl) (by kernel_rfl) (by kernel_rfl) (fun _ _ _ h => h) (Or.inl ⟨by kernel_rfl, ?y2_26⟩) (by assumption) ?r2_26
                  case y2_26 => (intro W hSW; (try dsimp only at hSW); go_simp; (try with_reducible rfl))
                  change wpAnyH _ _ _ _ _ _ _ (Act.put _ (some 148) _) _
                  (try simp only [Act.put, List.setIfInBounds_toArray, List.set_cons_zero, List.set_cons_succ])
                  refine wpAnyH_take (i := 27) (v := ?v2_27) rfl (by kernel_rfl) (by kernel_rfl) (by kernel_rfl) (fun _ _ _ h => h) (Or.inl ⟨by kernel_rfl, ?y2_27⟩) (by assumption) ?r2_27
                  case y2_27 => (intro W hSW; (try dsimp only at hSW); go_simp; (try with_reducible rfl))
                  change wpAnyH _ _ _ _ _ _ _ (Act.put _ (some 149) _) _
                  (try simp only [Act.put, List.setIfInBounds_toArray, List.set_cons_zero, List.set_cons_succ])
                  refine wpAnyH_take (i := 28) (v := ?v2_28) rfl (by kernel_rfl) (by kernel_rfl) (by kernel_rfl) (fun _ _ _ h => h) (Or.inl ⟨by kernel_rfl, ?y2_28⟩) (by assumption) ?r2_28
                  case y2_28 => (intro W hSW; (try dsimp only at hSW); go_simp; (try with_reducible rfl))
                  change wpAnyH _ _ _ _ _ _ _ (Act.put _ (some 150) _) _
                  (try simp only [Act.put, List.setIfInBounds_toArray, List.set_cons_zero, List.set_cons_succ])
                  refine wpAnyH_take (i := 29) (v := ?v2_29) rfl (by kernel_rfl) (by kernel_rfl) (by kernel_rfl) (fun _ _ _ h => h) (Or.inl ⟨by kernel_rfl, ?y2_29⟩) (by assumption) ?r2_29
                  case y2_29 => (intro W hSW; (try dsimp only at hSW); go_simp; (try with_reducible rfl))
                  change wpAnyH _ _ _ _ _ _ _ (Act.put _ (some 151) _) _
                  (try simp only [Act.put, List.setIfInBounds_toArray, List.set_cons_zero, List.set_cons_succ])
                  refine wpAnyH_take (i := 30) (v := ?v2_30) rfl (by kernel_rfl) (by kernel_rfl) (by kernel_rfl) (fun _ _ _ h => h) (Or.inl ⟨by kernel_rfl, ?y2_30⟩) (by assumption) ?r2_30
                  case y2_30 => (intro W hSW; (try dsimp only at hSW); go_simp; (try with_reducible rfl))
                  change wpAnyH _ _ _ _ _ _ _ (Act.put _ (some 152) _) _
                  (try simp only [Act.put, List.setIfInBounds_toArray, List.set_cons_zero, List.set_cons_succ])
                  refine wpAnyH_take (i := 31) (v := ?v2_31) rfl (by kernel_rfl) (by kernel_rfl) (by kernel_rfl) (fun _ _ _ h => h) (Or.inl ⟨by kernel_rfl, ?y2_31⟩) (by assumption) ?r2_31
                  case y2_31 => (intro W hSW; (try dsimp only at hSW); go_simp; (try with_reducible rfl))
                  change wpAnyH _ _ _ _ _ _ _ (Act.put _ (some 153) _) _
                  (try simp only [Act.put, List.setIfInBounds_toArray, List.set_cons_zero, List.set_cons_succ])
                  refine wpAnyH_done (by kernel_rfl) ?_ _
                  clear hHeld HS0
                  generalize wr.drew = w9 at HBn HM0n HMAn HMBn ⊢
                  go_wp2_with fail
                  go_roundw
                  case rel => exact ⟨k + 1, HKL.out, by go_num, HBn.out, HM0n.out, HMAn.out, HMBn.out⟩
                  case measure => have := HKL.out; simp [intOf]; omega
              · obtain rfl : k = c.parts.length := by omega
                have HBn := hide hbw; have HM0n := hide hm0; have HMAn := hide hma; have HMBn := hide hmb
                clear hbw hm0 hma hmb
                go_wp2_with fail
                go_roundw
                case rel => exact ⟨i + 1, HIL.out, by go_num, HBn.out, HM0n.out, HMAn.out, HMBn.out⟩
                case measure => have := HIL.out; simp [intOf]; omega
          · obtain rfl : i = c.parts.length := by omega
            have HGn := hide (HG.out.below HBW.out (Nat.le_refl _))
            have hbn := HBW.out
            clear HBW HM0 HMA HMB
            go_wp2_with fail
            refine (HZ.out _ HGn.out).mono ?_
            rintro e w9 ⟨rfl, hb9⟩
            go_wp2
            go_ret
            exact ⟨rfl, hbn.trans (hb9.mono hbn.size)⟩
end Go.Proofs.YthngjegimecaaaaDoor
