/-
  VlinkApart's walk.
-/
import Derived.Test.YtdfpeilflinmhaaDoorVlY
import Derived.Test.YtdfpeilflinmhaaDoorGreat
import Derived.Deep.CutRange
namespace Go.Proofs.YtdfpeilflinmhaaDoor
open Go.RowKit Go.Deep
set_option linter.unusedVariables false
set_option linter.unusedSimpArgs false

set_option maxRecDepth 100000 in
set_option maxHeartbeats 16000000 in
theorem apart_walk (c : Conf) (d : Ad) (A : Option Addr) (m : Nat) (L : List Ms) (hL : L.length ≤ 9223372036854775807) (z : Int) (hz0 : 0 ≤ z ∧ z ≤ 255) (xA : Option Addr) (xm : Nat) (y : Ms) (w : World) (hg : Glo w) (h : ConfAt w c d) (hM : MsAt w A L) (hX : MsV w xA xm y)
    (hal : ∀ W, Below w.heap.size w W → Calls Tryd.prog 12 #[] W fun e w' => e = .returned (.bool true) ∧ Below W.heap.size W w') :
    Calls Tryd.prog 4 #[c.val d, .slice A L.length m, .agg #[.int .u8 z, .slice xA y.data.length xm, .bool y.is]] w fun e w' => e = .returned (.bool true) ∧ Below w.heap.size w w' := by
  have hS := CfS.first 28 hg h
  have HC := hide (fun W (H : CfS w W c d) => check_any c d W H.g H.cf)
  have HGr := hide (fun W (H : CfS w W c d) => great_some c d W H.cf)
  have HAL := hide (fun W (H : CfS w W c d) => hal W H.bel)
  have HGl := hide (fun W (H : CfS w W c d) => greatl_at A m L W (hM.of_below H.bel (Nat.le_refl _)) hL)
  have HPk := hide (fun nd (hnd : I64 nd) (hc0 : checkF c = 0) (hok : okN c nd) W (H : CfS w W c d) (wm : World) (xa : Nat) (B : Option Addr) (mm : Nat) (M : List Ms) (hMs : MsAt wm B M) (hB : Below wm.heap.size wm W) (hxa : wm.heap.size ≤ xa) (hxl : xa < W.heap.size) (hx : W.heap[xa]? = some (.cells #[.slice B M.length mm, .slice none 0 0] 37 (0, 0))) =>
    pack_at c d nd hnd W H.g H.cf hc0 hok wm.heap.size hB.size xa (fun j => j < wm.heap.size ∨ j = xa ∨ (Value.slice none 0 0).ownBlock = some j) (isL M) (dtL M) (AsH wm xa B M.length mm) (takes_at wm xa B mm M hxa hMs W.heap.size hB.size _) (asks_first2 hB hx) (by
      rintro j (h | h | h)
      · exact Nat.lt_of_lt_of_le h hB.size
      · omega
      · cases h))
  have HHas := hide (fun W (H : CfS w W c d) (B : Option Addr) (mm : Nat) (M : List Ms) (hMs : MsAt W B M) hl k hk hs => has_at c d W H.g H.cf B mm M hMs hl k hk hs)
  have HMay := hide (fun h0 : checkF c = 0 => may_of h0)
  have HPn := hide (fun h0 : checkF c = 0 => vparts_of h0)
  have HLK := hide (fun W (hb : Below w.heap.size w W) k (hk : k < c.links.length) => (h.links.of_below hb (Nat.le_refl _)).at hk)
  have HPT := hide (fun W (hb : Below w.heap.size w W) k (hk : k < c.ports.length) => (h.ports.of_below hb (Nat.le_refl _)).at hk)
  have HPR := hide (fun W (hb : Below w.heap.size w W) k (hk : k < c.parts.length) => (h.parts.of_below hb (Nat.le_refl _)).at hk)
  have HBytes : Hid (∀ x ∈ L, ∀ b ∈ x.data, b < 256) := fun x hx b hb => by
    obtain ⟨i, hi, rfl⟩ := List.getElem_of_mem hx
    obtain ⟨_, _, _, _, _, _, _, _, _, _, hby⟩ := hM.at hi
    exact hby.1 b (by rw [List.getD_eq_getElem?_getD, List.getElem?_eq_getElem hi]; exact hb)
  have HG := hide hg; have HCf := hide h; have HMs := hide hM; have HXv := hide hX; have HL := hide hL
  clear hg h hal hM hX hL
  generalize hA : w.alloc (.cells (c.cells d) 28) = wa at hS
  have hza : wa.heap.size = w.heap.size + 1 := by rw [← hA]; simp
  obtain ⟨cf, hcf⟩ : ∃ f, checkF c = f := ⟨_, rfl⟩
  rw [hcf] at HC HPk HMay HPn
  obtain ⟨oA, oC, pA, pC, wA, wC, qA, qC, lA, lC⟩ := d
  unfold Conf.val at HC HGr HPk HHas ⊢
  unfold Conf.cells at hA
  dsimp only at hA HC HGr HPk HHas HLK HPT HPR ⊢
  have HA := hide hA
  have HS := hide (OtS.made (z := z) (A := xA) (m := xm) (y := y) hS hza)
  clear hA hS hcf hza
  go_enter Tryd.func4, Tryd.ntmps4
  go_upto_region 1 with fail
  rw [HA.out]
  clear HA
  generalize wa.alloc (.cells #[.int .u8 z, .slice xA y.data.length xm, .bool y.is] 60) = w1 at HS ⊢
  go_wp2_with fail
  refine (HAL.out _ HS.out.cf).mono ?_
  rintro e w2 ⟨rfl, hb2⟩
  have HS2 := hide (HS.out.below hb2)
  clear hb2 HS HAL
  obtain ⟨_, ⟨_, e0, e1, e2, e3, e4, e5, e6, e7, e8, e9, e10, e11⟩, _, _⟩ := HS2.out.cf
  dsimp only at e0 e1 e2 e3 e4 e5 e6 e7 e8 e9 e10 e11
  go_wp2_with fail
  refine (HGr.out _ HS2.out.cf).mono ?_
  rintro e w3 ⟨⟨b, rfl⟩, hb3⟩
  have HS3 := hide (HS2.out.below hb3)
  clear hb3 HS2 HGr e0 e1 e2 e3 e4 e5 e6 e7 e8 e9 e10 e11
  cases b
  · obtain ⟨_, ⟨_, e0, e1, e2, e3, e4, e5, e6, e7, e8, e9, e10, e11⟩, _, _⟩ := HS3.out.cf
    dsimp only at e0 e1 e2 e3 e4 e5 e6 e7 e8 e9 e10 e11
    go_wp2_with fail
    refine (HGl.out _ HS3.out.cf).mono ?_
    rintro e w3 ⟨rfl, rfl⟩
    clear HGl
    generalize hgl : greatL L = gl
    cases gl
    · go_wp2_with fail
      refine (HC.out _ HS3.out.cf).mono ?_
      rintro e w4 ⟨rfl, hb4⟩
      have HS4 := hide (HS3.out.below hb4)
      clear hb4 HS3 HC e0 e1 e2 e3 e4 e5 e6 e7 e8 e9 e10 e11
      obtain ⟨_, ⟨_, e0, _, _, _, _, _, _, _, _, _, e10, e11⟩, _, _⟩ := HS4.out.cf
      dsimp only at e10 e11
      have x1 : w4.cell? ⟨w.heap.size + 1, 1, none⟩ = some (.slice xA y.data.length xm) := by rw [cell_of_row _ _ _ _ _ _ HS4.out.ot]; rfl
      by_cases hf : cf = 0
      · subst hf
        by_cases hy : y.data.length ≤ 100
        · have hyi : ¬ ((100 : Int) < ((y.data.length : Nat) : Int)) := by omega
          by_cases hl0 : c.links.length = 0
          · have hl1 : (((c.links.length : Nat) : Int) == 0) = true := by rw [hl0]; rfl
            generalize y.data.length = yl at *
            go_wp2
            go_ret
            exact ⟨rfl, HS4.out.cf.bel⟩
          · have hl1 : (((c.links.length : Nat) : Int) == 0) = false := by rw [beq_eq_false_iff_ne]; omega
            have HM := hide (HMay.out rfl)
            have HPn2 := hide (HPn.out rfl)
            have HPk2 := hide (fun nd hnd => HPk.out nd hnd rfl)
            obtain ⟨zn, rfl⟩ := Int.eq_ofNat_of_zero_le hz0.1
            have hzn : zn ≤ 255 := by omega
            clear HMay HPk HPn hz0
            have x0 : w4.cell? ⟨w.heap.size + 1, 0, none⟩ = some (.int .u8 (zn : Int)) := by rw [cell_of_row _ _ _ _ _ _ HS4.out.ot]; rfl
            obtain ⟨k, hk⟩ : ∃ k, zn % c.links.length = k := ⟨_, rfl⟩
            have hkl : k < c.links.length := by rw [← hk]; exact Nat.mod_lt _ (by omega)
            obtain ⟨lb, lo, Ai, ci, hlA, hlb, g0, g1, g2, gl1, gl2, gI, _⟩ := HLK.out w4 HS4.out.cf.bel k hkl
            subst hlA
            have hrem : Int.tmod (zn : Int) (c.links.length : Int) = (k : Int) := by rw [← hk]; exact (Int.ofNat_tmod zn c.links.length).symm
            have hw1 : IntKind.i64.wrap (zn : Int) = (zn : Int) := IntWalk.i64_in _ (by omega)
            have hnl64 := HM.out.nl
            have hw2 : IntKind.i64.wrap (k : Int) = (k : Int) := IntWalk.i64_in _ (by omega)
            have hnz : ¬ ((c.links.length : Nat) : Int) = 0 := by omega
            have hdl := HM.out.dlen hkl
            obtain ⟨lk, hlk⟩ : ∃ lk, c.links.getD k default = lk := ⟨_, rfl⟩
            rw [hlk] at g0 g1 g2 gl1 gI hdl
            clear gl1 gl2 gI
            go_wp2_with fail
            clear x1 hyi
            have hlt4 := HS4.out.lt
            have hlt5 : w.heap.size < w4.heap.size := by omega
            go_region
            have hb5 : Below w4.heap.size w4 (w4.alloc (.cells #[.int .i64 lk.source, .slice Ai lk.dests.length ci, .int .i64 lk.offset] 46)).drew := vdrewN (bal w4 _) 1
            have hk5 : (w4.alloc (.cells #[.int .i64 lk.source, .slice Ai lk.dests.length ci, .int .i64 lk.offset] 46)).drew.heap[w4.heap.size]? = some (.cells #[.int .i64 lk.source, .slice Ai lk.dests.length ci, .int .i64 lk.offset] 46 (0, 0)) := heap_alloc_new w4 _
            have HS5 := hide (HS4.out.below hb5); have HK5 := hide hk5
            clear hb5 hk5 e0 x0 e10 e11 g0 g1 g2 hrem hw1 hw2 hnz
            generalize (w4.alloc (.cells #[.int .i64 lk.source, .slice Ai lk.dests.length ci, .int .i64 lk.offset] 46)).drew = w5 at HS5 HK5 ⊢
            have hsrc := HM.out.src hkl
            have hprt := HM.out.ofp hsrc
            have hps := (HM.out.port (c.links.getD k default).source.toNat (by simp only [ofB, Bool.and_eq_true, decide_eq_true_eq] at hsrc; omega)).2.1
            have hpl := HM.out.place hkl
            have HAP := hide (fun j hj => apart_pack HM.out hkl L y j hj)
            have HMem : Hid (lrF c k ∈ ownL c (nodeF c (c.links.getD k default).source) c.links.length) := List.mem_of_getElem? (ownL_at hkl (by unfold mineB; simp)).1
            have hcl := cnd_lr c (otherL c.ports.length L (c.links.getD k default).source.toNat y) k
            simp only [ofB, Bool.and_eq_true, decide_eq_true_eq] at hsrc hprt
            simp only [lrF] at hpl
            rw [hlk] at hsrc hprt hps hpl HAP HMem hcl
            obtain ⟨n, hn⟩ := Int.eq_ofNat_of_zero_le hsrc.1
            have HSR : Hid ((lrF c k).src = (n : Int)) := by show _ = _; simp only [lrF]; rw [hlk, hn]
            have HOF : Hid ((lrF c k).off = lk.offset) := by show _ = _; simp only [lrF]; rw [hlk]
            rw [hn] at HK5 hsrc hprt hps hpl HAP HMem hcl
            rw [Int.toNat_natCast] at hprt hps hpl HAP hcl
            have HSZ : Hid ((lrF c k).siz = (c.ports.getD n default).size) := by show _ = _; simp only [lrF]; rw [hlk, hn, Int.toNat_natCast]
            have hnp : n < c.ports.length := by omega
            obtain ⟨pb, po, hpA, hpb, f0, _, _, f3, _⟩ := HPT.out w5 HS5.out.cf.bel n hnp
            subst hpA
            obtain ⟨q, hq⟩ := Int.eq_ofNat_of_zero_le hprt.1
            rw [hq] at f0 hprt
            have hql : q < c.parts.length := by omega
            obtain ⟨ab, ao, hrA, hab, a0, _⟩ := HPR.out w5 HS5.out.cf.bel q hql
            subst hrA
            have hnd : nodeF c (n : Int) = (c.parts.getD q default).node := by unfold nodeF; rw [Int.toNat_natCast, hq, Int.toNat_natCast]
            have hndr := HPn2.out q hql
            rw [hnd] at HMem HAP
            generalize (c.parts.getD q default).node = nd at a0 hndr hnd HMem HAP
            obtain ⟨o, ho⟩ := Int.eq_ofNat_of_zero_le hpl.1
            obtain ⟨s, hs⟩ := Int.eq_ofNat_of_zero_le (show 0 ≤ (c.ports.getD n default).size by omega)
            rw [ho] at HK5 HOF hpl
            rw [hs] at HSZ hpl hps f3
            have HF3 : Hid (∀ W, Below w.heap.size w W → W.cell? ⟨pb, po + n * 6 + 3, none⟩ = some (.int .i64 (s : Int))) := fun W hb => by
              obtain ⟨pb', po', e, _, _, _, _, f, _⟩ := HPT.out W hb n hnp
              cases e
              rw [hs] at f
              exact f
            have HPL := hide hpl; have HND := hide hnd; have HHN := hide (show (c.ports.getD n default).size = (s : Int) from hs)
            have HIN : I64 nd := by unfold I64; have := HM.out.n1; omega
            have HPk3 := hide (HPk2.out nd HIN hndr)
            obtain ⟨_, ⟨_, _, _, _, _, _, _, _, _, e8, _, e10, e11⟩, _, _⟩ := HS5.out.cf
            dsimp only at e8 e10 e11
            have k0 : w5.cell? ⟨w4.heap.size, 0, none⟩ = some (.int .i64 (n : Int)) := by rw [cell_of_row _ _ _ _ _ _ HK5.out]; rfl
            have hs54 : w4.heap.size < w5.heap.size := (Array.getElem?_eq_some_iff.1 HK5.out).1
            clear hsrc hprt hpb hab hlt4 HPk2 HPn2 HPT HPR HLK hpl ho hn hq f3
            go_wp2_with fail
            go_quiet (fail)
            have hD := vdrewN (Below.refl w5.heap.size w5) nq
            have HS6 := hide (HS5.out.below hD)
            have HK6 := hide ((hD.block _ hs54).trans HK5.out)
            generalize w5.drewN nq = w6 at HS6 HK6 ⊢
            clear hD HS5 HK5 e8 e10 e11 a0 f0 k0 hs54
            have hK6l := (Array.getElem?_eq_some_iff.1 HK6.out).1
            obtain ⟨_, ⟨_, _, _, _, _, _, _, _, _, _, _, e10, _⟩, _, _⟩ := HS6.out.cf
            dsimp only at e10
            have hnp64 := HM.out.nq
            go_wp2_with fail
            go_loopw [79, 10, 11, 12] (fun i s10 s11 s12 W => ∃ (j : Nat) (R : List (Ms × Value)), j ≤ c.ports.length ∧ i = .int .i64 j ∧ Below w6.heap.size w6 W ∧ MrAt w W w6.heap.size s10 R ∧ R.map Prod.fst = (otherL c.ports.length L n y).take j) (fun i _ _ _ _ => c.ports.length - (intOf i).toNat)
            case atStart => exact ⟨0, [], by omega, rfl, Below.refl _ _, MrAt.nil _ _ _, rfl⟩
            case round =>
              obtain ⟨j, R, hj, rfl, hbw, hR, hRm⟩ := hrel
              obtain ⟨vA, vc, hv⟩ := ow_slice hR.row
              have hRl : R.length = j := by
                have h1 := congrArg List.length hRm
                rw [List.length_map, List.length_take, otherL_len] at h1
                omega
              rw [hRl] at hv
              subst hv
              have HBW := hide hbw; have HR := hide hR; have HRM := hide hRm; have HRL := hide hRl
              clear hbw hR hRm hRl e10
              by_cases hlt : j < c.ports.length
              · have HKL := hide (show j + 1 ≤ c.ports.length by omega)
                obtain ⟨A1, c1, hv1, hx1⟩ : ∃ A1 c1, MsV w A1 c1 (L.getD j default) ∧ ((j < L.length ∧ ∃ b off, A = some ⟨b, off, none⟩ ∧ b < w.heap.size ∧ w.cell? ⟨b, off + j * 2, none⟩ = some (.slice A1 (L.getD j default).data.length c1) ∧ w.cell? ⟨b, off + j * 2 + 1, none⟩ = some (.bool (L.getD j default).is)) ∨
                    (L.length ≤ j ∧ A1 = none ∧ c1 = 0 ∧ L.getD j default = default)) := by
                  by_cases h1 : j < L.length
                  · obtain ⟨b, off, Ai, ci, e, hb, x0, x1, x2, x3, x4⟩ := HMs.out.at h1
                    exact ⟨Ai, ci, ⟨x2, x3, x4⟩, .inl ⟨h1, b, off, e, hb, x0, x1⟩⟩
                  · have h2 : L.getD j default = default := by rw [List.getD_eq_getElem?_getD, List.getElem?_eq_none (by omega)]; rfl
                    refine ⟨none, 0, ?_, .inr ⟨by omega, rfl, rfl, h2⟩⟩
                    rw [h2]
                    exact ⟨Nat.le_refl _, by unfold maxLen; omega, fun b hb => (by cases hb), .inl rfl⟩
                have HV1 := hide hv1
                have HML : Hid ((otherL c.ports.length L n y).getD j default = if j = n then y else L.getD j default) := otherL_at hlt
                clear hv1
                generalize L.getD j default = y1 at HV1 hx1 HML
                have HX1 := hide hx1
                clear hx1
                go_upto_if 85 with fail
                have hb1 := bal wr (.cells #[.slice none 0 0, .bool false] 58)
                have hn1 := heap_alloc_new wr (.cells #[.slice none 0 0, .bool false] 58)
                have hz1 : (wr.alloc (.cells #[.slice none 0 0, .bool false] 58)).heap.size = wr.heap.size + 1 := by simp
                have hwl := HBW.out.size
                have HY1 : Hid (YkS w6 (wr.alloc (.cells #[.slice none 0 0, .bool false] 58)) (wr.alloc (.cells #[.slice none 0 0, .bool false] 58)) wr.heap.size #[.slice none 0 0, .bool false]) := ⟨hn1, fun _ _ => rfl, rfl, HBW.out.trans (hb1.mono hwl)⟩
                have HW1 : Hid (∀ j, j < wr.heap.size → (wr.alloc (.cells #[.slice none 0 0, .bool false] 58)).heap[j]? = wr.heap[j]?) := fun j hj => hb1.block j hj
                clear hb1 hn1
                generalize wr.alloc (.cells #[.slice none 0 0, .bool false] 58) = W1 at HY1 hz1 HW1 ⊢
                have HZ1 := hide hz1
                clear hz1
                go_cut [79] from 79 to 100 (fun s79 wx => s79 = .int .i64 (j : Int) ∧ YkS w6 W1 wx wr.heap.size #[.slice A1 y1.data.length c1, .bool y1.is])
                case first =>
                  rcases HX1.out with ⟨h1, b, off, rfl, hb, x0, x1⟩ | ⟨h1, rfl, rfl, rfl⟩
                  · have hblk := (HY1.out.bel.block b (by have := HS6.out.cf.bel.size; omega)).trans (HS6.out.cf.bel.block b hb)
                    have z0 := (World.cell?_of_block (a := ⟨b, off + j * 2, none⟩) hblk).trans x0
                    have z1 := (World.cell?_of_block (a := ⟨b, off + j * 2 + 1, none⟩) hblk).trans x1
                    clear x0 x1
                    go_wp2_with (refine wpList_store_row rfl 58 (.tmp 12) (.tmp 89) rfl wr.heap.size #[.slice A1 y1.data.length c1, .bool y1.is] rfl rfl 58 _ HY1.out.blk info_msg1 rfl (by simp [Value.oneCell']) ?_)
                    go_meet
                    exact ⟨rfl, HY1.out.set hwl⟩
                  · have h2 : ¬ j < L.length := by omega
                    go_wp2_with fail
                    go_meet
                    exact ⟨rfl, HY1.out⟩
                case rest =>
                  obtain ⟨rfl, hcut⟩ := hcut
                  have HY2 := hide hcut
                  clear hcut HX1 HY1
                  have k0 : wc.cell? ⟨w4.heap.size, 0, none⟩ = some (.int .i64 (n : Int)) := by rw [cell_of_row _ _ _ _ _ _ ((HY2.out.bel.block _ hK6l).trans HK6.out)]; rfl
                  obtain ⟨A2, c2, hv2, hx2⟩ : ∃ A2 c2, MsV w A2 c2 ((otherL c.ports.length L n y).getD j default) ∧ ((j = n ∧ A2 = xA ∧ c2 = xm ∧ (otherL c.ports.length L n y).getD j default = y) ∨ (j ≠ n ∧ A2 = A1 ∧ c2 = c1 ∧ (otherL c.ports.length L n y).getD j default = y1)) := by
                    by_cases h1 : j = n
                    · have h2 : (otherL c.ports.length L n y).getD j default = y := by rw [HML.out, if_pos h1]
                      exact ⟨xA, xm, by rw [h2]; exact HXv.out, .inl ⟨h1, rfl, rfl, h2⟩⟩
                    · have h2 : (otherL c.ports.length L n y).getD j default = y1 := by rw [HML.out, if_neg h1]
                      exact ⟨A1, c1, by rw [h2]; exact HV1.out, .inr ⟨h1, rfl, rfl, h2⟩⟩
                  have HJ : Hid ((otherL c.ports.length L n y)[j]? = some ((otherL c.ports.length L n y).getD j default)) := by
                    show _ = _
                    rw [List.getD_eq_getElem?_getD, List.getElem?_eq_getElem (by rw [otherL_len]; exact hlt)]; rfl
                  have HV2 := hide hv2
                  clear hv2 HML
                  generalize (otherL c.ports.length L n y).getD j default = y2 at HV2 hx2 HJ
                  have HX2 := hide hx2
                  clear hx2
                  go_upto_if 93 with fail
                  go_cut [79] from 79 to 100 (fun s79 wx => s79 = .int .i64 (j : Int) ∧ YkS w6 W1 wx wr.heap.size #[.slice A2 y2.data.length c2, .bool y2.is])
                  case first =>
                    rcases HX2.out with ⟨h1, e1, e2, e3⟩ | ⟨h1, e1, e2, e3⟩
                    · have h2 : ((j : Int) == (n : Int)) = true := by simp [h1]
                      have hot := (HY2.out.bel.block _ (by have := HS6.out.lt; omega)).trans HS6.out.ot
                      have z1 : wc.cell? ⟨w.heap.size + 1, 1, none⟩ = some (.slice xA y.data.length xm) := by rw [cell_of_row _ _ _ _ _ _ hot]; rfl
                      have z2 : wc.cell? ⟨w.heap.size + 1, 1 + 1, none⟩ = some (.bool y.is) := by rw [cell_of_row _ _ _ _ _ _ hot]; rfl
                      clear hot
                      go_wp2_with (refine wpList_store_row rfl 58 (.tmp 12) (.tmp 95) rfl wr.heap.size #[.slice xA y.data.length xm, .bool y.is] rfl rfl 58 _ HY2.out.blk info_msg1 rfl (by simp [Value.oneCell']) ?_)
                      go_meet
                      rw [e1, e2, e3]
                      exact ⟨rfl, HY2.out.set hwl⟩
                    · have h2 : ((j : Int) == (n : Int)) = false := by rw [beq_eq_false_iff_ne]; omega
                      go_wp2_with fail
                      go_meet
                      rw [e1, e2, e3]
                      exact ⟨rfl, HY2.out⟩
                  case rest =>
                    rename World => we
                    obtain ⟨rfl, hcut⟩ := hcut
                    have HY3 := hide hcut
                    clear hcut HY2 HX2 k0
                    have y0 : we.cell? ⟨wr.heap.size, 0, none⟩ = some (.slice A2 y2.data.length c2) := by rw [cell_of_row _ _ _ _ _ _ HY3.out.blk]; rfl
                    have y1' : we.cell? ⟨wr.heap.size, 0 + 1, none⟩ = some (.bool y2.is) := by rw [cell_of_row _ _ _ _ _ _ HY3.out.blk]; rfl
                    have y1'' : we.cell? ⟨wr.heap.size, 1, none⟩ = some (.bool y2.is) := y1'
                    have hze : wr.heap.size < we.heap.size := by have h1 := HY3.out.siz; have h2 := HZ1.out; omega
                    have hbe := bal we (.cells #[.slice A2 y2.data.length c2, .bool y2.is] 58)
                    have hrow := HR.out.row
                    rw [HRL.out] at hrow
                    have hblk := fun k (hk : (Value.slice vA j vc).ownBlock = some k) => (ow_block hrow hk).1
                    have how0 := ow_below (ow_stands (W' := we) hrow fun k hk => by
                      have h1 := hblk k hk
                      rw [HY3.out.oth k (by omega), HW1.out k h1]) hbe
                    have HOW := hide how0
                    have HNW := hide (heap_alloc_new we (.cells #[.slice A2 y2.data.length c2, .bool y2.is] 58))
                    have hbase : w6.heap.size ≤ (we.alloc (.cells #[.slice A2 y2.data.length c2, .bool y2.is] 58)).heap.size := by rw [World.size_alloc]; omega
                    have HBE := hide (HY3.out.bel.trans (hbe.mono (show w6.heap.size ≤ we.heap.size by omega)))
                    have HOB := hide (fun k (hk : (Value.slice vA j vc).ownBlock = some k) => (ow_block hrow hk).2.1)
                    have HMSR := hide HR.out.ms
                    clear hbe hrow hblk how0 HR HBW HY3
                    go_wp2_with (refine wpList_one _ rfl (.tmp 96) (.tmp 98) 29 rfl 58 (.agg #[.slice none 0 0, .bool false]) 2 32 Tryd.underlying29 info_msg rfl (by omega) (by omega) w6.heap.size _ _ _ rfl HOW.out we.heap.size 1 [.slice A2 y2.data.length c2, .bool y2.is] rfl HNW.out rfl (by simp [Value.oneCell']) (by omega) hbase ?_; intro v' W' how hgr hor; obtain ⟨vB, vd, rfl⟩ := ow_slice how; have HHO := hide how; have HGR := hide hgr; clear how hgr hor)
                    go_roundw
                    case rel =>
                      refine ⟨j + 1, R ++ [(y2, .slice A2 y2.data.length c2)], HKL.out, by go_num, HBE.out.grown HGR.out hbase HOB.out, ⟨?_, fun p hp => ?_⟩, ?_⟩
                      · rw [List.length_append, HRL.out, List.flatMap_append]
                        exact HHO.out
                      · rcases List.mem_append.1 hp with hp | hp
                        · exact HMSR.out p hp
                        · obtain rfl := List.mem_singleton.1 hp
                          exact ⟨A2, c2, rfl, HV2.out⟩
                      · rw [List.map_append, HRM.out, List.take_add_one, HJ.out]; rfl
                    case measure => have := HKL.out; simp [intOf]; omega
              · obtain rfl : j = c.ports.length := by omega
                have hto : (otherL c.ports.length L n y).take c.ports.length = otherL c.ports.length L n y := List.take_of_length_le (by rw [otherL_len]; omega)
                rw [hto] at HRM
                have hwl := HBW.out.size
                have hw6 := HS6.out.cf.bel.size
                have hwr := HS6.out.cf.bel.trans (HBW.out.mono hw6)
                have hM7 : MsAt wr vA (otherL c.ports.length L n y) := by
                  rw [← HRM.out]
                  have h1 := HR.out
                  have h2 := HRL.out
                  rw [← h2] at h1
                  exact h1.to (fun j hj => hwr.block j hj) hwr.size
                have hMl := otherL_len c.ports.length L n y
                clear hto HRM HRL HR
                generalize otherL c.ports.length L n y = M at hM7 hMl HAP hcl
                have HMM := hide hM7; have HML := hide hMl
                have HS7 := hide (HS6.out.below HBW.out)
                have HK7 := hide ((HBW.out.block _ hK6l).trans HK6.out)
                clear hM7 hMl HS6 HK6 HBW hK6l hw6 hwl
                have hr1 := bal wr (.cells #[.slice A L.length m, .slice none 0 0] 37)
                have hx1 := heap_alloc_new wr (.cells #[.slice A L.length m, .slice none 0 0] 37)
                have hs1 : (wr.alloc (.cells #[.slice A L.length m, .slice none 0 0] 37)).heap.size = wr.heap.size + 1 := by simp
                have hr2 := bal (wr.alloc (.cells #[.slice A L.length m, .slice none 0 0] 37)) (.cells #[.slice vA c.ports.length vc, .slice none 0 0] 37)
                have hx2 := heap_alloc_new (wr.alloc (.cells #[.slice A L.length m, .slice none 0 0] 37)) (.cells #[.slice vA c.ports.length vc, .slice none 0 0] 37)
                have hs2 : ((wr.alloc (.cells #[.slice A L.length m, .slice none 0 0] 37)).alloc (.cells #[.slice vA c.ports.length vc, .slice none 0 0] 37)).heap.size = wr.heap.size + 2 := by simp
                have HBQ : Hid (Below wr.heap.size wr ((wr.alloc (.cells #[.slice A L.length m, .slice none 0 0] 37)).alloc (.cells #[.slice vA c.ports.length vc, .slice none 0 0] 37))) := hr1.trans (hr2.mono (by omega))
                have HXA := hide ((hr2.block wr.heap.size (by omega)).trans hx1)
                have HXB := hide hx2
                rw [hs1] at HXB
                have HZQ := hide hs2
                clear hr1 hx1 hs1 hr2 hx2 hs2
                go_upto_region 18 with fail
                generalize (wr.alloc (.cells #[.slice A L.length m, .slice none 0 0] 37)).alloc (.cells #[.slice vA c.ports.length vc, .slice none 0 0] 37) = wq at HBQ HXA HXB HZQ ⊢
                have HSQ := hide (HS7.out.below HBQ.out)
                have HKQ := hide ((HBQ.out.block _ (Array.getElem?_eq_some_iff.1 HK7.out).1).trans HK7.out)
                have hkr := (Array.getElem?_eq_some_iff.1 HK7.out).1
                have hot := HS7.out.lt
                have HMA := hide (HMs.out.of_below hwr (Nat.le_refl _))
                have hwrs := hwr.size
                clear HS7 HK7 HMs hwr
                obtain ⟨_, ⟨_, e0, e1, e2, e3, e4, e5, e6, e7, e8, e9, e10, e11⟩, _, _⟩ := HSQ.out.cf
                dsimp only at e0 e1 e2 e3 e4 e5 e6 e7 e8 e9 e10 e11
                go_wp2_with fail
                refine (HPk3.out wq HSQ.out.cf wr wr.heap.size A m L HMA.out HBQ.out (Nat.le_refl _) (by have := HZQ.out; omega) HXA.out).mono ?_
                rintro e w8 ⟨rfl, hb8, hk8, _⟩
                have hs8 := hb8.size
                have HS8 := hide (HSQ.out.only HG.out HCf.out (HSQ.out.cf.bel.trans (hb8.mono hwrs)) (fun j hj => hb8.block j (by omega)))
                have HK8 := hide ((hb8.block _ hkr).trans HKQ.out)
                have HXB8 := hide ((hk8 (wr.heap.size + 1) (by have := HZQ.out; omega) (by rintro (h | h | h) <;> first | omega | cases h)).trans HXB.out)
                have HB8 := hide (HBQ.out.trans hb8)
                have hz8 : wr.heap.size + 2 ≤ w8.heap.size := by have := HZQ.out; omega
                obtain ⟨P1, hP1⟩ : ∃ P, packF (isL L) (dtL L) zero64 (ownL c nd c.links.length) = P := ⟨_, rfl⟩
                obtain ⟨P2, hP2⟩ : ∃ P, packF (isL M) (dtL M) zero64 (ownL c nd c.links.length) = P := ⟨_, rfl⟩
                rw [hP1, hP2] at HAP
                rw [hP1]
                have hPl1 : P1.length = 64 := by rw [← hP1]; exact packF_len _ _ (by simp [zero64]) (own_fit HM.out (Nat.le_refl _))
                have hPl2 : P2.length = 64 := by rw [← hP2]; exact packF_len _ _ (by simp [zero64]) (own_fit HM.out (Nat.le_refl _))
                have HPb2 : Hid (∀ b ∈ P2, b < 256) := by
                  show ∀ b ∈ P2, b < 256
                  rw [← hP2]
                  refine packF_bytes _ _ (fun b hb => ?_) (dtl_bytes HMM.out)
                  unfold zero64 at hb
                  rw [List.mem_replicate] at hb
                  omega
                have HY2 : Hid (yesF P2 (lrF c k) = hasB c M (n : Int)) := by
                  show _ = _
                  rw [← hcl, ← hP2]
                  exact yes_pack HM.out HMem.out
                have HT2 : Hid (hasB c M (n : Int) = true → textF P2 (lrF c k) = dtL M (n : Int)) := fun h => by
                  rw [← HSR.out, ← hP2]
                  exact text_pack HM.out HMem.out (by rw [hcl]; exact h)
                obtain ⟨pp1, hpp1⟩ : ∃ pp, bys P1 = pp := ⟨_, rfl⟩
                obtain ⟨pp2, hpp2⟩ : ∃ pp, bys P2 = pp := ⟨_, rfl⟩
                obtain ⟨zz, hzz⟩ : ∃ zz, bys zero64 = zz := ⟨_, rfl⟩
                have hzc := zero_cells
                rw [hzz] at hzc
                rw [hpp1]
                have HIQ : Hid (∀ p : List Nat, p.length = 64 → (Tryd.prog.info? 38).map (·.size) = some (bys p).size) := fun p hp => by rw [info_payP, bys_size, hp]
                have HZS : Hid (∀ p : List Nat, p.length = 64 → zz.size = (bys p).size) := fun p hp => by rw [bys_size, hp, ← hzz, bys_size]; simp [zero64]
                have HONE : Hid (∀ p : List Nat, (bys p).all (·.oneCell') = true) := fun p => by unfold bys; simp [Value.oneCell']
                have hi1 := HIQ.out P1 hPl1; have hi2 := HIQ.out P2 hPl2; have hq1 := HZS.out P1 hPl1; have hq2 := HZS.out P2 hPl2; have ho1 := HONE.out P1; have ho2 := HONE.out P2
                rw [hpp1] at hi1 hq1 ho1
                rw [hpp2] at hi2 hq2 ho2
                have HI1 := hide hi1; have HI2 := hide hi2; have HQ1 := hide hq1; have HQ2 := hide hq2; have HO1 := hide ho1; have HO2 := hide ho2
                have HPP1 := hide hpp1; have HPP2 := hide hpp2
                obtain ⟨hr1, hr2⟩ := row_made w8 zz pp1 38
                have HR1 := hide hr1; have HR2 := hide hr2
                have HN8 := hide (heap_alloc_new w8 (.cells zz 38))
                have HP2 := hide hP2
                clear hb8 hk8 hi1 hi2 hq1 hq2 ho1 ho2 hpp1 hpp2 hr1 hr2 HIQ HZS HONE hP1 hP2 HXA HXB HSQ HKQ HBQ hs8 hcl e0 e1 e2 e3 e4 e5 e6 e7 e8 e9 e10 e11
                go_upto_region 19 with (refine wpList_store_row rfl 38 (.tmp 15) (.tmp 113) rfl w8.heap.size pp1 rfl rfl 38 _ HN8.out HI1.out HQ1.out HO1.out ?_)
                generalize (w8.alloc (.cells zz 38)).setRow w8.heap.size pp1 = w9 at HR1 HR2 ⊢
                have HS9 := hide (HS8.out.below HR1.out)
                have HK9 := hide ((HR1.out.block _ (Array.getElem?_eq_some_iff.1 HK8.out).1).trans HK8.out)
                have HXB9 := hide ((HR1.out.block _ (Array.getElem?_eq_some_iff.1 HXB8.out).1).trans HXB8.out)
                have HB9 := hide (HB8.out.trans (HR1.out.mono (by omega)))
                have hz9 : w8.heap.size < w9.heap.size := (Array.getElem?_eq_some_iff.1 HR2.out).1
                clear HS8 HK8 HXB8 HB8 HN8 HR1 HI1 HQ1 HO1
                obtain ⟨_, ⟨_, e0, e1, e2, e3, e4, e5, e6, e7, e8, e9, e10, e11⟩, _, _⟩ := HS9.out.cf
                dsimp only at e0 e1 e2 e3 e4 e5 e6 e7 e8 e9 e10 e11
                have hxb : w9.heap[wr.heap.size + 1]? = some (.cells #[.slice vA M.length vc, .slice none 0 0] 37 (0, 0)) := by rw [HML.out]; exact HXB9.out
                have hpk := HPk3.out w9 HS9.out.cf wr (wr.heap.size + 1) vA vc M HMM.out HB9.out (by omega) (by omega) hxb
                rw [HP2.out, HPP2.out] at hpk
                have HPK4 := hide hpk
                clear hpk hxb HPk3
                go_wp2_with fail
                refine HPK4.out.mono ?_
                rintro e w10 ⟨rfl, hb10, hk10, _⟩
                have hs10 := hb10.size
                have HS10 := hide (HS9.out.only HG.out HCf.out (HS9.out.cf.bel.trans (hb10.mono hwrs)) (fun j hj => hb10.block j (by omega)))
                have HK10 := hide ((hb10.block _ hkr).trans HK9.out)
                have HG10 := hide ((hk10 w8.heap.size hz9 (by rintro (h | h | h) <;> first | omega | cases h)).trans HR2.out)
                have HM10 := hide (HMM.out.of_below (HB9.out.trans hb10) (Nat.le_refl _))
                obtain ⟨hr1, hr2⟩ := row_made w10 zz pp2 38
                have HR3 := hide hr1; have HR4 := hide hr2
                have HN10 := hide (heap_alloc_new w10 (.cells zz 38))
                clear hb10 hk10 hr1 hr2 HS9 HK9 HXB9 HB9 HR2 HPK4 HMM e0 e1 e2 e3 e4 e5 e6 e7 e8 e9 e10 e11
                go_upto_region 20 with (refine wpList_store_row rfl 38 (.tmp 17) (.tmp 121) rfl w10.heap.size pp2 rfl rfl 38 _ HN10.out HI2.out HQ2.out HO2.out ?_)
                generalize (w10.alloc (.cells zz 38)).setRow w10.heap.size pp2 = w11 at HR3 HR4 ⊢
                have HS11 := hide (HS10.out.below HR3.out)
                have HK11 := hide ((HR3.out.block _ (Array.getElem?_eq_some_iff.1 HK10.out).1).trans HK10.out)
                have HG11 := hide ((HR3.out.block _ (Array.getElem?_eq_some_iff.1 HG10.out).1).trans HG10.out)
                have HM11 := hide (HM10.out.of_below HR3.out (Nat.le_refl _))
                clear HS10 HK10 HG10 HM10 HR3 HN10 HI2 HQ2 HO2 hzc hzz
                go_wp2_with fail
                go_loopw [129, 19] (fun i s19 W => ∃ j : Nat, j ≤ 64 ∧ i = .int .i64 j ∧ Below w11.heap.size w11 W) (fun i _ _ => 64 - (intOf i).toNat)
                case atStart => exact ⟨0, by omega, rfl, Below.refl _ _⟩
                case round =>
                  obtain ⟨j, hj, rfl, hbw⟩ := hrel
                  have HS12 := hide (HS11.out.below hbw)
                  have HK12 := hide ((hbw.block _ (Array.getElem?_eq_some_iff.1 HK11.out).1).trans HK11.out)
                  have HG12 := hide ((hbw.block _ (Array.getElem?_eq_some_iff.1 HG11.out).1).trans HG11.out)
                  have HQ12 := hide ((hbw.block _ (Array.getElem?_eq_some_iff.1 HR4.out).1).trans HR4.out)
                  have HBD : Hid (Below w11.heap.size w11 wr.drew) := vdrewN hbw 1
                  have k0 : wr.cell? ⟨w4.heap.size, 0, none⟩ = some (.int .i64 (n : Int)) := by rw [cell_of_row _ _ _ _ _ _ HK12.out]; rfl
                  have k2 : wr.cell? ⟨w4.heap.size, 2, none⟩ = some (.int .i64 (o : Int)) := by rw [cell_of_row _ _ _ _ _ _ HK12.out]; rfl
                  have f3 := HF3.out wr HS12.out.cf.bel
                  obtain ⟨_, ⟨_, e0, e1, e2, e3, e4, e5, e6, e7, e8, e9, e10, e11⟩, _, _⟩ := HS12.out.cf
                  dsimp only at e0 e1 e2 e3 e4 e5 e6 e7 e8 e9 e10 e11
                  have hos := HPL.out
                  by_cases hlt : j < 64
                  · have p0 := pay_cell HG12.out HPP1.out (show j < P1.length by omega)
                    have q0 := pay_cell HQ12.out HPP2.out (show j < P2.length by omega)
                    have HKL := hide (show j + 1 ≤ 64 by omega)
                    clear hbw HS11 HK11 HG11 HR4 HM11
                    clear HHas HMem HY2 HT2 HPb2 HND HHN HXv HBytes HL hl0 hl1 hnp64 HMA HP2 HPP1 HPP2 HS12 HK12 HG12 HQ12 HG HCf HF3 HM HML hgl hy hzn hk hkl hlb hnl64 hdl hlk hql hndr HIN hot hwrs hkr hz8 hz9 hs10
                    by_cases hpq : P1.getD j 0 = P2.getD j 0
                    · rw [hpq] at p0
                      generalize P2.getD j 0 = v at p0 q0
                      have hvv : ((v : Int) != (v : Int)) = false := by simp
                      clear hpq e0 e1 e2 e3 e4 e5 e6 e7 e8 e9 e10 e11 k0 k2 f3 HAP HOF HSZ HSR HPL hos hPl1 hPl2
                      go_wp2_with fail
                      as_aux_lemma =>
                        refine wp_region_held_drew (S := fun w' => w'.cell? ⟨w8.heap.size, j, none⟩ = some (.int .u8 (v : Int)) ∧ w'.cell? ⟨w10.heap.size, j, none⟩ = some (.int .u8 (v : Int))) (by kernel_rfl) (⟨p0, q0⟩) (fun hHeld => ?_)
                        refine wpAnyH_take (i := 0) (v := ?v1_0) rfl (by kernel_rfl) (by kernel_rfl) (by kernel_rfl) (fun _ _ _ h => h) (Or.inl ⟨by kernel_rfl, ?y1_0⟩) (by assumption) ?r1_0
                        case y1_0 => (intro W hSW; (try dsimp only at hSW); go_simp; (try with_reducible rfl))
                        change wpAnyH _ _ _ _ _ _ _ (Act.put _ (some 132) _) _
                        (try simp only [Act.put, List.setIfInBounds_toArray, List.set_cons_zero, List.set_cons_succ])
                        refine wpAnyH_take (i := 1) (v := ?v1_1) rfl (by kernel_rfl) (by kernel_rfl) (by kernel_rfl) (fun _ _ _ h => h) (Or.inl ⟨by kernel_rfl, ?y1_1⟩) (by assumption) ?r1_1
                        case y1_1 => (intro W hSW; (try dsimp only at hSW); go_simp; (try with_reducible rfl))
                        change wpAnyH _ _ _ _ _ _ _ (Act.put _ (some 133) _) _
                        (try simp only [Act.put, List.setIfInBounds_toArray, List.set_cons_zero, List.set_cons_succ])
                        refine wpAnyH_take (i := 2) (v := ?v1_2) rfl (by kernel_rfl) (by kernel_rfl) (by kernel_rfl) (fun _ _ _ h => h) (Or.inl ⟨by kernel_rfl, ?y1_2⟩) (by assumption) ?r1_2
                        case y1_2 => (intro W hSW; (try dsimp only at hSW); go_simp; (try with_reducible rfl))
                        change wpAnyH _ _ _ _ _ _ _ (Act.put _ (some 134) _) _
                        (try simp only [Act.put, List.setIfInBounds_toArray, List.set_cons_zero, List.set_cons_succ])
                        refine wpAnyH_take (i := 3) (v := ?v1_3) rfl (by kernel_rfl) (by kernel_rfl) (by kernel_rfl) (fun _ _ _ h => h) (Or.inl ⟨by kernel_rfl, ?y1_3⟩) (by assumption) ?r1_3
                        case y1_3 => (intro W hSW; (try dsimp only at hSW); go_simp; (try with_reducible rfl))
                        change wpAnyH _ _ _ _ _ _ _ (Act.put _ (some 135) _) _
                        (try simp only [Act.put, List.setIfInBounds_toArray, List.set_cons_zero, List.set_cons_succ])
                        refine wpAnyH_take (i := 4) (v := ?v1_4) rfl (by kernel_rfl) (by kernel_rfl) (by kernel_rfl) (fun _ _ _ h => h) (Or.inl ⟨by kernel_rfl, ?y1_4⟩) (by assumption) ?r1_4
                        case y1_4 => (intro W hSW; (try dsimp only at hSW); go_simp; (try with_reducible rfl))
                        change wpAnyH _ _ _ _ _ _ _ (Act.put _ (some 136) _) _
                        (try simp only [Act.put, List.setIfInBounds_toArray, List.set_cons_zero, List.set_cons_succ])
                        refine wpAnyH_take (i := 5) (v := ?v1_5) rfl (by kernel_rfl) (by kernel_rfl) (by kernel_rfl) (fun _ _ _ h => h) (Or.inl ⟨by kernel_rfl, ?y1_5⟩) (by assumption) ?r1_5
                        case y1_5 => (intro W hSW; (try dsimp only at hSW); go_simp; (try with_reducible rfl))
                        change wpAnyH _ _ _ _ _ _ _ (Act.put _ (some 137) _) _
                        (try simp only [Act.put, List.setIfInBounds_toArray, List.set_cons_zero, List.set_cons_succ])
                        refine wpAnyH_take (i := 6) (v := ?v1_6) rfl (by kernel_rfl) (by kernel_rfl) (by kernel_rfl) (fun _ _ _ h => h) (Or.inl ⟨by kernel_rfl, ?y1_6⟩) (by assumption) ?r1_6
                        case y1_6 => (intro W hSW; (try dsimp only at hSW); go_simp; (try with_reducible rfl))
                        change wpAnyH _ _ _ _ _ _ _ (Act.put _ (some 138) _) _
                        (try simp only [Act.put, List.setIfInBounds_toArray, List.set_cons_zero, List.set_cons_succ])
                        refine wpAnyH_take (i := 7) (v := ?v1_7) rfl (by kernel_rfl) (by kernel_rfl) (by kernel_rfl) (fun _ _ _ h => h) (Or.inl ⟨by kernel_rfl, ?y1_7⟩) (by assumption) ?r1_7
                        case y1_7 => (intro W hSW; (try dsimp only at hSW); go_simp; (try with_reducible rfl))
                        change wpAnyH _ _ _ _ _ _ _ (Act.put _ (some 139) _) _
                        (try simp only [Act.put, List.setIfInBounds_toArray, List.set_cons_zero, List.set_cons_succ])
                        refine wpAnyH_take (i := 8) (v := undef) rfl (by kernel_rfl) (by kernel_rfl) (by kernel_rfl) (fun _ _ _ h => h) (Or.inr ⟨by kernel_rfl, rfl⟩) (by assumption) ?_
                        change wpAnyH _ _ _ _ _ _ _ (Act.put _ (some 140) _) _
                        (try simp only [Act.put, List.setIfInBounds_toArray, List.set_cons_zero, List.set_cons_succ])
                        refine wpAnyH_take (i := 9) (v := undef) rfl (by kernel_rfl) (by kernel_rfl) (by kernel_rfl) (fun _ _ _ h => h) (Or.inr ⟨by kernel_rfl, rfl⟩) (by assumption) ?_
                        change wpAnyH _ _ _ _ _ _ _ (Act.put _ (some 141) _) _
                        (try simp only [Act.put, List.setIfInBounds_toArray, List.set_cons_zero, List.set_cons_succ])
                        refine wpAnyH_take (i := 10) (v := undef) rfl (by kernel_rfl) (by kernel_rfl) (by kernel_rfl) (fun _ _ _ h => h) (Or.inr ⟨by kernel_rfl, rfl⟩) (by assumption) ?_
                        change wpAnyH _ _ _ _ _ _ _ (Act.put _ (some 142) _) _
                        (try simp only [Act.put, List.setIfInBounds_toArray, List.set_cons_zero, List.set_cons_succ])
                        refine wpAnyH_take (i := 11) (v := undef) rfl (by kernel_rfl) (by kernel_rfl) (by kernel_rfl) (fun _ _ _ h => h) (Or.inr ⟨by kernel_rfl, rfl⟩) (by assumption) ?_
                        change wpAnyH _ _ _ _ _ _ _ (Act.put _ (some 143) _) _
                        (try simp only [Act.put, List.setIfInBounds_toArray, List.set_cons_zero, List.set_cons_succ])
                        refine wpAnyH_take (i := 12) (v := undef) rfl (by kernel_rfl) (by kernel_rfl) (by kernel_rfl) (fun _ _ _ h => h) (Or.inr ⟨by kernel_rfl, rfl⟩) (by assumption) ?_
                        change wpAnyH _ _ _ _ _ _ _ (Act.put _ (some 144) _) _
                        (try simp only [Act.put, List.setIfInBounds_toArray, List.set_cons_zero, List.set_cons_succ])
                        refine wpAnyH_take (i := 13) (v := undef) rfl (by kernel_rfl) (by kernel_rfl) (by kernel_rfl) (fun _ _ _ h => h) (Or.inr ⟨by kernel_rfl, rfl⟩) (by assumption) ?_
                        change wpAnyH _ _ _ _ _ _ _ (Act.put _ (some 145) _) _
                        (try simp only [Act.put, List.setIfInBounds_toArray, List.set_cons_zero, List.set_cons_succ])
                        refine wpAnyH_take (i := 14) (v := undef) rfl (by kernel_rfl) (by kernel_rfl) (by kernel_rfl) (fun _ _ _ h => h) (Or.inr ⟨by kernel_rfl, rfl⟩) (by assumption) ?_
                        change wpAnyH _ _ _ _ _ _ _ (Act.put _ (some 146) _) _
                        (try simp only [Act.put, List.setIfInBounds_toArray, List.set_cons_zero, List.set_cons_succ])
                        refine wpAnyH_take (i := 15) (v := undef) rfl (by kernel_rfl) (by kernel_rfl) (by kernel_rfl) (fun _ _ _ h => h) (Or.inr ⟨by kernel_rfl, rfl⟩) (by assumption) ?_
                        change wpAnyH _ _ _ _ _ _ _ (Act.put _ (some 147) _) _
                        (try simp only [Act.put, List.setIfInBounds_toArray, List.set_cons_zero, List.set_cons_succ])
                        refine wpAnyH_take (i := 16) (v := undef) rfl (by kernel_rfl) (by kernel_rfl) (by kernel_rfl) (fun _ _ _ h => h) (Or.inr ⟨by kernel_rfl, rfl⟩) (by assumption) ?_
                        change wpAnyH _ _ _ _ _ _ _ (Act.put _ (some 148) _) _
                        (try simp only [Act.put, List.setIfInBounds_toArray, List.set_cons_zero, List.set_cons_succ])
                        refine wpAnyH_take (i := 17) (v := undef) rfl (by kernel_rfl) (by kernel_rfl) (by kernel_rfl) (fun _ _ _ h => h) (Or.inr ⟨by kernel_rfl, rfl⟩) (by assumption) ?_
                        change wpAnyH _ _ _ _ _ _ _ (Act.put _ (some 149) _) _
                        (try simp only [Act.put, List.setIfInBounds_toArray, List.set_cons_zero, List.set_cons_succ])
                        refine wpAnyH_take (i := 18) (v := undef) rfl (by kernel_rfl) (by kernel_rfl) (by kernel_rfl) (fun _ _ _ h => h) (Or.inr ⟨by kernel_rfl, rfl⟩) (by assumption) ?_
                        change wpAnyH _ _ _ _ _ _ _ (Act.put _ (some 150) _) _
                        (try simp only [Act.put, List.setIfInBounds_toArray, List.set_cons_zero, List.set_cons_succ])
                        refine wpAnyH_take (i := 19) (v := undef) rfl (by kernel_rfl) (by kernel_rfl) (by kernel_rfl) (fun _ _ _ h => h) (Or.inr ⟨by kernel_rfl, rfl⟩) (by assumption) ?_
                        change wpAnyH _ _ _ _ _ _ _ (Act.put _ (some 151) _) _
                        (try simp only [Act.put, List.setIfInBounds_toArray, List.set_cons_zero, List.set_cons_succ])
                        refine wpAnyH_take (i := 20) (v := undef) rfl (by kernel_rfl) (by kernel_rfl) (by kernel_rfl) (fun _ _ _ h => h) (Or.inr ⟨by kernel_rfl, rfl⟩) (by assumption) ?_
                        change wpAnyH _ _ _ _ _ _ _ (Act.put _ (some 152) _) _
                        (try simp only [Act.put, List.setIfInBounds_toArray, List.set_cons_zero, List.set_cons_succ])
                        refine wpAnyH_take (i := 21) (v := undef) rfl (by kernel_rfl) (by kernel_rfl) (by kernel_rfl) (fun _ _ _ h => h) (Or.inr ⟨by kernel_rfl, rfl⟩) (by assumption) ?_
                        change wpAnyH _ _ _ _ _ _ _ (Act.put _ (some 153) _) _
                        (try simp only [Act.put, List.setIfInBounds_toArray, List.set_cons_zero, List.set_cons_succ])
                        refine wpAnyH_take (i := 22) (v := undef) rfl (by kernel_rfl) (by kernel_rfl) (by kernel_rfl) (fun _ _ _ h => h) (Or.inr ⟨by kernel_rfl, rfl⟩) (by assumption) ?_
                        change wpAnyH _ _ _ _ _ _ _ (Act.put _ (some 154) _) _
                        (try simp only [Act.put, List.setIfInBounds_toArray, List.set_cons_zero, List.set_cons_succ])
                        refine wpAnyH_take (i := 23) (v := undef) rfl (by kernel_rfl) (by kernel_rfl) (by kernel_rfl) (fun _ _ _ h => h) (Or.inr ⟨by kernel_rfl, rfl⟩) (by assumption) ?_
                        change wpAnyH _ _ _ _ _ _ _ (Act.put _ (some 155) _) _
                        (try simp only [Act.put, List.setIfInBounds_toArray, List.set_cons_zero, List.set_cons_succ])
                        refine wpAnyH_take (i := 24) (v := undef) rfl (by kernel_rfl) (by kernel_rfl) (by kernel_rfl) (fun _ _ _ h => h) (Or.inr ⟨by kernel_rfl, rfl⟩) (by assumption) ?_
                        change wpAnyH _ _ _ _ _ _ _ (Act.put _ (some 156) _) _
                        (try simp only [Act.put, List.setIfInBounds_toArray, List.set_cons_zero, List.set_cons_succ])
                        refine wpAnyH_take (i := 25) (v := undef) rfl (by kernel_rfl) (by kernel_rfl) (by kernel_rfl) (fun _ _ _ h => h) (Or.inr ⟨by kernel_rfl, rfl⟩) (by assumption) ?_
                        change wpAnyH _ _ _ _ _ _ _ (Act.put _ (some 157) _) _
                        (try simp only [Act.put, List.setIfInBounds_toArray, List.set_cons_zero, List.set_cons_succ])
                        refine wpAnyH_take (i := 26) (v := ?v1_26) rfl (by kernel_rfl) (by kernel_rfl) (by kernel_rfl) (fun _ _ _ h => h) (Or.inl ⟨by kernel_rfl, ?y1_26⟩) (by assumption) ?r1_26
                        case y1_26 => (intro W hSW; (try dsimp only at hSW); go_simp; (try with_reducible rfl))
                        change wpAnyH _ _ _ _ _ _ _ (Act.put _ (some 158) _) _
                        (try simp only [Act.put, List.setIfInBounds_toArray, List.set_cons_zero, List.set_cons_succ])
                        refine wpAnyH_done (by kernel_rfl) ?_ _
                        go_wp2_with fail
                        go_roundw
                        case rel => exact ⟨j + 1, HKL.out, by go_num, HBD.out⟩
                        case measure => have := HKL.out; simp [intOf]; omega
                    · have hin : o ≤ j ∧ j < o + 1 + s := Classical.byContradiction fun hn => hpq (HAP.out j (by rw [HOF.out, HSZ.out]; simpa using hn))
                      have huv : (((P1.getD j 0 : Nat) : Int) != ((P2.getD j 0 : Nat) : Int)) = true := by rw [bne_iff_ne]; omega
                      generalize P1.getD j 0 = u at p0 huv
                      generalize P2.getD j 0 = v at q0 huv
                      have hd1 : decide (j < o) = false := decide_eq_false (by omega)
                      have hd2 : decide ((o : Int) + (s : Int) < (j : Int)) = false := decide_eq_false (by omega)
                      have hd3 : ¬ (j < o) := by omega
                      have hd4 : ¬ ((o : Int) + (s : Int) < (j : Int)) := by omega
                      have hw : IntKind.i64.wrap ((o : Int) + (s : Int)) = (o : Int) + (s : Int) := IntWalk.i64_in _ (by omega)
                      clear hpq e0 e1 e2 e3 e4 e5 e6 e7 e8 e9 e11 HAP HOF HSZ HSR HPL hos hPl1 hPl2 hin hps
                      go_wp2_with fail
                      as_aux_lemma =>
                        refine wp_region_held_drew (S := fun w' => w'.cell? ⟨w8.heap.size, j, none⟩ = some (.int .u8 (u : Int)) ∧ w'.cell? ⟨w10.heap.size, j, none⟩ = some (.int .u8 (v : Int)) ∧ w'.cell? ⟨w.heap.size, 10, none⟩ = some (.slice (some ⟨pb, po, none⟩) c.ports.length qC) ∧ w'.cell? ⟨pb, po + n * 6 + 3, none⟩ = some (.int .i64 (s : Int)) ∧ w'.cell? ⟨w4.heap.size, 0, none⟩ = some (.int .i64 (n : Int)) ∧ w'.cell? ⟨w4.heap.size, 2, none⟩ = some (.int .i64 (o : Int))) (by kernel_rfl) (⟨p0, q0, e10, f3, k0, k2⟩) (fun hHeld => ?_)
                        refine wpAnyH_take (i := 0) (v := ?v2_0) rfl (by kernel_rfl) (by kernel_rfl) (by kernel_rfl) (fun _ _ _ h => h) (Or.inl ⟨by kernel_rfl, ?y2_0⟩) (by assumption) ?r2_0
                        case y2_0 => (intro W hSW; (try dsimp only at hSW); go_simp; (try with_reducible rfl))
                        change wpAnyH _ _ _ _ _ _ _ (Act.put _ (some 132) _) _
                        (try simp only [Act.put, List.setIfInBounds_toArray, List.set_cons_zero, List.set_cons_succ])
                        refine wpAnyH_take (i := 1) (v := ?v2_1) rfl (by kernel_rfl) (by kernel_rfl) (by kernel_rfl) (fun _ _ _ h => h) (Or.inl ⟨by kernel_rfl, ?y2_1⟩) (by assumption) ?r2_1
                        case y2_1 => (intro W hSW; (try dsimp only at hSW); go_simp; (try with_reducible rfl))
                        change wpAnyH _ _ _ _ _ _ _ (Act.put _ (some 133) _) _
                        (try simp only [Act.put, List.setIfInBounds_toArray, List.set_cons_zero, List.set_cons_succ])
                        refine wpAnyH_take (i := 2) (v := ?v2_2) rfl (by kernel_rfl) (by kernel_rfl) (by kernel_rfl) (fun _ _ _ h => h) (Or.inl ⟨by kernel_rfl, ?y2_2⟩) (by assumption) ?r2_2
                        case y2_2 => (intro W hSW; (try dsimp only at hSW); go_simp; (try with_reducible rfl))
                        change wpAnyH _ _ _ _ _ _ _ (Act.put _ (some 134) _) _
                        (try simp only [Act.put, List.setIfInBounds_toArray, List.set_cons_zero, List.set_cons_succ])
                        refine wpAnyH_take (i := 3) (v := ?v2_3) rfl (by kernel_rfl) (by kernel_rfl) (by kernel_rfl) (fun _ _ _ h => h) (Or.inl ⟨by kernel_rfl, ?y2_3⟩) (by assumption) ?r2_3
                        case y2_3 => (intro W hSW; (try dsimp only at hSW); go_simp; (try with_reducible rfl))
                        change wpAnyH _ _ _ _ _ _ _ (Act.put _ (some 135) _) _
                        (try simp only [Act.put, List.setIfInBounds_toArray, List.set_cons_zero, List.set_cons_succ])
                        refine wpAnyH_take (i := 4) (v := ?v2_4) rfl (by kernel_rfl) (by kernel_rfl) (by kernel_rfl) (fun _ _ _ h => h) (Or.inl ⟨by kernel_rfl, ?y2_4⟩) (by assumption) ?r2_4
                        case y2_4 => (intro W hSW; (try dsimp only at hSW); go_simp; (try with_reducible rfl))
                        change wpAnyH _ _ _ _ _ _ _ (Act.put _ (some 136) _) _
                        (try simp only [Act.put, List.setIfInBounds_toArray, List.set_cons_zero, List.set_cons_succ])
                        refine wpAnyH_take (i := 5) (v := ?v2_5) rfl (by kernel_rfl) (by kernel_rfl) (by kernel_rfl) (fun _ _ _ h => h) (Or.inl ⟨by kernel_rfl, ?y2_5⟩) (by assumption) ?r2_5
                        case y2_5 => (intro W hSW; (try dsimp only at hSW); go_simp; (try with_reducible rfl))
                        change wpAnyH _ _ _ _ _ _ _ (Act.put _ (some 137) _) _
                        (try simp only [Act.put, List.setIfInBounds_toArray, List.set_cons_zero, List.set_cons_succ])
                        refine wpAnyH_take (i := 6) (v := ?v2_6) rfl (by kernel_rfl) (by kernel_rfl) (by kernel_rfl) (fun _ _ _ h => h) (Or.inl ⟨by kernel_rfl, ?y2_6⟩) (by assumption) ?r2_6
                        case y2_6 => (intro W hSW; (try dsimp only at hSW); go_simp; (try with_reducible rfl))
                        change wpAnyH _ _ _ _ _ _ _ (Act.put _ (some 138) _) _
                        (try simp only [Act.put, List.setIfInBounds_toArray, List.set_cons_zero, List.set_cons_succ])
                        refine wpAnyH_take (i := 7) (v := ?v2_7) rfl (by kernel_rfl) (by kernel_rfl) (by kernel_rfl) (fun _ _ _ h => h) (Or.inl ⟨by kernel_rfl, ?y2_7⟩) (by assumption) ?r2_7
                        case y2_7 => (intro W hSW; (try dsimp only at hSW); go_simp; (try with_reducible rfl))
                        change wpAnyH _ _ _ _ _ _ _ (Act.put _ (some 139) _) _
                        (try simp only [Act.put, List.setIfInBounds_toArray, List.set_cons_zero, List.set_cons_succ])
                        refine wpAnyH_take (i := 8) (v := ?v2_8) rfl (by kernel_rfl) (by kernel_rfl) (by kernel_rfl) (fun _ _ _ h => h) (Or.inl ⟨by kernel_rfl, ?y2_8⟩) (by assumption) ?r2_8
                        case y2_8 => (intro W hSW; (try dsimp only at hSW); go_simp; (try with_reducible rfl))
                        change wpAnyH _ _ _ _ _ _ _ (Act.put _ (some 140) _) _
                        (try simp only [Act.put, List.setIfInBounds_toArray, List.set_cons_zero, List.set_cons_succ])
                        refine wpAnyH_take (i := 9) (v := ?v2_9) rfl (by kernel_rfl) (by kernel_rfl) (by kernel_rfl) (fun _ _ _ h => h) (Or.inl ⟨by kernel_rfl, ?y2_9⟩) (by assumption) ?r2_9
                        case y2_9 => (intro W hSW; (try dsimp only at hSW); go_simp; (try with_reducible rfl))
                        change wpAnyH _ _ _ _ _ _ _ (Act.put _ (some 141) _) _
                        (try simp only [Act.put, List.setIfInBounds_toArray, List.set_cons_zero, List.set_cons_succ])
                        refine wpAnyH_take (i := 10) (v := ?v2_10) rfl (by kernel_rfl) (by kernel_rfl) (by kernel_rfl) (fun _ _ _ h => h) (Or.inl ⟨by kernel_rfl, ?y2_10⟩) (by assumption) ?r2_10
                        case y2_10 => (intro W hSW; (try dsimp only at hSW); go_simp; (try with_reducible rfl))
                        change wpAnyH _ _ _ _ _ _ _ (Act.put _ (some 142) _) _
                        (try simp only [Act.put, List.setIfInBounds_toArray, List.set_cons_zero, List.set_cons_succ])
                        refine wpAnyH_take (i := 11) (v := ?v2_11) rfl (by kernel_rfl) (by kernel_rfl) (by kernel_rfl) (fun _ _ _ h => h) (Or.inl ⟨by kernel_rfl, ?y2_11⟩) (by assumption) ?r2_11
                        case y2_11 => (intro W hSW; (try dsimp only at hSW); go_simp; (try with_reducible rfl))
                        change wpAnyH _ _ _ _ _ _ _ (Act.put _ (some 143) _) _
                        (try simp only [Act.put, List.setIfInBounds_toArray, List.set_cons_zero, List.set_cons_succ])
                        refine wpAnyH_take (i := 12) (v := ?v2_12) rfl (by kernel_rfl) (by kernel_rfl) (by kernel_rfl) (fun _ _ _ h => h) (Or.inl ⟨by kernel_rfl, ?y2_12⟩) (by assumption) ?r2_12
                        case y2_12 => (intro W hSW; (try dsimp only at hSW); go_simp; (try with_reducible rfl))
                        change wpAnyH _ _ _ _ _ _ _ (Act.put _ (some 144) _) _
                        (try simp only [Act.put, List.setIfInBounds_toArray, List.set_cons_zero, List.set_cons_succ])
                        refine wpAnyH_take (i := 13) (v := ?v2_13) rfl (by kernel_rfl) (by kernel_rfl) (by kernel_rfl) (fun _ _ _ h => h) (Or.inl ⟨by kernel_rfl, ?y2_13⟩) (by assumption) ?r2_13
                        case y2_13 => (intro W hSW; (try dsimp only at hSW); go_simp; (try with_reducible rfl))
                        change wpAnyH _ _ _ _ _ _ _ (Act.put _ (some 145) _) _
                        (try simp only [Act.put, List.setIfInBounds_toArray, List.set_cons_zero, List.set_cons_succ])
                        refine wpAnyH_take (i := 14) (v := ?v2_14) rfl (by kernel_rfl) (by kernel_rfl) (by kernel_rfl) (fun _ _ _ h => h) (Or.inl ⟨by kernel_rfl, ?y2_14⟩) (by assumption) ?r2_14
                        case y2_14 => (intro W hSW; (try dsimp only at hSW); go_simp; (try with_reducible rfl))
                        change wpAnyH _ _ _ _ _ _ _ (Act.put _ (some 146) _) _
                        (try simp only [Act.put, List.setIfInBounds_toArray, List.set_cons_zero, List.set_cons_succ])
                        refine wpAnyH_take (i := 15) (v := ?v2_15) rfl (by kernel_rfl) (by kernel_rfl) (by kernel_rfl) (fun _ _ _ h => h) (Or.inl ⟨by kernel_rfl, ?y2_15⟩) (by assumption) ?r2_15
                        case y2_15 => (intro W hSW; (try dsimp only at hSW); go_simp; (try with_reducible rfl))
                        change wpAnyH _ _ _ _ _ _ _ (Act.put _ (some 147) _) _
                        (try simp only [Act.put, List.setIfInBounds_toArray, List.set_cons_zero, List.set_cons_succ])
                        refine wpAnyH_take (i := 16) (v := ?v2_16) rfl (by kernel_rfl) (by kernel_rfl) (by kernel_rfl) (fun _ _ _ h => h) (Or.inl ⟨by kernel_rfl, ?y2_16⟩) (by assumption) ?r2_16
                        case y2_16 => (intro W hSW; (try dsimp only at hSW); go_simp; (try with_reducible rfl))
                        change wpAnyH _ _ _ _ _ _ _ (Act.put _ (some 148) _) _
                        (try simp only [Act.put, List.setIfInBounds_toArray, List.set_cons_zero, List.set_cons_succ])
                        refine wpAnyH_take (i := 17) (v := ?v2_17) rfl (by kernel_rfl) (by kernel_rfl) (by kernel_rfl) (fun _ _ _ h => h) (Or.inl ⟨by kernel_rfl, ?y2_17⟩) (by assumption) ?r2_17
                        case y2_17 => (intro W hSW; (try dsimp only at hSW); go_simp; (try with_reducible rfl))
                        change wpAnyH _ _ _ _ _ _ _ (Act.put _ (some 149) _) _
                        (try simp only [Act.put, List.setIfInBounds_toArray, List.set_cons_zero, List.set_cons_succ])
                        refine wpAnyH_take (i := 18) (v := ?v2_18) rfl (by kernel_rfl) (by kernel_rfl) (by kernel_rfl) (fun _ _ _ h => h) (Or.inl ⟨by kernel_rfl, ?y2_18⟩) (by assumption) ?r2_18
                        case y2_18 => (intro W hSW; (try dsimp only at hSW); go_simp; (try with_reducible rfl))
                        change wpAnyH _ _ _ _ _ _ _ (Act.put _ (some 150) _) _
                        (try simp only [Act.put, List.setIfInBounds_toArray, List.set_cons_zero, List.set_cons_succ])
                        refine wpAnyH_take (i := 19) (v := ?v2_19) rfl (by kernel_rfl) (by kernel_rfl) (by kernel_rfl) (fun _ _ _ h => h) (Or.inl ⟨by kernel_rfl, ?y2_19⟩) (by assumption) ?r2_19
                        case y2_19 => (intro W hSW; (try dsimp only at hSW); go_simp; (try with_reducible rfl))
                        change wpAnyH _ _ _ _ _ _ _ (Act.put _ (some 151) _) _
                        (try simp only [Act.put, List.setIfInBounds_toArray, List.set_cons_zero, List.set_cons_succ])
                        refine wpAnyH_take (i := 20) (v := ?v2_20) rfl (by kernel_rfl) (by kernel_rfl) (by kernel_rfl) (fun _ _ _ h => h) (Or.inl ⟨by kernel_rfl, ?y2_20⟩) (by assumption) ?r2_20
                        case y2_20 => (intro W hSW; (try dsimp only at hSW); go_simp; (try with_reducible rfl))
                        change wpAnyH _ _ _ _ _ _ _ (Act.put _ (some 152) _) _
                        (try simp only [Act.put, List.setIfInBounds_toArray, List.set_cons_zero, List.set_cons_succ])
                        refine wpAnyH_take (i := 21) (v := ?v2_21) rfl (by kernel_rfl) (by kernel_rfl) (by kernel_rfl) (fun _ _ _ h => h) (Or.inl ⟨by kernel_rfl, ?y2_21⟩) (by assumption) ?r2_21
                        case y2_21 => (intro W hSW; (try dsimp only at hSW); go_simp; (try with_reducible rfl))
                        change wpAnyH _ _ _ _ _ _ _ (Act.put _ (some 153) _) _
                        (try simp only [Act.put, List.setIfInBounds_toArray, List.set_cons_zero, List.set_cons_succ])
                        refine wpAnyH_take (i := 22) (v := ?v2_22) rfl (by kernel_rfl) (by kernel_rfl) (by kernel_rfl) (fun _ _ _ h => h) (Or.inl ⟨by kernel_rfl, ?y2_22⟩) (by assumption) ?r2_22
                        case y2_22 => (intro W hSW; (try dsimp only at hSW); go_simp; (try with_reducible rfl))
                        change wpAnyH _ _ _ _ _ _ _ (Act.put _ (some 154) _) _
                        (try simp only [Act.put, List.setIfInBounds_toArray, List.set_cons_zero, List.set_cons_succ])
                        refine wpAnyH_take (i := 23) (v := ?v2_23) rfl (by kernel_rfl) (by kernel_rfl) (by kernel_rfl) (fun _ _ _ h => h) (Or.inl ⟨by kernel_rfl, ?y2_23⟩) (by assumption) ?r2_23
                        case y2_23 => (intro W hSW; (try dsimp only at hSW); go_simp; (try with_reducible rfl))
                        change wpAnyH _ _ _ _ _ _ _ (Act.put _ (some 155) _) _
                        (try simp only [Act.put, List.setIfInBounds_toArray, List.set_cons_zero, List.set_cons_succ])
                        refine wpAnyH_take (i := 24) (v := ?v2_24) rfl (by kernel_rfl) (by kernel_rfl) (by kernel_rfl) (fun _ _ _ h => h) (Or.inl ⟨by kernel_rfl, ?y2_24⟩) (by assumption) ?r2_24
                        case y2_24 => (intro W hSW; (try dsimp only at hSW); go_simp; (try with_reducible rfl))
                        change wpAnyH _ _ _ _ _ _ _ (Act.put _ (some 156) _) _
                        (try simp only [Act.put, List.setIfInBounds_toArray, List.set_cons_zero, List.set_cons_succ])
                        refine wpAnyH_take (i := 25) (v := ?v2_25) rfl (by kernel_rfl) (by kernel_rfl) (by kernel_rfl) (fun _ _ _ h => h) (Or.inl ⟨by kernel_rfl, ?y2_25⟩) (by assumption) ?r2_25
                        case y2_25 => (intro W hSW; (try dsimp only at hSW); go_simp; (try with_reducible rfl))
                        change wpAnyH _ _ _ _ _ _ _ (Act.put _ (some 157) _) _
                        (try simp only [Act.put, List.setIfInBounds_toArray, List.set_cons_zero, List.set_cons_succ])
                        refine wpAnyH_take (i := 26) (v := ?v2_26) rfl (by kernel_rfl) (by kernel_rfl) (by kernel_rfl) (fun _ _ _ h => h) (Or.inl ⟨by kernel_rfl, ?y2_26⟩) (by assumption) ?r2_26
                        case y2_26 => (intro W hSW; (try dsimp only at hSW); go_simp; (try with_reducible rfl))
                        change wpAnyH _ _ _ _ _ _ _ (Act.put _ (some 158) _) _
                        (try simp only [Act.put, List.setIfInBounds_toArray, List.set_cons_zero, List.set_cons_succ])
                        refine wpAnyH_done (by kernel_rfl) ?_ _
                        go_wp2_with fail
                        go_roundw
                        case rel => exact ⟨j + 1, HKL.out, by go_num, HBD.out⟩
                        case measure => have := HKL.out; simp [intOf]; omega
                  · obtain rfl : j = 64 := by omega
                    have hHas := HHas.out wr HS12.out.cf vA vc M (HM11.out.of_below hbw (Nat.le_refl _)) (by rw [HML.out]; omega) n hnp (by rw [HHN.out]; exact hps)
                    rw [HML.out] at hHas
                    have HHs := hide hHas
                    clear hHas hbw HS11 HK11 HG11 HR4 HM11 HHas f3 HBD
                    go_wp2_with fail
                    refine HHs.out.mono ?_
                    rintro e w13 ⟨rfl, hb13⟩
                    have hS13 := HS12.out.below hb13
                    have hk13 := (hb13.block _ (Array.getElem?_eq_some_iff.1 HK12.out).1).trans HK12.out
                    have hq13 := (hb13.block _ (Array.getElem?_eq_some_iff.1 HQ12.out).1).trans HQ12.out
                    have HB13 := hide hS13.cf.bel
                    have HBD2 : Hid (Below w.heap.size w w13.drew) := vdrewN hS13.cf.bel 1
                    clear HS12 HK12 HG12 HQ12 HHs hb13 k0 k2 e0 e1 e2 e3 e4 e5 e6 e7 e8 e9 e10 e11
                    have k0 : w13.cell? ⟨w4.heap.size, 0, none⟩ = some (.int .i64 (n : Int)) := by rw [cell_of_row _ _ _ _ _ _ hk13]; rfl
                    have k2 : w13.cell? ⟨w4.heap.size, 2, none⟩ = some (.int .i64 (o : Int)) := by rw [cell_of_row _ _ _ _ _ _ hk13]; rfl
                    have f3 := HF3.out w13 hS13.cf.bel
                    obtain ⟨_, ⟨_, _, _, _, _, _, _, _, _, _, _, e10, _⟩, _, _⟩ := hS13.cf
                    dsimp only at e10
                    have q0 := pay_cell hq13 HPP2.out (show o < P2.length by omega)
                    have hpy : Bytes w13.drew (some ⟨w10.heap.size, 0, none⟩) P2 := pay_bytes (W := w13.drew) (by rw [← HPP2.out] at hq13; exact hq13) HPb2.out
                    have hby := dataF_bytes hpy (show o + 1 + s ≤ P2.length by omega) (show 1 ≤ s by omega)
                    have hcv := str_of w13.drew _ s (63 - o) _ hby (by rw [dataF_len])
                    have hyes := HY2.out
                    unfold yesF at hyes
                    rw [HOF.out, Int.toNat_natCast] at hyes
                    have htx : hasB c M (n : Int) = true → str (dataF P2 o s) = str (dtL M (n : Int)) := fun h => by
                      have h1 := HT2.out h
                      unfold textF at h1
                      rw [HOF.out, HSZ.out, Int.toNat_natCast, Int.toNat_natCast] at h1
                      rw [h1]
                    generalize str (dataF P2 o s) = sx at hcv htx
                    have hw1 : IntKind.i64.wrap ((o : Int) + 1) = (o : Int) + 1 := by rw [IntKind.wrap_i64]; omega
                    have hw2 : IntKind.i64.wrap ((o : Int) + 1 + (s : Int)) = (o : Int) + 1 + (s : Int) := by rw [IntKind.wrap_i64]; omega
                    have hsl := sl_at w10.heap.size o s (by omega) (by omega)
                    clear HMem HY2 HT2 HPb2 HND HHN HXv HBytes HL hl0 hl1 hnp64 HMA HP2 HPP1 HPP2 HG HCf HF3 HM HML hgl hy hzn hk hkl hlb hnl64 hdl hlk hql hndr HIN hot hwrs hkr hz8 hz9 hs10 HAP HOF HSZ HSR HPL hPl1 hPl2 hps hpy hby hk13 hq13
                    generalize hbx : hasB c M (n : Int) = bx at hyes htx
                    cases bx
                    · have hqv : ¬ P2.getD o 0 = 1 := of_decide_eq_false hyes
                      generalize P2.getD o 0 = v at q0 hqv
                      have hqe : ((v : Int) == 1) = false := by rw [beq_eq_false_iff_ne]; omega
                      simp only [Bool.false_eq_true, if_false]
                      go_wp2_with fail
                      as_aux_lemma =>
                        refine wp_region_held_drew (S := fun w' => w'.cell? ⟨w.heap.size, 10, none⟩ = some (.slice (some ⟨pb, po, none⟩) c.ports.length qC) ∧ w'.cell? ⟨pb, po + n * 6 + 3, none⟩ = some (.int .i64 (s : Int)) ∧ w'.cell? ⟨w4.heap.size, 0, none⟩ = some (.int .i64 (n : Int)) ∧ w'.cell? ⟨w4.heap.size, 2, none⟩ = some (.int .i64 (o : Int)) ∧ w'.cell? ⟨w10.heap.size, o, none⟩ = some (.int .u8 (v : Int)) ∧ (convert 53 9 (.slice (some ⟨w10.heap.size, o + 1, none⟩) s (63 - o))).run Tryd.prog w' = .ok (.string sx) w') (by kernel_rfl) (⟨e10, f3, k0, k2, q0, hcv⟩) (fun hHeld => ?_)
                        refine wpAnyH_take (i := 0) (v := ?v3_0) rfl (by kernel_rfl) (by kernel_rfl) (by kernel_rfl) (fun _ _ _ h => h) (Or.inl ⟨by kernel_rfl, ?y3_0⟩) (by assumption) ?r3_0
                        case y3_0 => (intro W hSW; (try dsimp only at hSW); go_simp; (try with_reducible rfl))
                        change wpAnyH _ _ _ _ _ _ _ (Act.put _ (some 168) _) _
                        (try simp only [Act.put, List.setIfInBounds_toArray, List.set_cons_zero, List.set_cons_succ])
                        refine wpAnyH_take (i := 1) (v := ?v3_1) rfl (by kernel_rfl) (by kernel_rfl) (by kernel_rfl) (fun _ _ _ h => h) (Or.inl ⟨by kernel_rfl, ?y3_1⟩) (by assumption) ?r3_1
                        case y3_1 => (intro W hSW; (try dsimp only at hSW); go_simp; (try with_reducible rfl))
                        change wpAnyH _ _ _ _ _ _ _ (Act.put _ (some 169) _) _
                        (try simp only [Act.put, List.setIfInBounds_toArray, List.set_cons_zero, List.set_cons_succ])
                        refine wpAnyH_take (i := 2) (v := ?v3_2) rfl (by kernel_rfl) (by kernel_rfl) (by kernel_rfl) (fun _ _ _ h => h) (Or.inl ⟨by kernel_rfl, ?y3_2⟩) (by assumption) ?r3_2
                        case y3_2 => (intro W hSW; (try dsimp only at hSW); go_simp; (try with_reducible rfl))
                        change wpAnyH _ _ _ _ _ _ _ (Act.put _ (some 170) _) _
                        (try simp only [Act.put, List.setIfInBounds_toArray, List.set_cons_zero, List.set_cons_succ])
                        refine wpAnyH_take (i := 3) (v := ?v3_3) rfl (by kernel_rfl) (by kernel_rfl) (by kernel_rfl) (fun _ _ _ h => h) (Or.inl ⟨by kernel_rfl, ?y3_3⟩) (by assumption) ?r3_3
                        case y3_3 => (intro W hSW; (try dsimp only at hSW); go_simp; (try with_reducible rfl))
                        change wpAnyH _ _ _ _ _ _ _ (Act.put _ (some 171) _) _
                        (try simp only [Act.put, List.setIfInBounds_toArray, List.set_cons_zero, List.set_cons_succ])
                        refine wpAnyH_take (i := 4) (v := ?v3_4) rfl (by kernel_rfl) (by kernel_rfl) (by kernel_rfl) (fun _ _ _ h => h) (Or.inl ⟨by kernel_rfl, ?y3_4⟩) (by assumption) ?r3_4
                        case y3_4 => (intro W hSW; (try dsimp only at hSW); go_simp; (try with_reducible rfl))
                        change wpAnyH _ _ _ _ _ _ _ (Act.put _ (some 172) _) _
                        (try simp only [Act.put, List.setIfInBounds_toArray, List.set_cons_zero, List.set_cons_succ])
                        refine wpAnyH_take (i := 5) (v := ?v3_5) rfl (by kernel_rfl) (by kernel_rfl) (by kernel_rfl) (fun _ _ _ h => h) (Or.inl ⟨by kernel_rfl, ?y3_5⟩) (by assumption) ?r3_5
                        case y3_5 => (intro W hSW; (try dsimp only at hSW); go_simp; (try with_reducible rfl))
                        change wpAnyH _ _ _ _ _ _ _ (Act.put _ (some 173) _) _
                        (try simp only [Act.put, List.setIfInBounds_toArray, List.set_cons_zero, List.set_cons_succ])
                        refine wpAnyH_take (i := 6) (v := ?v3_6) rfl (by kernel_rfl) (by kernel_rfl) (by kernel_rfl) (fun _ _ _ h => h) (Or.inl ⟨by kernel_rfl, ?y3_6⟩) (by assumption) ?r3_6
                        case y3_6 => (intro W hSW; (try dsimp only at hSW); go_simp; (try with_reducible rfl))
                        change wpAnyH _ _ _ _ _ _ _ (Act.put _ (some 174) _) _
                        (try simp only [Act.put, List.setIfInBounds_toArray, List.set_cons_zero, List.set_cons_succ])
                        refine wpAnyH_take (i := 7) (v := ?v3_7) rfl (by kernel_rfl) (by kernel_rfl) (by kernel_rfl) (fun _ _ _ h => h) (Or.inl ⟨by kernel_rfl, ?y3_7⟩) (by assumption) ?r3_7
                        case y3_7 => (intro W hSW; (try dsimp only at hSW); go_simp; (try with_reducible rfl))
                        change wpAnyH _ _ _ _ _ _ _ (Act.put _ (some 175) _) _
                        (try simp only [Act.put, List.setIfInBounds_toArray, List.set_cons_zero, List.set_cons_succ])
                        refine wpAnyH_take (i := 8) (v := ?v3_8) rfl (by kernel_rfl) (by kernel_rfl) (by kernel_rfl) (fun _ _ _ h => h) (Or.inl ⟨by kernel_rfl, ?y3_8⟩) (by assumption) ?r3_8
                        case y3_8 => (intro W hSW; (try dsimp only at hSW); go_simp; (try with_reducible rfl))
                        change wpAnyH _ _ _ _ _ _ _ (Act.put _ (some 176) _) _
                        (try simp only [Act.put, List.setIfInBounds_toArray, List.set_cons_zero, List.set_cons_succ])
                        refine wpAnyH_take (i := 9) (v := ?v3_9) rfl (by kernel_rfl) (by kernel_rfl) (by kernel_rfl) (fun _ _ _ h => h) (Or.inl ⟨by kernel_rfl, ?y3_9⟩) (by assumption) ?r3_9
                        case y3_9 => (intro W hSW; (try dsimp only at hSW); go_simp; (try with_reducible rfl))
                        change wpAnyH _ _ _ _ _ _ _ (Act.put _ (some 177) _) _
                        (try simp only [Act.put, List.setIfInBounds_toArray, List.set_cons_zero, List.set_cons_succ])
                        refine wpAnyH_take (i := 10) (v := ?v3_10) rfl (by kernel_rfl) (by kernel_rfl) (by kernel_rfl) (fun _ _ _ h => h) (Or.inl ⟨by kernel_rfl, ?y3_10⟩) (by assumption) ?r3_10
                        case y3_10 => (intro W hSW; (try dsimp only at hSW); go_simp; (try with_reducible rfl))
                        change wpAnyH _ _ _ _ _ _ _ (Act.put _ (some 178) _) _
                        (try simp only [Act.put, List.setIfInBounds_toArray, List.set_cons_zero, List.set_cons_succ])
                        refine wpAnyH_take (i := 11) (v := ?v3_11) rfl (by kernel_rfl) (by kernel_rfl) (by kernel_rfl) (fun _ _ _ h => h) (Or.inl ⟨by kernel_rfl, ?y3_11⟩) (by assumption) ?r3_11
                        case y3_11 => (intro W hSW; (try dsimp only at hSW); go_simp; (try with_reducible rfl))
                        change wpAnyH _ _ _ _ _ _ _ (Act.put _ (some 179) _) _
                        (try simp only [Act.put, List.setIfInBounds_toArray, List.set_cons_zero, List.set_cons_succ])
                        refine wpAnyH_take (i := 12) (v := ?v3_12) rfl (by kernel_rfl) (by kernel_rfl) (by kernel_rfl) (fun _ _ _ h => h) (Or.inl ⟨by kernel_rfl, ?y3_12⟩) (by assumption) ?r3_12
                        case y3_12 => (intro W hSW; (try dsimp only at hSW); go_simp; (try with_reducible rfl))
                        change wpAnyH _ _ _ _ _ _ _ (Act.put _ (some 180) _) _
                        (try simp only [Act.put, List.setIfInBounds_toArray, List.set_cons_zero, List.set_cons_succ])
                        refine wpAnyH_take (i := 13) (v := ?v3_13) rfl (by kernel_rfl) (by kernel_rfl) (by kernel_rfl) (fun _ _ _ h => h) (Or.inl ⟨by kernel_rfl, ?y3_13⟩) (by assumption) ?r3_13
                        case y3_13 => (intro W hSW; (try dsimp only at hSW); go_simp; (try with_reducible rfl))
                        change wpAnyH _ _ _ _ _ _ _ (Act.put _ (some 181) _) _
                        (try simp only [Act.put, List.setIfInBounds_toArray, List.set_cons_zero, List.set_cons_succ])
                        refine wpAnyH_take (i := 14) (v := ?v3_14) rfl (by kernel_rfl) (by kernel_rfl) (by kernel_rfl) (fun _ _ _ h => h) (Or.inl ⟨by kernel_rfl, ?y3_14⟩) (by assumption) ?r3_14
                        case y3_14 => (intro W hSW; (try dsimp only at hSW); go_simp; (try with_reducible rfl))
                        change wpAnyH _ _ _ _ _ _ _ (Act.put _ (some 182) _) _
                        (try simp only [Act.put, List.setIfInBounds_toArray, List.set_cons_zero, List.set_cons_succ])
                        refine wpAnyH_take (i := 15) (v := ?v3_15) rfl (by kernel_rfl) (by kernel_rfl) (by kernel_rfl) (fun _ _ _ h => h) (Or.inl ⟨by kernel_rfl, ?y3_15⟩) (by assumption) ?r3_15
                        case y3_15 => (intro W hSW; (try dsimp only at hSW); go_simp; (try with_reducible rfl))
                        change wpAnyH _ _ _ _ _ _ _ (Act.put _ (some 183) _) _
                        (try simp only [Act.put, List.setIfInBounds_toArray, List.set_cons_zero, List.set_cons_succ])
                        refine wpAnyH_take (i := 16) (v := ?v3_16) rfl (by kernel_rfl) (by kernel_rfl) (by kernel_rfl) (fun _ _ _ h => h) (Or.inl ⟨by kernel_rfl, ?y3_16⟩) (by assumption) ?r3_16
                        case y3_16 => (intro W hSW; (try dsimp only at hSW); go_simp; (try with_reducible rfl))
                        change wpAnyH _ _ _ _ _ _ _ (Act.put _ (some 22) _) _
                        (try simp only [Act.put, List.setIfInBounds_toArray, List.set_cons_zero, List.set_cons_succ])
                        refine wpAnyH_done (by kernel_rfl) ?_ _
                        obtain ⟨_, _, k0, k2, q0, _⟩ := hHeld
                        generalize w13.drew = w14 at k0 k2 q0 HBD2 ⊢
                        go_wp2
                        go_ret
                        exact ⟨rfl, HBD2.out⟩
                    · have hqv : P2.getD o 0 = 1 := of_decide_eq_true hyes
                      rw [hqv] at q0
                      have hse := htx rfl
                      simp only [if_true]
                      rw [← hse]
                      have hxx : (sx.toList == sx.toList) = true := by simp
                      go_wp2_with fail
                      as_aux_lemma =>
                        refine wp_region_held_drew (S := fun w' => w'.cell? ⟨w.heap.size, 10, none⟩ = some (.slice (some ⟨pb, po, none⟩) c.ports.length qC) ∧ w'.cell? ⟨pb, po + n * 6 + 3, none⟩ = some (.int .i64 (s : Int)) ∧ w'.cell? ⟨w4.heap.size, 0, none⟩ = some (.int .i64 (n : Int)) ∧ w'.cell? ⟨w4.heap.size, 2, none⟩ = some (.int .i64 (o : Int)) ∧ w'.cell? ⟨w10.heap.size, o, none⟩ = some (.int .u8 1) ∧ (convert 53 9 (.slice (some ⟨w10.heap.size, o + 1, none⟩) s (63 - o))).run Tryd.prog w' = .ok (.string sx) w') (by kernel_rfl) (⟨e10, f3, k0, k2, q0, hcv⟩) (fun hHeld => ?_)
                        refine wpAnyH_take (i := 0) (v := ?v4_0) rfl (by kernel_rfl) (by kernel_rfl) (by kernel_rfl) (fun _ _ _ h => h) (Or.inl ⟨by kernel_rfl, ?y4_0⟩) (by assumption) ?r4_0
                        case y4_0 => (intro W hSW; (try dsimp only at hSW); go_simp; (try with_reducible rfl))
                        change wpAnyH _ _ _ _ _ _ _ (Act.put _ (some 168) _) _
                        (try simp only [Act.put, List.setIfInBounds_toArray, List.set_cons_zero, List.set_cons_succ])
                        refine wpAnyH_take (i := 1) (v := ?v4_1) rfl (by kernel_rfl) (by kernel_rfl) (by kernel_rfl) (fun _ _ _ h => h) (Or.inl ⟨by kernel_rfl, ?y4_1⟩) (by assumption) ?r4_1
                        case y4_1 => (intro W hSW; (try dsimp only at hSW); go_simp; (try with_reducible rfl))
                        change wpAnyH _ _ _ _ _ _ _ (Act.put _ (some 169) _) _
                        (try simp only [Act.put, List.setIfInBounds_toArray, List.set_cons_zero, List.set_cons_succ])
                        refine wpAnyH_take (i := 2) (v := ?v4_2) rfl (by kernel_rfl) (by kernel_rfl) (by kernel_rfl) (fun _ _ _ h => h) (Or.inl ⟨by kernel_rfl, ?y4_2⟩) (by assumption) ?r4_2
                        case y4_2 => (intro W hSW; (try dsimp only at hSW); go_simp; (try with_reducible rfl))
                        change wpAnyH _ _ _ _ _ _ _ (Act.put _ (some 170) _) _
                        (try simp only [Act.put, List.setIfInBounds_toArray, List.set_cons_zero, List.set_cons_succ])
                        refine wpAnyH_take (i := 3) (v := ?v4_3) rfl (by kernel_rfl) (by kernel_rfl) (by kernel_rfl) (fun _ _ _ h => h) (Or.inl ⟨by kernel_rfl, ?y4_3⟩) (by assumption) ?r4_3
                        case y4_3 => (intro W hSW; (try dsimp only at hSW); go_simp; (try with_reducible rfl))
                        change wpAnyH _ _ _ _ _ _ _ (Act.put _ (some 171) _) _
                        (try simp only [Act.put, List.setIfInBounds_toArray, List.set_cons_zero, List.set_cons_succ])
                        refine wpAnyH_take (i := 4) (v := ?v4_4) rfl (by kernel_rfl) (by kernel_rfl) (by kernel_rfl) (fun _ _ _ h => h) (Or.inl ⟨by kernel_rfl, ?y4_4⟩) (by assumption) ?r4_4
                        case y4_4 => (intro W hSW; (try dsimp only at hSW); go_simp; (try with_reducible rfl))
                        change wpAnyH _ _ _ _ _ _ _ (Act.put _ (some 172) _) _
                        (try simp only [Act.put, List.setIfInBounds_toArray, List.set_cons_zero, List.set_cons_succ])
                        refine wpAnyH_take (i := 5) (v := ?v4_5) rfl (by kernel_rfl) (by kernel_rfl) (by kernel_rfl) (fun _ _ _ h => h) (Or.inl ⟨by kernel_rfl, ?y4_5⟩) (by assumption) ?r4_5
                        case y4_5 => (intro W hSW; (try dsimp only at hSW); go_simp; (try with_reducible rfl))
                        change wpAnyH _ _ _ _ _ _ _ (Act.put _ (some 173) _) _
                        (try simp only [Act.put, List.setIfInBounds_toArray, List.set_cons_zero, List.set_cons_succ])
                        refine wpAnyH_take (i := 6) (v := ?v4_6) rfl (by kernel_rfl) (by kernel_rfl) (by kernel_rfl) (fun _ _ _ h => h) (Or.inl ⟨by kernel_rfl, ?y4_6⟩) (by assumption) ?r4_6
                        case y4_6 => (intro W hSW; (try dsimp only at hSW); go_simp; (try with_reducible rfl))
                        change wpAnyH _ _ _ _ _ _ _ (Act.put _ (some 174) _) _
                        (try simp only [Act.put, List.setIfInBounds_toArray, List.set_cons_zero, List.set_cons_succ])
                        refine wpAnyH_take (i := 7) (v := ?v4_7) rfl (by kernel_rfl) (by kernel_rfl) (by kernel_rfl) (fun _ _ _ h => h) (Or.inl ⟨by kernel_rfl, ?y4_7⟩) (by assumption) ?r4_7
                        case y4_7 => (intro W hSW; (try dsimp only at hSW); go_simp; (try with_reducible rfl))
                        change wpAnyH _ _ _ _ _ _ _ (Act.put _ (some 175) _) _
                        (try simp only [Act.put, List.setIfInBounds_toArray, List.set_cons_zero, List.set_cons_succ])
                        refine wpAnyH_take (i := 8) (v := ?v4_8) rfl (by kernel_rfl) (by kernel_rfl) (by kernel_rfl) (fun _ _ _ h => h) (Or.inl ⟨by kernel_rfl, ?y4_8⟩) (by assumption) ?r4_8
                        case y4_8 => (intro W hSW; (try dsimp only at hSW); go_simp; (try with_reducible rfl))
                        change wpAnyH _ _ _ _ _ _ _ (Act.put _ (some 176) _) _
                        (try simp only [Act.put, List.setIfInBounds_toArray, List.set_cons_zero, List.set_cons_succ])
                        refine wpAnyH_take (i := 9) (v := ?v4_9) rfl (by kernel_rfl) (by kernel_rfl) (by kernel_rfl) (fun _ _ _ h => h) (Or.inl ⟨by kernel_rfl, ?y4_9⟩) (by assumption) ?r4_9
                        case y4_9 => (intro W hSW; (try dsimp only at hSW); go_simp; (try with_reducible rfl))
                        change wpAnyH _ _ _ _ _ _ _ (Act.put _ (some 177) _) _
                        (try simp only [Act.put, List.setIfInBounds_toArray, List.set_cons_zero, List.set_cons_succ])
                        refine wpAnyH_take (i := 10) (v := ?v4_10) rfl (by kernel_rfl) (by kernel_rfl) (by kernel_rfl) (fun _ _ _ h => h) (Or.inl ⟨by kernel_rfl, ?y4_10⟩) (by assumption) ?r4_10
                        case y4_10 => (intro W hSW; (try dsimp only at hSW); go_simp; (try with_reducible rfl))
                        change wpAnyH _ _ _ _ _ _ _ (Act.put _ (some 178) _) _
                        (try simp only [Act.put, List.setIfInBounds_toArray, List.set_cons_zero, List.set_cons_succ])
                        refine wpAnyH_take (i := 11) (v := ?v4_11) rfl (by kernel_rfl) (by kernel_rfl) (by kernel_rfl) (fun _ _ _ h => h) (Or.inl ⟨by kernel_rfl, ?y4_11⟩) (by assumption) ?r4_11
                        case y4_11 => (intro W hSW; (try dsimp only at hSW); go_simp; (try with_reducible rfl))
                        change wpAnyH _ _ _ _ _ _ _ (Act.put _ (some 179) _) _
                        (try simp only [Act.put, List.setIfInBounds_toArray, List.set_cons_zero, List.set_cons_succ])
                        refine wpAnyH_take (i := 12) (v := ?v4_12) rfl (by kernel_rfl) (by kernel_rfl) (by kernel_rfl) (fun _ _ _ h => h) (Or.inl ⟨by kernel_rfl, ?y4_12⟩) (by assumption) ?r4_12
                        case y4_12 => (intro W hSW; (try dsimp only at hSW); go_simp; (try with_reducible rfl))
                        change wpAnyH _ _ _ _ _ _ _ (Act.put _ (some 180) _) _
                        (try simp only [Act.put, List.setIfInBounds_toArray, List.set_cons_zero, List.set_cons_succ])
                        refine wpAnyH_take (i := 13) (v := ?v4_13) rfl (by kernel_rfl) (by kernel_rfl) (by kernel_rfl) (fun _ _ _ h => h) (Or.inl ⟨by kernel_rfl, ?y4_13⟩) (by assumption) ?r4_13
                        case y4_13 => (intro W hSW; (try dsimp only at hSW); go_simp; (try with_reducible rfl))
                        change wpAnyH _ _ _ _ _ _ _ (Act.put _ (some 181) _) _
                        (try simp only [Act.put, List.setIfInBounds_toArray, List.set_cons_zero, List.set_cons_succ])
                        refine wpAnyH_take (i := 14) (v := ?v4_14) rfl (by kernel_rfl) (by kernel_rfl) (by kernel_rfl) (fun _ _ _ h => h) (Or.inl ⟨by kernel_rfl, ?y4_14⟩) (by assumption) ?r4_14
                        case y4_14 => (intro W hSW; (try dsimp only at hSW); go_simp; (try with_reducible rfl))
                        change wpAnyH _ _ _ _ _ _ _ (Act.put _ (some 182) _) _
                        (try simp only [Act.put, List.setIfInBounds_toArray, List.set_cons_zero, List.set_cons_succ])
                        refine wpAnyH_take (i := 15) (v := ?v4_15) rfl (by kernel_rfl) (by kernel_rfl) (by kernel_rfl) (fun _ _ _ h => h) (Or.inl ⟨by kernel_rfl, ?y4_15⟩) (by assumption) ?r4_15
                        case y4_15 => (intro W hSW; (try dsimp only at hSW); go_simp; (try with_reducible rfl))
                        change wpAnyH _ _ _ _ _ _ _ (Act.put _ (some 183) _) _
                        (try simp only [Act.put, List.setIfInBounds_toArray, List.set_cons_zero, List.set_cons_succ])
                        refine wpAnyH_take (i := 16) (v := ?v4_16) rfl (by kernel_rfl) (by kernel_rfl) (by kernel_rfl) (fun _ _ _ h => h) (Or.inl ⟨by kernel_rfl, ?y4_16⟩) (by assumption) ?r4_16
                        case y4_16 => (intro W hSW; (try dsimp only at hSW); go_simp; (try with_reducible rfl))
                        change wpAnyH _ _ _ _ _ _ _ (Act.put _ (some 22) _) _
                        (try simp only [Act.put, List.setIfInBounds_toArray, List.set_cons_zero, List.set_cons_succ])
                        refine wpAnyH_done (by kernel_rfl) ?_ _
                        obtain ⟨_, _, k0, k2, q0, _⟩ := hHeld
                        generalize w13.drew = w14 at k0 k2 q0 HBD2 ⊢
                        go_wp2
                        go_ret
                        exact ⟨rfl, HBD2.out⟩
        · have hyi : (100 : Int) < ((y.data.length : Nat) : Int) := by omega
          generalize y.data.length = yl at *
          go_wp2
          go_ret
          exact ⟨rfl, HS4.out.cf.bel⟩
      · have hne : (cf != 0) = true := by simpa using hf
        clear x1
        go_wp2
        go_ret
        exact ⟨rfl, HS4.out.cf.bel⟩
    · go_wp2
      go_ret
      exact ⟨rfl, HS3.out.cf.bel⟩
  · go_wp2
    go_ret
    exact ⟨rfl, HS3.out.cf.bel⟩
end Go.Proofs.YtdfpeilflinmhaaDoor
