/-
  ConfigClosed's walk.
-/
import Derived.Test.YtbodpnggkihllaaDoorRchE
import Derived.Test.YtbodpnggkihllaaDoorSize
import Derived.Test.YtbodpnggkihllaaDoorChkP
namespace Go.Proofs.YtbodpnggkihllaaDoor
open Go.RowKit Go.Deep
set_option linter.unusedVariables false
set_option linter.unusedSimpArgs false

theorem links_ok {c : Conf} (h : checkF c = 0) : (∀ k, k < c.ports.length → ofB (c.ports.getD k default).part c.parts.length = true) ∧ ∀ k, k < c.links.length → LinkOk c (c.links.getD k default) := by
  unfold checkF checkW at h
  split at h
  · cases h
  split at h
  · cases h
  split at h
  · cases h
  split at h
  · cases h
  split at h
  · cases h
  rename_i h5
  split at h
  · cases h
  rename_i h6
  obtain ⟨_, c2⟩ := Decidable.not_not.1 h5
  obtain ⟨_, d2, _⟩ := Decidable.not_not.1 h6
  exact ⟨fun k hk => (c2 k hk).1, d2⟩
theorem part_some {c : Conf} (h : ∀ k, k < c.ports.length → ofB (c.ports.getD k default).part c.parts.length = true) {z : Int} (hz : ofB z c.ports.length = true) : partP c z = some (c.ports.getD z.toNat default).part.toNat := by
  unfold partP
  have h1 := hz
  simp only [ofB, Bool.and_eq_true, decide_eq_true_eq] at h1
  rw [if_pos ⟨hz, h z.toNat (by omega)⟩]
theorem mem_getD {α : Type} (l : List α) (k : Nat) (x : α) (h : k < l.length) : l.getD k x ∈ l := by
  rw [List.getD_eq_getElem?_getD, List.getElem?_eq_getElem h]; exact List.getElem_mem h
/-- the ends of a link come to one another -/
theorem ends_reach {c : Conf} (h : checkF c = 0) {k j : Nat} (hk : k < c.links.length) (hj : j < (c.links.getD k default).dests.length) :
    ∃ n1 q1 n2 q2 : Nat, (c.links.getD k default).source = (n1 : Int) ∧ n1 < c.ports.length ∧ (c.ports.getD n1 default).part = (q1 : Int) ∧ q1 < c.parts.length ∧
      (c.links.getD k default).dests.getD j 0 = (n2 : Int) ∧ n2 < c.ports.length ∧ (c.ports.getD n2 default).part = (q2 : Int) ∧ q2 < c.parts.length ∧ Rch (nextF c c.links) q1 q2 := by
  obtain ⟨hp, hl⟩ := links_ok h
  have hk1 := hl k hk
  have hs := part_some hp hk1.1
  have hd : ∀ d ∈ (c.links.getD k default).dests, (partP c d).isSome = true := fun d hd => by
    obtain ⟨i, hi, rfl⟩ := List.getElem_of_mem hd
    have := (hk1.2.2.2.1 i hi).1
    rw [List.getD_eq_getElem?_getD, List.getElem?_eq_getElem hi, Option.getD_some] at this
    rw [part_some hp this]; rfl
  have hz := (hk1.2.2.2.1 j hj).1
  have hz2 := part_some hp hz
  have hly := linkP_yes hs hd
  obtain ⟨a1, a2, a3, a4⟩ := partP_lt hs
  obtain ⟨b1, b2, b3, b4⟩ := partP_lt hz2
  have hm := mem_getD c.links k default hk
  have hmd := mem_getD (c.links.getD k default).dests j 0 hj
  have hin := next_link hly c.links (List.replicate c.parts.length []) (by simp) hm _ (List.mem_map.2 ⟨_, hmd, by rw [hz2]⟩)
  refine ⟨_, _, _, _, (Int.toNat_of_nonneg a4).symm, a2, a3, a1, (Int.toNat_of_nonneg b4).symm, b2, b3, b1, .step (.refl _) hin⟩

set_option maxRecDepth 100000 in
set_option maxHeartbeats 8000000 in
theorem closed_walk (c : Conf) (d : Ad) (w : World) (hg : Glo w) (h : ConfAt w c d) (hB : Borne c)
    (hal : ∀ W, Below w.heap.size w W → Calls Tryd.prog 19 #[] W fun e w' => e = .returned (.bool true) ∧ Below W.heap.size W w') :
    Calls Tryd.prog 5 #[c.val d] w fun e w' => e = .returned (.bool true) ∧ Below w.heap.size w w' := by
  have hS := CfS.first 28 hg h
  have HC := hide (fun W (H : CfS w W c d) => check_any c d W H.g H.cf)
  have HGr := hide (fun W (H : CfS w W c d) => great_any c d W H.cf hB)
  have HAL := hide (fun W (H : CfS w W c d) => hal W H.bel)
  have HMo := hide (fun hgr : great c = false => modest_of hgr)
  have HRc := hide (fun (hgr : great c = false) W (H : CfS w W c d) => reach_at c d W H.g H.cf (by have := (modest_of hgr).parts; omega) (modest_of hgr).links (modest_of hgr).dests)
  have HRd := hide (fun (hgr : great c = false) W (H : CfS w W c d) => reach_at { c with links := [] } { d with lA := none, lC := 0 } W H.g { H.cf with links := ⟨fun p hp => (by cases hp), .inl rfl⟩, lLen := ⟨Nat.le_refl _, Nat.zero_le _⟩ } (by have := (modest_of hgr).parts; show c.parts.length ≤ 1000; omega) (Nat.zero_le _) (fun k hk => by cases hk))
  have HLK := hide (fun W (hb : Below w.heap.size w W) k (hk : k < c.links.length) => (h.links.of_below hb (Nat.le_refl _)).at hk)
  have HPT := hide (fun W (hb : Below w.heap.size w W) k (hk : k < c.ports.length) => (h.ports.of_below hb (Nat.le_refl _)).at hk)
  have HEN := hide (fun (h0 : checkF c = 0) k j hk hj => ends_reach h0 (k := k) (j := j) hk hj)
  clear hg h hal hB
  generalize hA : w.alloc (.cells (c.cells d) 28) = wa at hS
  obtain ⟨cf, hcf⟩ : ∃ f, checkF c = f := ⟨_, rfl⟩
  obtain ⟨gr, hgr⟩ : ∃ f, great c = f := ⟨_, rfl⟩
  rw [hcf] at HC HEN
  rw [hgr] at HGr HMo HRc HRd
  obtain ⟨oA, oC, pA, pC, wA, wC, qA, qC, lA, lC⟩ := d
  unfold Conf.val at HC HGr HRc HRd ⊢
  unfold Conf.cells at hA
  dsimp only at hA hS HC HGr HRc HRd HLK HPT ⊢
  have HA := hide hA
  have HS := hide hS
  clear hA hS hcf hgr
  go_enter Tryd.func5, Tryd.ntmps5
  go_wp2_with fail
  rw [HA.out]
  clear HA
  refine (HAL.out _ HS.out).mono ?_
  rintro e w2 ⟨rfl, hb2⟩
  have HS2 := hide (HS.out.below hb2)
  clear hb2 HS HAL
  obtain ⟨_, ⟨_, e0, e1, e2, e3, e4, e5, e6, e7, e8, e9, e10, e11⟩, _, _⟩ := HS2.out
  dsimp only at e0 e1 e2 e3 e4 e5 e6 e7 e8 e9 e10 e11
  go_wp2_with fail
  refine (HGr.out _ HS2.out).mono ?_
  rintro e w3 ⟨rfl, hb3⟩
  have HS3 := hide (HS2.out.below hb3)
  clear hb3 HS2 HGr e0 e1 e2 e3 e4 e5 e6 e7 e8 e9 e10 e11
  obtain ⟨_, ⟨_, e0, e1, e2, e3, e4, e5, e6, e7, e8, e9, e10, e11⟩, _, _⟩ := HS3.out
  dsimp only at e0 e1 e2 e3 e4 e5 e6 e7 e8 e9 e10 e11
  cases gr
  · by_cases hp40 : c.parts.length ≤ 40
    · have hpi : ¬ ((40 : Int) < ((c.parts.length : Nat) : Int)) := by omega
      have HR1 := hide (HRc.out rfl)
      have HR2 := hide (HRd.out rfl)
      have HMd := hide (HMo.out rfl)
      clear HRc HRd HMo
      go_wp2_with fail
      refine (HR1.out _ HS3.out).mono ?_
      rintro e w4 ⟨g1, bs1, rfl, hr1, hg1, hb4⟩
      have HS4 := hide (HS3.out.below hb4)
      have HM1 := hide hr1
      clear hb4 hr1 HS3 HR1 e0 e1 e2 e3 e4 e5 e6 e7 e8 e9 e10 e11
      obtain ⟨_, ⟨_, e0, e1, e2, e3, e4, e5, e6, e7, e8, e9, e10, e11⟩, _, _⟩ := HS4.out
      dsimp only at e0 e1 e2 e3 e4 e5 e6 e7 e8 e9 e10 e11
      go_wp2_with fail
      have hb5 := bal w4 (.cells #[.int .i64 c.nodes, .slice oA c.owners.length oC, .int .i64 c.drift, .int .i64 c.reading, .int .i64 c.margin, .int .i64 c.bound, .int .i64 c.rejoin, .int .i64 c.quota, .slice pA c.parts.length pC, .slice wA c.windows.length wC, .slice qA c.ports.length qC, .slice none 0 0] 28)
      have HS5 := hide (HS4.out.below hb5); have HM15 := hide (HM1.out.below hb5)
      refine (HR2.out _ HS5.out).mono ?_
      rintro e w6 ⟨g2, bs2, rfl, hr2, hg2, hb6⟩
      have HS6 := hide (HS5.out.below hb6); have HM16 := hide (HM15.out.below hb6)
      have HM26 : Hid (RmS w6 g2 bs2 c.parts.length (nextF { c with links := [] } [])) := hr2
      have HEq : Hid (∀ p j, Rch (nextF { c with links := [] } []) p j → p = j) := fun p j hj => Rch.none (nextF_nil _) hj
      clear hb5 hb6 hr2 HS4 HM1 HS5 HM15 HR2 e0 e1 e2 e3 e4 e5 e6 e7 e8 e9 e10 e11
      generalize nextF { c with links := [] } [] = R2 at HM26 HEq
      generalize hR1 : nextF c c.links = R1 at HM16 HEN
      obtain ⟨_, ⟨_, e0, e1, e2, e3, e4, e5, e6, e7, e8, e9, e10, e11⟩, _, _⟩ := HS6.out
      dsimp only at e0 e1 e2 e3 e4 e5 e6 e7 e8 e9 e10 e11
      clear e0 e1 e2 e3 e4 e5 e6 e7 e9 e10 e11 hR1
      go_wp2_with fail
      go_loopw [50, 7, 8, 9] (fun i s7 s8 s9 W => ∃ p : Nat, p ≤ c.parts.length ∧ i = .int .i64 p ∧ W = w6) (fun i _ _ _ _ => c.parts.length - (intOf i).toNat)
      case atStart => exact ⟨0, by omega, rfl, rfl⟩
      case round =>
        obtain ⟨p, hp, rfl, hW⟩ := hrel
        subst hW
        clear e8
        by_cases hlt : p < c.parts.length
        · have HPL := hide (show p + 1 ≤ c.parts.length by omega)
          obtain ⟨b1, x1, hrow1⟩ := HM16.out.at hlt
          obtain ⟨b2, x2, hrow2⟩ := HM26.out.at hlt
          have HW1 := hide hrow1; have HW2 := hide hrow2
          clear hrow1 hrow2
          go_wp2_with fail
          go_loopw [55, 8, 9] (fun i s8 s9 W => ∃ q : Nat, q ≤ c.parts.length ∧ i = .int .i64 q ∧ W = wr) (fun i _ _ _ => c.parts.length - (intOf i).toNat)
          case atStart => exact ⟨0, by omega, rfl, rfl⟩
          case round =>
            obtain ⟨q, hq, rfl, hW⟩ := hrel
            subst hW
            by_cases hlq : q < c.parts.length
            · have HQL := hide (show q + 1 ≤ c.parts.length by omega)
              obtain ⟨a, ca, ha⟩ := HW1.out q hlq
              obtain ⟨v, cv, hv⟩ := HW2.out q hlq
              obtain ⟨b3, x3, hrow3⟩ := HM16.out.at hlq
              have HA := hide ha; have HV := hide hv; have HW3 := hide hrow3
              clear ha hv hrow3
              go_upto_region 16 with fail
              go_cut [55, 83] from 55 to 116 (fun s55 s83 wx => s55 = .int .i64 (q : Int) ∧ s83 = .bool false ∧ wx = wr)
              case first =>
                by_cases hpq : p = q
                · have hvt : v = true := HV.out.2 (hpq ▸ .refl p)
                  have hat : a = true := HA.out.2 (hpq ▸ .refl p)
                  have hie : ((p : Int) == (q : Int)) = true := by rw [hpq]; simp
                  rw [hvt] at cv
                  rw [hat] at ca
                  clear hpq
                  go_wp2_with fail
                  go_meet
                  exact ⟨rfl, rfl, rfl⟩
                · have hvf : v = false := by
                    cases v
                    · rfl
                    · exact absurd (HEq.out p q (HV.out.1 rfl)) hpq
                  have hie : ((p : Int) == (q : Int)) = false := by rw [beq_eq_false_iff_ne]; omega
                  rw [hvf] at cv
                  go_wp2_with fail
                  go_meet
                  exact ⟨rfl, rfl, rfl⟩
              case rest =>
                obtain ⟨rfl, rfl, hW⟩ := hcut
                subst hW
                go_wp2_with fail
                go_loopw [86, 9] (fun i s9 W => ∃ j : Nat, j ≤ c.parts.length ∧ i = .int .i64 j ∧ W = wc) (fun i _ _ => c.parts.length - (intOf i).toNat)
                case atStart => exact ⟨0, by omega, rfl, by first | trivial | rfl⟩
                case round =>
                  obtain ⟨j, hj, rfl, hW⟩ := hrel
                  subst hW
                  by_cases hlj : j < c.parts.length
                  · have HJL := hide (show j + 1 ≤ c.parts.length by omega)
                    obtain ⟨e, ce, he⟩ := HW1.out j hlj
                    obtain ⟨b, cb, hb⟩ := HW3.out j hlj
                    have hall : a = true → b = true → e = true := fun h1 h2 => he.2 ((HA.out.1 h1).trans (hb.1 h2))
                    clear he hb cv
                    cases a
                    · clear hall
                      go_wp2_with fail
                      go_roundw
                      case rel => exact ⟨j + 1, HJL.out, by go_num, by first | trivial | rfl⟩
                      case measure => have := HJL.out; simp [intOf]; omega
                    · cases b
                      · clear hall
                        go_wp2_with fail
                        go_roundw
                        case rel => exact ⟨j + 1, HJL.out, by go_num, by first | trivial | rfl⟩
                        case measure => have := HJL.out; simp [intOf]; omega
                      · have he := hall rfl rfl
                        subst he
                        clear hall
                        go_wp2_with fail
                        go_roundw
                        case rel => exact ⟨j + 1, HJL.out, by go_num, by first | trivial | rfl⟩
                        case measure => have := HJL.out; simp [intOf]; omega
                  · obtain rfl : j = c.parts.length := by omega
                    go_wp2_with fail
                    go_roundw
                    case rel => exact ⟨q + 1, HQL.out, by go_num, by first | trivial | rfl⟩
                    case measure => have := HQL.out; simp [intOf]; omega
            · obtain rfl : q = c.parts.length := by omega
              go_wp2_with fail
              go_roundw
              case rel => exact ⟨p + 1, HPL.out, by go_num, by first | trivial | rfl⟩
              case measure => have := HPL.out; simp [intOf]; omega
        · obtain rfl : p = c.parts.length := by omega
          obtain ⟨_, ⟨_, e0, e1, e2, e3, e4, e5, e6, e7, e8, e9, e10, e11⟩, _, _⟩ := HS6.out
          dsimp only at e0 e1 e2 e3 e4 e5 e6 e7 e8 e9 e10 e11
          go_wp2_with fail
          refine (HC.out _ HS6.out).mono ?_
          rintro e w8 ⟨rfl, hb8⟩
          have HS8 := hide (HS6.out.below hb8); have HM8 := hide (HM16.out.below hb8)
          clear hb8 HS6 HM16 HM26 HEq HC e0 e1 e2 e3 e4 e5 e6 e7 e8 e9 e10 e11
          by_cases hf : cf = 0
          · subst hf
            have HEn := hide (HEN.out rfl)
            clear HEN
            obtain ⟨_, ⟨_, _, _, _, _, _, _, _, _, _, _, _, e11⟩, _, _⟩ := HS8.out
            dsimp only at e11
            have hlk100 := HMd.out.links
            go_wp2_with fail
            go_loopw [125, 11, 13] (fun i s11 s13 W => ∃ k : Nat, k ≤ c.links.length ∧ i = .int .i64 k ∧ Below w8.heap.size w8 W) (fun i _ _ _ => c.links.length - (intOf i).toNat)
            case atStart => exact ⟨0, by omega, rfl, Below.refl _ _⟩
            case round =>
              obtain ⟨k, hk, rfl, hbw⟩ := hrel
              have HBW := hide hbw
              have HSk := hide (HS8.out.below hbw); have HMk := hide (HM8.out.below hbw)
              clear hbw e11
              by_cases hlt : k < c.links.length
              · have HKL := hide (show k + 1 ≤ c.links.length by omega)
                have hdl := HMd.out.dests k hlt
                obtain ⟨lb, lo, Ai, ci, hlA, hlb, g0, g1', g2', _, _, hI, _, _⟩ := HLK.out wr HSk.out.bel k hlt
                subst hlA
                have HEk := hide (fun j hj => HEn.out k j hlt hj)
                obtain ⟨lk, hlk⟩ : ∃ lk, c.links.getD k default = lk := ⟨_, rfl⟩
                rw [hlk] at g0 g1' g2' hI HEk hdl
                obtain ⟨_, ⟨_, _, _, _, _, _, _, _, _, _, _, _, e11⟩, _, _⟩ := HSk.out
                dsimp only at e11
                have hb9 := bal wr (.cells #[.int .i64 lk.source, .slice Ai lk.dests.length ci, .int .i64 lk.offset] 42)
                have hn9 := heap_alloc_new wr (.cells #[.int .i64 lk.source, .slice Ai lk.dests.length ci, .int .i64 lk.offset] 42)
                have HS9 := hide (HSk.out.below hb9); have HM9 := hide (HMk.out.below hb9); have HI9 := hide (hI.of_below hb9 (Nat.le_refl _)); have HL9 := hide hn9
                have HB9 := hide (HBW.out.trans (hb9.mono HBW.out.size))
                have h89 := HBW.out.size
                clear hb9 hn9 hI hlb
                go_upto_region 31 with fail
                clear e11 g0 g1' g2' HSk HMk
                obtain ⟨bk, hbk⟩ : ∃ b, wr.heap.size = b := ⟨_, rfl⟩
                rw [hbk] at HL9 ⊢
                generalize wr.alloc (.cells #[.int .i64 lk.source, .slice Ai lk.dests.length ci, .int .i64 lk.offset] 42) = w9 at HS9 HM9 HI9 HL9 HB9 ⊢
                have l1 : w9.cell? ⟨bk, 1, none⟩ = some (.slice Ai lk.dests.length ci) := by rw [cell_of_row _ _ _ _ _ _ HL9.out]; rfl
                have hbl := (Array.getElem?_eq_some_iff.1 HL9.out).1
                have h89' := HB9.out.size
                go_wp2_with fail
                go_loopw [132, 13] (fun i s13 W => ∃ j : Nat, j ≤ lk.dests.length ∧ i = .int .i64 j ∧ Below w9.heap.size w9 W) (fun i _ _ => lk.dests.length - (intOf i).toNat)
                case atStart => exact ⟨0, by omega, rfl, Below.refl _ _⟩
                case round =>
                  obtain ⟨j, hj, rfl, hbw⟩ := hrel
                  have HBj := hide hbw
                  clear hbw l1
                  by_cases hlj : j < lk.dests.length
                  · have HJL := hide (show j + 1 ≤ lk.dests.length by omega)
                    obtain ⟨n1, q1, n2, q2, hs1, hn1, hp1, hq1, hs2, hn2, hp2, hq2, hrch⟩ := HEk.out j hlj
                    obtain ⟨ib, io, hIA, hib, i0⟩ := (HI9.out.of_below HBj.out (Nat.le_refl _)).at hlj
                    subst hIA
                    rw [hs2] at i0
                    have HSj := HS9.out.below HBj.out
                    obtain ⟨_, ⟨_, _, _, _, _, _, _, _, _, _, _, e10, _⟩, _, _⟩ := id HSj
                    dsimp only at e10
                    obtain ⟨pb, po, hpA, _, f1, _⟩ := HPT.out wr HSj.bel n1 hn1
                    obtain ⟨pb', po', hpA', _, f2, _⟩ := HPT.out wr HSj.bel n2 hn2
                    subst hpA
                    cases hpA'
                    rw [hp1] at f1
                    rw [hp2] at f2
                    obtain ⟨b, x1, hrow⟩ := (HM9.out.below HBj.out).at hq1
                    obtain ⟨v, cv, hv⟩ := hrow q2 hq2
                    obtain rfl : v = true := hv.2 hrch
                    have l0 : wr.cell? ⟨bk, 0, none⟩ = some (.int .i64 (n1 : Int)) := by rw [cell_of_row _ _ _ _ _ _ ((HBj.out.block _ hbl).trans HL9.out), hs1]; rfl
                    have HDj := hide (fun m => (HBj.out.trans (vdrewNx (Below.refl w9.heap.size wr) m) : Below w9.heap.size w9 (wr.drewN m)))
                    clear HSj hrow hv hrch hs1 hs2 hp1 hp2 HEk HBj
                    go_wp2_with fail
                    go_quiet (fail)
                    go_wp2_with fail
                    go_roundw
                    case rel => exact ⟨j + 1, HJL.out, by go_num, HDj.out _⟩
                    case measure => have := HJL.out; simp [intOf]; omega
                  · obtain rfl : j = lk.dests.length := by omega
                    have HBk := hide (HB9.out.trans (HBj.out.mono h89'))
                    go_wp2_with fail
                    go_roundw
                    case rel => exact ⟨k + 1, HKL.out, by go_num, HBk.out⟩
                    case measure => have := HKL.out; simp [intOf]; omega
              · obtain rfl : k = c.links.length := by omega
                go_wp2_with fail
                go_ret
                exact ⟨rfl, HSk.out.bel⟩
          · have hne : (cf != 0) = true := by simpa using hf
            go_wp2
            go_ret
            exact ⟨rfl, HS8.out.bel⟩
    · have hpi : (40 : Int) < ((c.parts.length : Nat) : Int) := by omega
      go_wp2
      go_ret
      exact ⟨rfl, HS3.out.bel⟩
  · go_wp2
    go_ret
    exact ⟨rfl, HS3.out.bel⟩
end Go.Proofs.YtbodpnggkihllaaDoor
