/-
  The document's own row on partitions, in the program's words.
-/
import Derived.Test.YtbeggdahbhfhpaaDoorRckA
namespace Go.Proofs.YtbeggdahbhfhpaaDoor
open Go.RowKit Go.Deep
set_option linter.unusedVariables false
set_option linter.unusedSimpArgs false

theorem meetB_eq (p q : Pt) : meetB p.lo p.hi q.lo q.hi = meetS (spOf p) (spOf q) := rfl
theorem meetS_comm (a b : Sp) : meetS a b = meetS b a := by
  unfold meetS
  refine decide_eq_decide.2 ?_
  rw [Int.max_comm, Int.min_comm]
/-- each two, by their places -/
theorem apart_iff (l : List Pt) : ApartP l ↔ ∀ i k, k < i → i < l.length → (l.getD i default).node = (l.getD k default).node → meetB (l.getD i default).lo (l.getD i default).hi (l.getD k default).lo (l.getD k default).hi = false := by
  unfold ApartP
  rw [List.pairwise_iff_getElem]
  constructor
  · intro h i k hk hi he
    have := h k i (by omega) hi hk
    rw [List.getD_eq_getElem?_getD, List.getElem?_eq_getElem hi, List.getD_eq_getElem?_getD, List.getElem?_eq_getElem (by omega : k < l.length)] at he ⊢
    simp only [Option.getD_some] at he ⊢
    rw [meetB_eq, meetS_comm]
    exact this he.symm
  · intro h k i hk hi hki he
    have := h i k hki hi
    rw [List.getD_eq_getElem?_getD, List.getElem?_eq_getElem hi, List.getD_eq_getElem?_getD, List.getElem?_eq_getElem hk] at this
    simp only [Option.getD_some] at this
    rw [meetS_comm]
    exact this he.symm

def PtOk (c : Conf) (p : Pt) : Prop := (0 ≤ p.node ∧ p.node < c.nodes) ∧ 0 ≤ p.lo ∧ p.lo ≤ p.hi ∧ p.hi ≤ 256

set_option maxRecDepth 100000 in
set_option maxHeartbeats 8000000 in
theorem rpartsK (c : Conf) (d : Ad) (w : World) (hg : Glo w) (h : ConfAt w c d) :
    Calls Tryd.prog 105 #[c.val d] w fun e w' => e = .returned (.bool (decide (PartsK c))) ∧ Below w.heap.size w w' := by
  have hS := CfS.first 28 hg h
  have HNo : Hid (c.parts.length ≤ 32 → (∀ k, k < c.parts.length → PtOk c (c.parts.getD k default)) → ApartP c.parts → decide (PartsK c) = true) := fun a b e => decide_eq_true ⟨a, b, e⟩
  have HBad : Hid (∀ k, k < c.parts.length → ¬ PtOk c (c.parts.getD k default) → decide (PartsK c) = false) := fun k hk hn => decide_eq_false fun a => hn (a.2.1 k hk)
  have HMeet : Hid (∀ i k, k < i → i < c.parts.length → (c.parts.getD i default).node = (c.parts.getD k default).node → meetB (c.parts.getD i default).lo (c.parts.getD i default).hi (c.parts.getD k default).lo (c.parts.getD k default).hi = true → decide (PartsK c) = false) := fun i k h1 h2 h3 h4 => decide_eq_false fun a => by
    have := (apart_iff c.parts).1 a.2.2 i k h1 h2 h3
    rw [h4] at this; cases this
  have HLong : Hid (¬ c.parts.length ≤ 32 → decide (PartsK c) = false) := fun hn => decide_eq_false fun a => hn a.1
  have HAp := hide (apart_iff c.parts)
  clear hg h
  obtain ⟨oA, oC, pA, pC, wA, wC, qA, qC, lA, lC⟩ := d
  obtain ⟨nodes, owners, drift, reading, margin, bound, rejoin, quota, parts, windows, ports, links⟩ := c
  unfold Conf.val
  unfold Conf.cells at hS
  dsimp only at hS HNo HBad HMeet HLong HAp ⊢
  generalize decide (PartsK ⟨nodes, owners, drift, reading, margin, bound, rejoin, quota, parts, windows, ports, links⟩) = ans at HNo HBad HMeet HLong ⊢
  obtain ⟨hb, ⟨hl, e0, e1, e2, e3, e4, e5, e6, e7, e8, e9, e10, e11⟩, hg, hc⟩ := id hS
  dsimp only at e0 e1 e2 e3 e4 e5 e6 e7 e8 e9 e10 e11
  have HS := hide hS
  clear hS hg hc
  go_enter Tryd.func105, Tryd.ntmps105
  by_cases hlen : parts.length ≤ 32
  · have hlen2 : ((parts.length : Nat) : Int) ≤ 32 := by omega
    have HL := hide hlen
    go_wp2_with fail
    go_loopw [2, 3, 4] (fun _ i p W => ∃ k : Nat, k ≤ parts.length ∧ i = .int .i64 k ∧ CfS w W ⟨nodes, owners, drift, reading, margin, bound, rejoin, quota, parts, windows, ports, links⟩ ⟨oA, oC, pA, pC, wA, wC, qA, qC, lA, lC⟩ ∧ Hid (∀ j, j < k → PtOk ⟨nodes, owners, drift, reading, margin, bound, rejoin, quota, parts, windows, ports, links⟩ (parts.getD j default))) (fun _ i _ _ => parts.length - (intOf i).toNat)
    case atStart => exact ⟨0, by omega, rfl, HS.out, fun j hj => by omega⟩
    case round =>
      obtain ⟨k, hk, rfl, hT, H⟩ := hrel
      clear HS hb hl e0 e1 e2 e3 e4 e5 e6 e7 e8 e9 e10 e11
      obtain ⟨hb, ⟨hl, e0, e1, e2, e3, e4, e5, e6, e7, e8, e9, e10, e11⟩, hg, hc⟩ := id hT
      dsimp only at e0 e1 e2 e3 e4 e5 e6 e7 e8 e9 e10 e11
      by_cases hlt : k < parts.length
      · obtain ⟨pb, po, hA, hpb, f0, f1, f2⟩ := hc.parts.at hlt
        dsimp only at hA
        subst hA
        obtain ⟨⟨node, lo, hi⟩, hp⟩ : ∃ p, parts.getD k default = p := ⟨_, rfl⟩
        dsimp only at f0 f1 f2
        rw [hp] at f0 f1 f2
        dsimp only at f0 f1 f2
        have HP := hide hp
        have HT := hide hT
        have hbx := (Below.refl wr.heap.size wr).alloc (Nat.le_refl _) (.cells #[.int .i64 node, .int .i64 lo, .int .i64 hi] 51)
        have HT1 := hide (HT.out.below hbx)
        have HBB := hide HT1.out.bel
        have HF : Hid (¬ PtOk ⟨nodes, owners, drift, reading, margin, bound, rejoin, quota, parts, windows, ports, links⟩ ⟨node, lo, hi⟩ → ans = false) := fun g => HBad.out k hlt (by rw [HP.out]; exact g)
        have HN : Hid (PtOk ⟨nodes, owners, drift, reading, margin, bound, rejoin, quota, parts, windows, ports, links⟩ ⟨node, lo, hi⟩ → ∀ j, j < k + 1 → PtOk ⟨nodes, owners, drift, reading, margin, bound, rejoin, quota, parts, windows, ports, links⟩ (parts.getD j default)) := fun g j hj => by
          rcases Nat.lt_succ_iff_lt_or_eq.1 hj with h5 | rfl
          · exact H.out j h5
          · rw [HP.out]; exact g
        clear hp hc hg hT hbx
        by_cases a1 : 0 ≤ node
        · by_cases a2 : node < nodes
          · by_cases a3 : 0 ≤ lo
            · by_cases a4 : lo ≤ hi
              · by_cases a5 : hi ≤ 256
                · have HX := hide (HN.out ⟨⟨a1, a2⟩, a3, a4, a5⟩)
                  go_wp2_with fail
                  go_roundw
                  case rel => exact ⟨k + 1, by omega, by go_num, HT1.out, HX⟩
                  case measure => simp [intOf]; omega
                · have HX := hide (HF.out (fun g => a5 g.2.2.2))
                  go_wp2_with fail
                  go_ret
                  exact ⟨by rw [HX.out]; rfl, HBB.out⟩
              · have HX := hide (HF.out (fun g => a4 g.2.2.1))
                go_wp2_with fail
                go_ret
                exact ⟨by rw [HX.out]; rfl, HBB.out⟩
            · have HX := hide (HF.out (fun g => a3 g.2.1))
              go_wp2_with fail
              go_ret
              exact ⟨by rw [HX.out]; rfl, HBB.out⟩
          · have HX := hide (HF.out (fun g => a2 g.1.2))
            go_wp2_with fail
            go_ret
            exact ⟨by rw [HX.out]; rfl, HBB.out⟩
        · have HX := hide (HF.out (fun g => a1 g.1.1))
          go_wp2_with fail
          go_ret
          exact ⟨by rw [HX.out]; rfl, HBB.out⟩
      · obtain rfl : k = parts.length := by omega
        have HT := hide hT
        have HALL := hide H.out
        clear hT hg hc
        go_wp2_with fail
        go_loopw [2, 5, 6, 7, 8] (fun _ i _ _ _ W => ∃ k : Nat, k ≤ parts.length ∧ i = .int .i64 k ∧ CfS w W ⟨nodes, owners, drift, reading, margin, bound, rejoin, quota, parts, windows, ports, links⟩ ⟨oA, oC, pA, pC, wA, wC, qA, qC, lA, lC⟩ ∧ Hid (∀ i j, j < i → i < k → (parts.getD i default).node = (parts.getD j default).node → meetB (parts.getD i default).lo (parts.getD i default).hi (parts.getD j default).lo (parts.getD j default).hi = false)) (fun _ i _ _ _ _ => parts.length - (intOf i).toNat)
        case atStart => exact ⟨0, by omega, rfl, HT.out, fun i j _ hj => by omega⟩
        case round =>
          obtain ⟨k, hk, rfl, hT, H⟩ := hrel
          clear HT hb hl e0 e1 e2 e3 e4 e5 e6 e7 e8 e9 e10 e11
          obtain ⟨hb, ⟨hl, e0, e1, e2, e3, e4, e5, e6, e7, e8, e9, e10, e11⟩, hg, hc⟩ := id hT
          dsimp only at e0 e1 e2 e3 e4 e5 e6 e7 e8 e9 e10 e11
          have HT := hide hT
          clear hT hg hc
          by_cases hlt : k < parts.length
          · go_wp2_with fail
            go_loopw [2, 6, 7, 8] (fun _ i _ _ W => ∃ j : Nat, j ≤ k ∧ i = .int .i64 j ∧ CfS w W ⟨nodes, owners, drift, reading, margin, bound, rejoin, quota, parts, windows, ports, links⟩ ⟨oA, oC, pA, pC, wA, wC, qA, qC, lA, lC⟩ ∧ Hid (∀ t, t < j → (parts.getD k default).node = (parts.getD t default).node → meetB (parts.getD k default).lo (parts.getD k default).hi (parts.getD t default).lo (parts.getD t default).hi = false)) (fun _ i _ _ _ => k - (intOf i).toNat)
            case atStart => exact ⟨0, by omega, rfl, HT.out, fun t ht => by omega⟩
            case round =>
              obtain ⟨j, hj, rfl, hT, HJ⟩ := hrel
              clear HT hb hl e0 e1 e2 e3 e4 e5 e6 e7 e8 e9 e10 e11
              obtain ⟨hb, ⟨hl, e0, e1, e2, e3, e4, e5, e6, e7, e8, e9, e10, e11⟩, hg, hc⟩ := id hT
              dsimp only at e0 e1 e2 e3 e4 e5 e6 e7 e8 e9 e10 e11
              by_cases hlt2 : j < k
              · have hI := (hc.parts.1 (parts.getD k default) (by rw [List.getD_eq_getElem?_getD, List.getElem?_eq_getElem hlt]; exact List.getElem_mem hlt))
                obtain ⟨pb, po, hA, hpb, f0, f1, f2⟩ := hc.parts.at hlt
                obtain ⟨pb', po', hA', hpb', g0, g1, g2⟩ := hc.parts.at (show j < parts.length by omega)
                dsimp only at hA hA'
                rw [hA] at hA'
                injection hA' with hA'
                injection hA' with hA1 hA2
                subst hA1 hA2 hA
                obtain ⟨⟨n1, l1, h1⟩, hp⟩ : ∃ p, parts.getD k default = p := ⟨_, rfl⟩
                obtain ⟨⟨n2, l2, h2⟩, hq⟩ : ∃ p, parts.getD j default = p := ⟨_, rfl⟩
                dsimp only at f0 f1 f2 g0 g1 g2
                rw [hp] at f0 f1 f2 hI
                rw [hq] at g0 g1 g2
                dsimp only at f0 f1 f2 g0 g1 g2 hI
                have HP := hide hp
                have HQ := hide hq
                have HI := hide hI
                have hbx := (Below.refl wr.heap.size wr).alloc (Nat.le_refl _) (.cells #[.int .i64 n1, .int .i64 l1, .int .i64 h1] 51)
                have hby := hbx.alloc (o := .cells #[.int .i64 n2, .int .i64 l2, .int .i64 h2] 51) (by simp)
                have HT := hide (hT.below hby)
                have HBB := hide HT.out.bel
                have HM : Hid (n1 = n2 → meetB l1 h1 l2 h2 = true → ans = false) := fun q1 q2 => HMeet.out k j hlt2 hlt (by rw [HP.out, HQ.out]; exact q1) (by rw [HP.out, HQ.out]; exact q2)
                have HJ2 : Hid ((n1 = n2 → meetB l1 h1 l2 h2 = false) → ∀ t, t < j + 1 → (parts.getD k default).node = (parts.getD t default).node → meetB (parts.getD k default).lo (parts.getD k default).hi (parts.getD t default).lo (parts.getD t default).hi = false) := fun q t ht => by
                  rcases Nat.lt_succ_iff_lt_or_eq.1 ht with h5 | rfl
                  · exact HJ.out t h5
                  · rw [HP.out, HQ.out]; exact q
                clear hp hq hI hT hbx hby hg hc HJ
                by_cases hn : n1 = n2
                · subst hn
                  obtain ⟨m, hm⟩ : ∃ m, meetB l1 h1 l2 h2 = m := ⟨_, rfl⟩
                  rw [hm] at HM HJ2
                  have HMM := hide hm
                  clear hm
                  cases m
                  · have HX := hide (HJ2.out (fun _ => rfl))
                    go_wp2_with (go_at_call 138; refine (rmeet_any l1 h1 l2 h2 _ HI.out.2.1 HI.out.2.2).mono ?_; rintro e w1 ⟨rfl, rfl⟩; rw [HMM.out])
                    go_roundw
                    case rel => exact ⟨j + 1, by omega, by go_num, HT.out, HX⟩
                    case measure => simp [intOf]; omega
                  · have HX := hide (HM.out rfl rfl)
                    go_wp2_with (go_at_call 138; refine (rmeet_any l1 h1 l2 h2 _ HI.out.2.1 HI.out.2.2).mono ?_; rintro e w1 ⟨rfl, rfl⟩; rw [HMM.out])
                    go_ret
                    exact ⟨by rw [HX.out]; rfl, HBB.out⟩
                · have hn' : (n1 == n2) = false := by simpa using hn
                  have HX := hide (HJ2.out (fun q => absurd q hn))
                  clear hn
                  go_wp2_with fail
                  go_roundw
                  case rel => exact ⟨j + 1, by omega, by go_num, HT.out, HX⟩
                  case measure => simp [intOf]; omega
              · obtain rfl : j = k := by omega
                have HT := hide hT
                have HX : Hid (∀ a b, b < a → a < j + 1 → (parts.getD a default).node = (parts.getD b default).node → meetB (parts.getD a default).lo (parts.getD a default).hi (parts.getD b default).lo (parts.getD b default).hi = false) := fun a b hab ha => by
                  rcases Nat.lt_succ_iff_lt_or_eq.1 ha with h5 | rfl
                  · exact H.out a b hab h5
                  · exact HJ.out b hab
                clear hT hg hc
                go_wp2_with fail
                go_roundw
                case rel => exact ⟨j + 1, by omega, by go_num, HT.out, HX⟩
                case measure => simp [intOf]; omega
          · obtain rfl : k = parts.length := by omega
            have HX := hide (HNo.out HL.out HALL.out (HAp.out.2 fun i k h1 h2 => H.out i k h1 h2))
            have HBB := hide HT.out.bel
            go_wp2_with fail
            go_ret
            exact ⟨by rw [HX.out]; rfl, HBB.out⟩
  · have H := hide (HLong.out hlen)
    have hlen2 : ¬ ((parts.length : Nat) : Int) ≤ 32 := by omega
    go_wp2_with fail
    go_ret
    exact ⟨by rw [H.out]; rfl, hb⟩
end Go.Proofs.YtbeggdahbhfhpaaDoor
