/-
  The document's own row on windows, in the program's words.
-/
import Derived.Test.YtbeggdahbhfhpaaDoorRckA
import Derived.BigRegion
namespace Go.Proofs.YtbeggdahbhfhpaaDoor
open Go.RowKit Go.Deep
set_option linter.unusedVariables false
set_option linter.unusedSimpArgs false

set_option maxRecDepth 100000 in
set_option maxHeartbeats 8000000 in
theorem rwindowsK (c : Conf) (d : Ad) (w : World) (hg : Glo w) (h : ConfAt w c d) (hn16 : c.nodes ≤ 16) (hn0 : 0 ≤ c.nodes) :
    Calls Tryd.prog 106 #[c.val d] w fun e w' => e = .returned (.bool (decide (WindowsK c))) ∧ Below w.heap.size w w' := by
  have hS := CfS.first 28 hg h
  have HYes : Hid ((c.windows.length : Int) = c.nodes → (∀ n, n < c.windows.length → RowOk c n) → decide (WindowsK c) = true) := fun a b => decide_eq_true ⟨a, b⟩
  have HBad : Hid (∀ n, n < c.windows.length → ¬ RowOk c n → decide (WindowsK c) = false) := fun n hn q => decide_eq_false fun a => q (a.2 n hn)
  have HLen : Hid (¬ (c.windows.length : Int) = c.nodes → decide (WindowsK c) = false) := fun q => decide_eq_false fun a => q a.1
  have HRow : Hid (∀ n, RowOk c n ↔ ((c.windows.getD n []).length : Int) = c.nodes ∧ ∀ i, i < (c.windows.getD n []).length → WinOk c n ((c.windows.getD n []).getD i 0)) := fun n => Iff.rfl
  have HWin : Hid (∀ n p, WinOk c n p ↔ p = -1 ∨ (ofB p c.parts.length = true ∧ (c.parts.getD p.toNat default).node = (n : Int))) := fun n p => Iff.rfl
  clear hg h
  obtain ⟨oA, oC, pA, pC, wA, wC, qA, qC, lA, lC⟩ := d
  obtain ⟨nodes, owners, drift, reading, margin, bound, rejoin, quota, parts, windows, ports, links⟩ := c
  unfold Conf.val
  unfold Conf.cells at hS
  dsimp only at hS HYes HBad HLen HRow HWin hn16 hn0 ⊢
  generalize decide (WindowsK ⟨nodes, owners, drift, reading, margin, bound, rejoin, quota, parts, windows, ports, links⟩) = ans at HYes HBad HLen ⊢
  obtain ⟨ro, hro⟩ : ∃ ro, ro = RowOk ⟨nodes, owners, drift, reading, margin, bound, rejoin, quota, parts, windows, ports, links⟩ := ⟨_, rfl⟩
  obtain ⟨wo, hwo⟩ : ∃ wo, wo = WinOk ⟨nodes, owners, drift, reading, margin, bound, rejoin, quota, parts, windows, ports, links⟩ := ⟨_, rfl⟩
  rw [← hro] at HYes HBad HRow
  rw [← hwo] at HRow HWin
  clear hro hwo
  obtain ⟨N, rfl⟩ := Int.eq_ofNat_of_zero_le hn0
  obtain ⟨hb, ⟨hl, e0, e1, e2, e3, e4, e5, e6, e7, e8, e9, e10, e11⟩, hg, hc⟩ := id hS
  dsimp only at e0 e1 e2 e3 e4 e5 e6 e7 e8 e9 e10 e11
  have hw := hide hc.windows
  have hp := hide hc.parts
  have hpl := hc.pLen
  dsimp only at hpl
  have hM : maxLen = 9223372036854775807 := rfl
  rw [hM] at hpl
  have HS := hide hS
  clear hc hg hS hM
  go_enter Tryd.func106, Tryd.ntmps106
  by_cases hlen : windows.length = N
  · subst hlen
    have hnn : ((windows.length : Int) != (windows.length : Int)) = false := by simp
    go_wp2_with fail
    go_loopw [2, 3, 4, 5] (fun _ i _ _ W => ∃ k : Nat, k ≤ windows.length ∧ i = .int .i64 k ∧ CfS w W ⟨(windows.length : Int), owners, drift, reading, margin, bound, rejoin, quota, parts, windows, ports, links⟩ ⟨oA, oC, pA, pC, wA, wC, qA, qC, lA, lC⟩ ∧ Hid (∀ j, j < k → ro j)) (fun _ i _ _ _ => windows.length - (intOf i).toNat)
    case atStart => exact ⟨0, by omega, rfl, HS.out, fun j hj => by omega⟩
    case round =>
      obtain ⟨k, hk, rfl, hT, H⟩ := hrel
      clear HS hb hl e0 e1 e2 e3 e4 e5 e6 e7 e8 e9 e10 e11 hw hp
      have HT := hide hT
      obtain ⟨hb, ⟨hl, e0, e1, e2, e3, e4, e5, e6, e7, e8, e9, e10, e11⟩, hg, hc⟩ := id hT
      dsimp only at e0 e1 e2 e3 e4 e5 e6 e7 e8 e9 e10 e11
      have hw := hide hc.windows
      have hp := hide hc.parts
      have HTD := hide (HT.out.below (Below.refl _ _).drew)
      clear hT hg hc
      by_cases hlt : k < windows.length
      · obtain ⟨wb, wof, Ai, ci, hA, hwb, f0, f1, f2, f3⟩ := hw.out.at hlt
        subst hA
        obtain ⟨row, hr⟩ : ∃ r, windows.getD k [] = r := ⟨_, rfl⟩
        rw [hr] at f0 f1 f3
        have HF : Hid (¬ ro k → ans = false) := fun g => HBad.out k hlt g
        have HN : Hid (ro k → ∀ j, j < k + 1 → ro j) := fun g j hj => by
          rcases Nat.lt_succ_iff_lt_or_eq.1 hj with h5 | rfl
          · exact H.out j h5
          · exact g
        have HR : Hid (ro k ↔ (row.length : Int) = (windows.length : Int) ∧ ∀ i, i < row.length → wo k (row.getD i 0)) := by have := HRow.out k; rw [hr] at this; exact this
        have F3 := hide f3
        clear f3 hr
        by_cases hrl : row.length = windows.length
        · have HRL := hide hrl
          rw [hrl] at f0
          clear hrl
          go_upto_region 6 with fail
          go_region
          go_wp2_with fail
          go_loop [2, 4, 5] (fun _ i _ => ∃ j : Nat, j ≤ windows.length ∧ i = .int .i64 j ∧ Hid (∀ t, t < j → wo k (row.getD t 0))) (fun _ i _ => windows.length - (intOf i).toNat)
          case atStart => exact ⟨0, by omega, rfl, fun t ht => by omega⟩
          case round =>
            obtain ⟨j, hj, rfl, HJ⟩ := hrel
            by_cases hjl : j < windows.length
            · obtain ⟨rb, rof, hA, hrb, g0⟩ := F3.out.at (show j < row.length by rw [HRL.out]; exact hjl)
              subst hA
              obtain ⟨p, hpv⟩ : ∃ p, row.getD j 0 = p := ⟨_, rfl⟩
              rw [hpv] at g0
              have HB2 : Hid (¬ wo k p → ans = false) := fun g => HF.out fun q => g (by rw [← hpv]; exact (HR.out.1 q).2 j (by rw [HRL.out]; exact hjl))
              have HN2 : Hid (wo k p → ∀ t, t < j + 1 → wo k (row.getD t 0)) := fun g t ht => by
                rcases Nat.lt_succ_iff_lt_or_eq.1 ht with h5 | rfl
                · exact HJ.out t h5
                · rw [hpv]; exact g
              have HW := hide (HWin.out k p)
              have HPV := hide hpv
              clear hpv
              by_cases hm1 : p = -1
              · subst hm1
                have HX := hide (HN2.out (HW.out.2 (.inl rfl)))
                go_wp2_with fail
                go_round
                case rel => exact ⟨j + 1, by omega, by go_num, HX⟩
                case measure => simp [intOf]; omega
              · have hm1' : (p != -1) = true := by simpa using hm1
                have hm1'' : (p == -1) = false := by simpa using hm1
                by_cases hp0 : 0 ≤ p
                · by_cases hp1 : p < parts.length
                  · obtain ⟨pn, rfl⟩ := Int.eq_ofNat_of_zero_le hp0
                    obtain ⟨qb, qo, hA, hqb, k0, _, _⟩ := hp.out.at (show pn < parts.length by omega)
                    subst hA
                    obtain ⟨nd, hnd⟩ : ∃ nd, (parts.getD pn default).node = nd := ⟨_, rfl⟩
                    rw [hnd] at k0
                    have HND := hide hnd
                    clear hnd
                    by_cases he : nd = (k : Int)
                    · subst he
                      have HX := hide (HN2.out (HW.out.2 (.inr ⟨by simp only [ofB, Bool.and_eq_true, decide_eq_true_eq]; omega, by rw [Int.toNat_natCast]; exact HND.out⟩)))
                      clear hm1
                      go_wp2_with fail
                      go_round
                      case rel => exact ⟨j + 1, by omega, by go_num, HX⟩
                      case measure => simp [intOf]; omega
                    · have HX := hide (HB2.out (fun q => by
                        rcases HW.out.1 q with q | q
                        · exact hm1 q
                        · rw [Int.toNat_natCast, HND.out] at q; exact he q.2))
                      have he' : (nd != (k : Int)) = true := by simpa using he
                      clear hm1 he
                      go_wp2_with fail
                      go_ret
                      exact ⟨by rw [HX.out]; rfl, hb.drew⟩
                  · have HX := hide (HB2.out (fun q => by
                      rcases HW.out.1 q with q | q
                      · exact hm1 q
                      · have := q.1; simp only [ofB, Bool.and_eq_true, decide_eq_true_eq] at this; omega))
                    clear hm1
                    go_wp2_with fail
                    go_ret
                    exact ⟨by rw [HX.out]; rfl, hb.drew⟩
                · have HX := hide (HB2.out (fun q => by
                    rcases HW.out.1 q with q | q
                    · exact hm1 q
                    · have := q.1; simp only [ofB, Bool.and_eq_true, decide_eq_true_eq] at this; omega))
                  clear hm1
                  go_wp2_with fail
                  go_ret
                  exact ⟨by rw [HX.out]; rfl, hb.drew⟩
            · have hjw : j = windows.length := by omega
              have HX := hide (HN.out (HR.out.2 ⟨by rw [HRL.out], fun i hi => HJ.out i (by rw [hjw, ← HRL.out]; exact hi)⟩))
              go_wp2_with fail
              go_roundw
              case rel => exact ⟨k + 1, by omega, by go_num, HTD.out, HX⟩
              case measure => simp [intOf]; omega
        · have HX := hide (HF.out (fun q => hrl (by have := (HR.out.1 q).1; omega)))
          have hrl' : ((row.length : Int) != (windows.length : Int)) = true := by simp; omega
          go_upto_region 6 with fail
          go_region
          go_wp2_with fail
          go_ret
          exact ⟨by rw [HX.out]; rfl, hb.drew⟩
      · obtain rfl : k = windows.length := by omega
        have HX := hide (HYes.out (by first | trivial | rfl) (fun n hn => H.out n hn))
        go_wp2_with fail
        go_ret
        exact ⟨by rw [HX.out]; rfl, hb⟩
  · have H := hide (HLen.out (fun q => hlen (by omega)))
    have hlen' : ((windows.length : Int) != (N : Int)) = true := by simp; omega
    go_wp2_with fail
    go_ret
    exact ⟨by rw [H.out]; rfl, hb⟩
end Go.Proofs.YtbeggdahbhfhpaaDoor
