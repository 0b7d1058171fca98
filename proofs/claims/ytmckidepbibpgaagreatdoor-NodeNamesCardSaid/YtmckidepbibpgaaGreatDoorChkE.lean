/-
  What the program asks of windows.
-/
import Derived.Test.YtmckidepbibpgaaGreatDoorChkD
namespace Go.Proofs.YtmckidepbibpgaaGreatDoor
open Go.RowKit Go.Deep
set_option linter.unusedVariables false

/-- may this stand in a window of a node? -/
def WinOk (c : Conf) (n : Nat) (p : Int) : Prop := p = -1 ∨ (ofB p c.parts.length = true ∧ (c.parts.getD p.toNat default).node = (n : Int))
instance (c : Conf) (n : Nat) (p : Int) : Decidable (WinOk c n p) := by unfold WinOk; infer_instance
def RowOk (c : Conf) (n : Nat) : Prop := ((c.windows.getD n []).length : Int) = c.nodes ∧ ∀ i, i < (c.windows.getD n []).length → WinOk c n ((c.windows.getD n []).getD i 0)
instance (c : Conf) (n : Nat) : Decidable (RowOk c n) := by unfold RowOk; infer_instance
/-- the row on windows -/
def WindowsK (c : Conf) : Prop := (c.windows.length : Int) = c.nodes ∧ ∀ n, n < c.windows.length → RowOk c n
instance (c : Conf) : Decidable (WindowsK c) := by unfold WindowsK; infer_instance

set_option maxRecDepth 100000 in
set_option maxHeartbeats 4000000 in
theorem windows_any (c : Conf) (d : Ad) (w : World) (hg : Glo w) (h : ConfAt w c d) (hn : c.nodes ≤ 16) :
    Calls Tryz.prog 174 #[c.val d] w fun e w' => e = .returned (.bool (decide (WindowsK c))) ∧ Below w.heap.size w w' := by
  have hS := CfS.first 28 hg h
  clear hg h
  obtain ⟨oA, oC, pA, pC, wA, wC, qA, qC, lA, lC⟩ := d
  unfold Conf.val
  unfold Conf.cells at hS
  dsimp only at hS ⊢
  go_enter Tryz.func174, Tryz.ntmps174
  by_cases hlen : ((c.windows.length : Nat) : Int) = c.nodes
  · have hl16 : c.windows.length ≤ 16 := by omega
    obtain ⟨hb, ⟨hl, e0, e1, e2, e3, e4, e5, e6, e7, e8, e9, e10, e11⟩, hg, hc⟩ := id hS
    dsimp only at e1 e8 e9 e10 e11
    have hw := hide hc.windows
    have hp := hide hc.parts
    clear hc hg hS
    go_upto_region 4 with fail
    go_loop [16] (fun i => ∃ k : Nat, k ≤ c.windows.length ∧ i = .int .i64 k ∧ Hid (∀ j, j < k → RowOk c j)) (fun i => c.windows.length - (intOf i).toNat)
    case atStart => exact ⟨0, by omega, rfl, fun j hj => by omega⟩
    case round =>
      obtain ⟨k, hk, rfl, H⟩ := hrel
      by_cases hlt : k < c.windows.length
      · obtain ⟨wb, wo, Ai, ci, hA, hwb, f0, f1, f2, f3⟩ := hw.out.at hlt
        subst hA
        obtain ⟨row, hr⟩ : ∃ r, c.windows.getD k [] = r := ⟨_, rfl⟩
        rw [hr] at f0 f1 f3
        have HF : Hid (¬ RowOk c k → decide (WindowsK c) = false) := fun g => by
          rw [decide_eq_false_iff_not]
          exact fun a => g (a.2 k hlt)
        have HR := hide hr
        have F3 := hide f3
        clear f3 hr
        by_cases hrl : ((row.length : Nat) : Int) = c.nodes
        · have hr16 : row.length ≤ 16 := by omega
          go_upto_region 9 with fail
          go_loop [28] (fun i => ∃ j : Nat, j ≤ row.length ∧ i = .int .i64 j ∧ Hid (∀ t, t < j → WinOk c k (row.getD t 0))) (fun i => row.length - (intOf i).toNat)
          case atStart => exact ⟨0, by omega, rfl, fun t ht => by omega⟩
          case round =>
            obtain ⟨j, hj, rfl, HJ⟩ := hrel
            by_cases hjl : j < row.length
            · obtain ⟨rb, ro, hA, hrb, g0⟩ := F3.out.at hjl
              subst hA
              obtain ⟨p, hpv⟩ : ∃ p, row.getD j 0 = p := ⟨_, rfl⟩
              rw [hpv] at g0
              have HN : Hid (WinOk c k p → ∀ t, t < j + 1 → WinOk c k (row.getD t 0)) := fun g t ht => by
                rcases Nat.lt_succ_iff_lt_or_eq.1 ht with h5 | rfl
                · exact HJ.out t h5
                · rw [hpv]; exact g
              have HX : Hid (¬ WinOk c k p → ¬ RowOk c k) := fun g a => g (by
                have a1 := a.2 j (by rw [HR.out]; exact hjl)
                rw [HR.out, hpv] at a1
                exact a1)
              clear HJ hpv
              by_cases hm : p = -1
              · subst hm
                have H1 := hide (HN.out (.inl rfl))
                go_wp2
                go_round
                case rel => exact ⟨j + 1, by omega, by go_num, H1⟩
                case measure => simp [intOf]; omega
              · obtain ⟨q1, h1⟩ : ∃ q, ofB p c.parts.length = q := ⟨_, rfl⟩
                cases q1
                · have H1 := hide (HF.out (HX.out (fun g => by
                    rcases g with g | g
                    · exact hm g
                    · rw [h1] at g; cases g.1)))
                  replace h1 := hide h1
                  go_wp2_with (go_at_call 225; refine (of_parts _ _ _ _ _).mono ?_; rintro e w1 ⟨rfl, rfl⟩; rw [h1.out])
                  go_ret
                  exact ⟨by rw [H1.out]; rfl, hb⟩
                · have hof := h1
                  simp only [ofB, Bool.and_eq_true, decide_eq_true_eq] at hof
                  obtain ⟨u1, u2⟩ := hof
                  obtain ⟨pn, rfl⟩ := Int.eq_ofNat_of_zero_le u1
                  obtain ⟨pb, po, hA, hpb, x0, x1, x2⟩ := hp.out.at (k := pn) (by omega)
                  (try dsimp only at hA)
                  subst hA
                  obtain ⟨z, hz⟩ : ∃ z, (c.parts.getD pn default).node = z := ⟨_, rfl⟩
                  rw [hz] at x0
                  by_cases hzk : z = (k : Int)
                  · have H1 := hide (HN.out (.inr ⟨h1, by simpa using hz.trans hzk⟩))
                    replace h1 := hide h1
                    subst hzk
                    clear hz
                    go_wp2_with (go_at_call 225; refine (of_parts _ _ _ _ _).mono ?_; rintro e w1 ⟨rfl, rfl⟩; rw [h1.out])
                    go_round
                    case rel => exact ⟨j + 1, by omega, by go_num, H1⟩
                    case measure => simp [intOf]; omega
                  · have H1 := hide (HF.out (HX.out (fun g => by
                      rcases g with g | g
                      · exact hm g
                      · exact hzk (hz.symm.trans (by simpa using g.2)))))
                    replace h1 := hide h1
                    have hzb : (z != (k : Int)) = true := by simpa using hzk
                    clear hz hzk
                    go_wp2_with (go_at_call 225; refine (of_parts _ _ _ _ _).mono ?_; rintro e w1 ⟨rfl, rfl⟩; rw [h1.out])
                    go_ret
                    exact ⟨by rw [H1.out]; rfl, hb⟩
            · obtain rfl : j = row.length := by omega
              have H1 : Hid (∀ t, t < k + 1 → RowOk c t) := fun t ht => by
                rcases Nat.lt_succ_iff_lt_or_eq.1 ht with h5 | rfl
                · exact H.out t h5
                · unfold RowOk; rw [HR.out]; exact ⟨hrl, HJ.out⟩
              clear HJ
              go_wp2
              go_round
              case rel => exact ⟨k + 1, by omega, by go_num, H1⟩
              case measure => simp [intOf]; omega
        · have H1 := hide (HF.out (fun a => hrl (by have a1 := a.1; rw [HR.out] at a1; exact a1)))
          go_wp2
          go_ret
          exact ⟨by rw [H1.out]; rfl, hb⟩
      · obtain rfl : k = c.windows.length := by omega
        have H2 : Hid (decide (WindowsK c) = true) := by
          show _ = _
          rw [decide_eq_true_eq]
          exact ⟨hlen, H.out⟩
        go_wp2
        go_ret
        exact ⟨by rw [H2.out]; rfl, hb⟩
  · have H : Hid (decide (WindowsK c) = false) := by
      show _ = _
      rw [decide_eq_false_iff_not]
      exact fun a => hlen a.1
    obtain ⟨hb, ⟨hl, e0, e1, e2, e3, e4, e5, e6, e7, e8, e9, e10, e11⟩, hg, hc⟩ := id hS
    dsimp only at e1 e8 e9 e10 e11
    clear hS hg hc
    go_wp2
    go_ret
    exact ⟨by rw [H.out]; rfl, hb⟩
end Go.Proofs.YtmckidepbibpgaaGreatDoor
