/-
  The document's own: the gaps.
-/
import Derived.Test.YtmplioglihmkjaaRiA
import Derived.Test.YtmplioglihmkjaaRhC
namespace Go.Proofs.Ytmplioglihmkjaa
open Go.RowKit Go.Shelf
attribute [local go_sem] Oper.semAt_some
set_option linter.unusedVariables false
set_option linter.unusedSimpArgs false
set_option maxRecDepth 100000

theorem anyT_succ (t : Nat → Bool) (i : Nat) : anyT t (i + 1) = (anyT t i || t i) := by
  unfold anyT; rw [List.range_succ, List.any_append]; simp

theorem own_to {W : World} {B C : Nat} {h : Value} {l : List Ai} (x : OwnA W B h l) (hC : C ≤ B) : OwnA W C h l := by
  refine ⟨x.1, ?_⟩
  rcases x.2 with h | ⟨g, cap, cur, a, b, r⟩
  · exact .inl h
  · exact .inr ⟨g, cap, cur, a, Nat.le_trans hC b, r⟩
theorem gapTo_no {t : Nat → Bool} {n i : Nat} (h : st t n i = false) : gapTo t n (i + 1) = gapTo t n i := by rw [gapTo_succ, h]; simp
theorem gapTo_yes {t : Nat → Bool} {n i k : Nat} (h : st t n i = true) (hk : rl t n i = k) : gapTo t n (i + 1) = gapTo t n i ++ [(i, k)] := by rw [gapTo_succ, h, hk]; rfl

set_option maxHeartbeats 4000000 in
theorem rgaps_at (l : List Ai) (A : Option Addr) (c n : Nat) (w : World) (hI : Arcs w A l) (hok : ∀ a ∈ l, okB n a = true) (hn : 0 < n) (hn2 : n ≤ 1000) (hlen : l.length ≤ 1000) :
    Calls Try.prog 26 #[.slice A l.length c, .int .i64 (n : Nat)] w fun e w' => ∃ v, e = .returned v ∧ OwnA w' w.heap.size v (toI (gapF (tk n (l.map tA)) n)) ∧ Below w.heap.size w w' := by
  have HTk := hide (rtaken_at l A c n w hI hok hn hn2 hlen)
  have HT := hide (cntA_tk n (l.map tA))
  have HCl := hide (fun p => Nat.le_trans (cntA_le n (l.map tA) p) (show (l.map tA).length ≤ 1000 by simpa using hlen))
  generalize cntA n (l.map tA) = cA at *
  generalize tk n (l.map tA) = t at *
  obtain ⟨N, hN⟩ : ∃ N, N = l.length := ⟨_, rfl⟩
  rw [← hN] at hlen HTk ⊢
  clear hI hok hN
  go_enter Try.func26, Try.ntmps26
  go_wp2_with fail
  refine HTk.out.mono ?_
  rintro e w1 ⟨g, rfl, hg, hrow, hb⟩
  have HRow := hide hrow
  have HB := hide hb
  have hgl : g < w1.heap.size := (Array.getElem?_eq_some_iff.1 hrow).1
  clear hrow hb HTk
  go_wp2_with fail
  go_loop [7, 8] (fun av kv => ∃ k : Nat, k ≤ n ∧ kv = .int .i64 k ∧ av = .bool (anyT t k)) (fun _ kv => n - (intOf kv).toNat)
  case atStart => exact ⟨0, Nat.zero_le _, rfl, rfl⟩
  case round =>
    obtain ⟨k, hk, rfl, rfl⟩ := hrel
    by_cases hlt : k < n
    · have c0 : w1.cell? ⟨g, k, none⟩ = some (.int .i64 (cA k : Nat)) := by rw [cell_of_row _ _ _ _ _ _ HRow.out, irow_get hlt]
      have hS := anyT_succ t k
      rw [← HT.out k] at hS
      have hck := HCl.out k
      generalize cA k = q at *
      have hq0 : decide ((0 : Int) < (q : Int)) = decide (0 < q) := by rw [Bool.eq_iff_iff, decide_eq_true_iff, decide_eq_true_iff]; omega
      by_cases hq : 0 < q
      · rw [decide_eq_true hq] at hS
        have HS := hide hS
        clear hS hq0
        generalize anyT t k = a at *
        cases a with
        | true =>
          go_wp2_with fail
          go_round
          case rel => exact ⟨k + 1, by omega, by go_num, by rw [HS.out]; rfl⟩
          case measure => simp [intOf]; omega
        | false =>
          go_wp2_with fail
          go_round
          case rel => exact ⟨k + 1, by omega, by go_num, by rw [HS.out]; rfl⟩
          case measure => simp [intOf]; omega
      · rw [decide_eq_false hq] at hS
        have HS := hide hS
        clear hS hq0
        generalize anyT t k = a at *
        cases a with
        | true =>
          go_wp2_with fail
          go_round
          case rel => exact ⟨k + 1, by omega, by go_num, by rw [HS.out]; rfl⟩
          case measure => simp [intOf]; omega
        | false =>
          go_wp2_with fail
          go_round
          case rel => exact ⟨k + 1, by omega, by go_num, by rw [HS.out]; rfl⟩
          case measure => simp [intOf]; omega
    · have hkn : n = k := by omega
      subst hkn
      cases hany : anyT t n with
      | false =>
        have HG := hide (show gapF t n = [(0, n)] from by unfold gapF; rw [hany]; rfl)
        go_wp2_with fail
        go_ret
        refine ⟨_, rfl, ?_, HB.out.alloc HB.out.size _⟩
        rw [HG.out]
        refine ⟨rfl, .inr ⟨_, _, _, rfl, HB.out.size, heap_alloc_new w1 _, Nat.le_refl _, by decide, rfl, rfl⟩⟩
      | true =>
        have HG := hide (show gapF t n = gapTo t n n from by unfold gapF; rw [hany]; rfl)
        have HPl := hide (fun (a : Int) (h : I64 a) W => rplace_at a n h (by omega) (by omega) W)
        go_wp2_with fail
        go_loopw [6, 9] (fun lv iv wr => ∃ i : Nat, i ≤ n ∧ iv = .int .i64 i ∧ OwnA wr w1.heap.size lv (toI (gapTo t n i)) ∧ Below w1.heap.size w1 wr) (fun _ iv _ => n - (intOf iv).toNat)
        case atStart => exact ⟨0, Nat.zero_le _, rfl, World.ownsRow_nil _ _ _ _, Below.refl _ _⟩
        case round =>
          obtain ⟨i, hi, rfl, hO, hbr⟩ := hrel
          have HO := hide hO
          have HBr := hide hbr
          have hwz := hbr.size
          have HRow2 := hide ((hbr.block g hgl).trans HRow.out)
          by_cases hil : i < n
          · have HP := hide (HPl.out ((i : Int) - 1) (by unfold I64; omega))
            rw [show ((i : Int) - 1) % (n : Int) = (((i + n - 1) % n : Nat) : Int) from by rw [← Int.add_emod_right, show (i : Int) - 1 + n = ((i + n - 1 : Nat) : Int) from by omega]; rfl] at HP
            have hbm := Nat.mod_lt (i + n - 1) hn
            have HSt := hide (show st t n i = (!t i && t ((i + n - 1) % n)) from rfl)
            have HBk := hide (show ∀ k, k < n → t ((i + k) % n) = false → t ((i + n - 1) % n) = true → k + 1 < n from fun k hk h1 h2 => by
              rcases Nat.lt_or_ge (k + 1) n with h | h
              · exact h
              · rw [show i + k = i + n - 1 by omega, h2] at h1; cases h1)
            generalize (i + n - 1) % n = b at *
            have hbl : b < wr.heap.size ∨ True := .inr trivial
            have c0 : wr.cell? ⟨g, i, none⟩ = some (.int .i64 (cA i : Nat)) := by rw [cell_of_row _ _ _ _ _ _ HRow2.out, irow_get hil]
            have c1 : wr.cell? ⟨g, b, none⟩ = some (.int .i64 (cA b : Nat)) := by rw [cell_of_row _ _ _ _ _ _ HRow2.out, irow_get hbm]
            have hTi := HT.out i
            have hTb := HT.out b
            have hci := HCl.out i
            have hcb := HCl.out b
            have hln := gapTo_le t n i
            clear hO hbr
            generalize hqi : cA i = qi at *
            generalize hqb : cA b = qb at *
            clear hqi hqb
            by_cases h1 : 0 < qi
            · rw [decide_eq_true h1] at hTi
              have HN := hide (gapTo_no (show st t n i = false from by rw [HSt.out, ← hTi]; rfl))
              clear hTi hTb
              by_cases h2 : qb = 0
              · subst h2
                go_wp2_with fail
                refine (HP.out _).mono ?_
                rintro e w' ⟨rfl, rfl⟩
                go_wp2_with fail
                exact ⟨⟨i + 1, by omega, by go_num, by rw [HN.out]; exact HO.out, HBr.out⟩, by simp [intOf]; omega⟩
              · go_wp2_with fail
                refine (HP.out _).mono ?_
                rintro e w' ⟨rfl, rfl⟩
                go_wp2_with fail
                exact ⟨⟨i + 1, by omega, by go_num, by rw [HN.out]; exact HO.out, HBr.out⟩, by simp [intOf]; omega⟩
            · obtain rfl : qi = 0 := by omega
              by_cases h2 : qb = 0
              · subst h2
                have HN := hide (gapTo_no (show st t n i = false from by rw [HSt.out, ← hTb]; simp))
                clear hTi hTb
                go_wp2_with fail
                refine (HP.out _).mono ?_
                rintro e w' ⟨rfl, rfl⟩
                go_wp2_with fail
                exact ⟨⟨i + 1, by omega, by go_num, by rw [HN.out]; exact HO.out, HBr.out⟩, by simp [intOf]; omega⟩
              · have hSt : st t n i = true := by rw [HSt.out, ← hTi, ← hTb]; simp; omega
                have HY := hide (fun k (h : rl t n i = k) => gapTo_yes hSt h)
                have he1 : ((qb : Int) == 0) = false := by rw [beq_eq_false_iff_ne]; omega
                have he2 : decide ((qb : Int) = 0) = false := decide_eq_false (by omega)
                have HBk2 := hide (fun k (hk : k < n) h => HBk.out k hk h (by rw [← hTb]; simp; omega))
                clear hTi hTb hSt
                go_wp2_with fail
                refine (HP.out _).mono ?_
                rintro e w' ⟨rfl, rfl⟩
                go_wp2_with fail
                go_loop [11, 12, 13] (fun sv kv _ => ∃ k : Nat, k < n ∧ kv = .int .i64 k ∧ sv = .int .i64 k ∧ ∀ j, j < k → t ((i + j) % n) = false) (fun _ kv _ => n - (intOf kv).toNat)
                case atStart => exact ⟨0, hn, rfl, rfl, fun j hj => absurd hj (Nat.not_lt_zero j)⟩
                case round =>
                  obtain ⟨k, hk, rfl, rfl, hfr⟩ := hrel
                  have HFr := hide hfr
                  have HP := hide (HPl.out ((i : Int) + (k : Int)) (by unfold I64; omega))
                  rw [show ((i : Int) + (k : Int)) % (n : Int) = (((i + k) % n : Nat) : Int) from rfl] at HP
                  have hxm := Nat.mod_lt (i + k) hn
                  have hTx := HT.out ((i + k) % n)
                  have hcx := HCl.out ((i + k) % n)
                  have HB3 := hide (HBk2.out k hk)
                  have HRn := hide (fun (h : t ((i + k) % n) = true) => HY.out k (rl_of ⟨by omega, hfr, fun _ => h⟩))
                  have HFn := hide (fun (h : t ((i + k) % n) = false) => show ∀ j, j < k + 1 → t ((i + j) % n) = false from fun j hj => by
                    by_cases e : j = k
                    · rw [e]; exact h
                    · exact HFr.out j (by omega))
                  generalize (i + k) % n = x at *
                  have c2 : wr.cell? ⟨g, x, none⟩ = some (.int .i64 (cA x : Nat)) := by rw [cell_of_row _ _ _ _ _ _ HRow2.out, irow_get hxm]
                  generalize cA x = q at *
                  clear hfr
                  by_cases hq : 0 < q
                  · rw [decide_eq_true hq] at hTx
                    have HNew := hide (HRn.out hTx.symm)
                    clear hTx HRn HFn HB3
                    generalize hLn : (gapTo t n i).length = L at *
                    have HLen := hide (show (toI (gapTo t n i)).length = L by rw [toI_len, hLn])
                    have hO2 : wr.ownsRow w1.heap.size 41 2 u6 L (flatA (toI (gapTo t n i))) := by
                      have := HO.out; unfold OwnA at this; rw [HLen.out] at this; exact this
                    have HO2 := hide hO2
                    clear hO2 hLn
                    go_wp2_with fail
                    refine (HP.out _).mono ?_
                    rintro e w' ⟨rfl, rfl⟩
                    go_wp2_with (at_builtin; refine wpList_one _ rfl _ _ 34 rfl 41 (.agg #[.int .i64 0, .int .i64 0]) 2 16 under_arcs info_arc rfl (by decide) (by decide) w1.heap.size _ _ _ rfl (own_below HO2.out (bal wr _) (Nat.le_refl _)) _ _ [.int .i64 (i : Nat), .int .i64 (k : Nat)] rfl (heap_alloc_new wr _) rfl (by simp [Value.oneCell']) (by omega) (by simp; omega) ?_; intro v' w4 hown4 hgr4 hwh; have HO4 := hide hown4; have HG4 := hide hgr4; clear hown4 hgr4 hwh)
                    refine ⟨⟨i + 1, by omega, by go_num, ?_, below_own (HBr.out.alloc hwz _) (own_below HO2.out (bal wr (.cells #[.int .i64 (i : Nat), .int .i64 (k : Nat)] 41)) (Nat.le_refl _)) HG4.out (by omega) (by simp; omega)⟩, by simp [intOf]; omega⟩
                    unfold OwnA
                    rw [HNew.out, toI_snoc, flatA_snoc, List.length_append, HLen.out]
                    exact HO4.out
                  · obtain rfl : q = 0 := by omega
                    have hTf : t x = false := by rw [← hTx]; rfl
                    have hkn := HB3.out hTf
                    have HFk := hide (HFn.out hTf)
                    clear hTx hTf HRn HFn HB3
                    go_wp2_with fail
                    refine (HP.out _).mono ?_
                    rintro e w' ⟨rfl, rfl⟩
                    go_wp2_with fail
                    go_round
                    case rel => exact ⟨k + 1, by omega, by go_num, by go_num, HFk.out⟩
                    case measure => simp [intOf]; omega
          · have hin : n = i := by omega
            have HO3 := hide (show OwnA wr w1.heap.size u6 (toI (gapTo t n n)) from by rw [show gapTo t n n = gapTo t n i from by rw [← hin]]; exact HO.out)
            clear hO HO
            subst hin
            go_wp2_with fail
            go_ret
            exact ⟨_, rfl, by rw [HG.out]; exact own_to HO3.out HB.out.size, HB.out.trans (HBr.out.mono HB.out.size)⟩
end Go.Proofs.Ytmplioglihmkjaa
