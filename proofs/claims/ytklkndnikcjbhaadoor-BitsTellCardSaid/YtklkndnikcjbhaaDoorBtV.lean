/-
  The document's Majority and Runs.
-/
import Derived.Test.YtklkndnikcjbhaaDoorBtU
namespace Go.Proofs.YtklkndnikcjbhaaDoor
open Go.RowKit Go.Shelf
set_option linter.unusedVariables false
set_option linter.unusedSimpArgs false

set_option maxRecDepth 100000 in
set_option maxHeartbeats 4000000 in
theorem rmaj_at (p q : Nat) (hp : p < 18446744073709551616) (hq : q < 18446744073709551616) (w : World) :
    Calls Tryd.prog 19 #[.int .u64 p, .int .u64 q] w fun e w' => e = .returned (.bool (majB p q)) ∧ Below w.heap.size w w' := by
  have hz := (zero_of_info info_bc).1
  have HNx := hide (fun n => num_succ n (p &&& q))
  have HNq := hide (fun n => num_succ n q)
  have HAnd := hide (fun n => Nat.testBit_and p q n)
  have H := hide (show majB p q = decide (2 * num 64 (p &&& q) > num 64 q) from rfl)
  have HLe := hide (fun n => num_le n q)
  go_enter Tryd.func19, Tryd.ntmps19
  go_wp2_with fail
  refine (bools_at p hp _).mono ?_
  rintro e w1 ⟨rfl, hb1⟩
  have HB1 := hide hb1
  clear hb1
  go_wp2_with (refine wpList_store_row rfl 60 (.tmp 5) (.tmp 11) rfl w1.heap.size (bc fun i => p.testBit i) rfl rfl 60 _ (heap_alloc_new w1 _) (bc_info _) (by rw [bc_size, bc_size]) (bc_one _) ?_; rw [World.setRow_alloc_new])
  have HR := hide (heap_alloc_new w1 (.cells (bc fun i => p.testBit i) 60))
  have HB2 := hide (HB1.out.trans ((bal w1 (.cells (bc fun i => p.testBit i) 60)).mono HB1.out.size))
  have hz2 : w1.heap.size < (w1.alloc (.cells (bc fun i => p.testBit i) 60)).heap.size := by simp
  generalize w1.alloc (.cells (bc fun i => p.testBit i) 60) = w2 at HR HB2 hz2 ⊢
  refine (bools_at q hq _).mono ?_
  rintro e w3 ⟨rfl, hb3⟩
  have HR3 := hide ((hb3.block _ hz2).trans HR.out)
  have hz3 : w1.heap.size < w3.heap.size := Nat.lt_of_lt_of_le hz2 hb3.size
  have HB3 := hide (HB2.out.trans (hb3.mono HB2.out.size))
  clear hb3 HR HB2
  go_wp2_with (refine wpList_store_row rfl 60 (.tmp 6) (.tmp 13) rfl w3.heap.size (bc fun i => q.testBit i) rfl rfl 60 _ (heap_alloc_new w3 _) (bc_info _) (by rw [bc_size, bc_size]) (bc_one _) ?_; rw [World.setRow_alloc_new])
  have HQ := hide (heap_alloc_new w3 (.cells (bc fun i => q.testBit i) 60))
  have HP := hide ((heap_alloc_old w3 (.cells (bc fun i => q.testBit i) 60) hz3).trans HR3.out)
  have HB4 := hide (HB3.out.trans ((bal w3 (.cells (bc fun i => q.testBit i) 60)).mono HB3.out.size))
  generalize w3.alloc (.cells (bc fun i => q.testBit i) 60) = w4 at HQ HP HB4 ⊢
  clear hz HR3 HB3
  go_loop [7, 8, 9] (fun a b i => ∃ (n x y : Nat), n ≤ 64 ∧ a = .int .i64 x ∧ b = .int .i64 y ∧ i = .int .i64 n ∧ x = num n (p &&& q) ∧ x + y = num n q) (fun _ _ i => 64 - (intOf i).toNat)
  case atStart => exact ⟨0, 0, 0, by omega, rfl, rfl, rfl, rfl, rfl⟩
  case round =>
    obtain ⟨n, x, y, hn, rfl, rfl, rfl, hx, hy⟩ := hrel
    have HX := hide hx
    have HY := hide hy
    have hle := HLe.out n
    rw [← hy] at hle
    clear hx hy
    by_cases hlt : n < 64
    · have hcp : w4.cell? ⟨w1.heap.size, n, none⟩ = some (.bool (p.testBit n)) := by rw [cell_of_row _ _ _ _ _ _ HP.out, bc_get _ _ hlt]
      have hcq : w4.cell? ⟨w3.heap.size, n, none⟩ = some (.bool (q.testBit n)) := by rw [cell_of_row _ _ _ _ _ _ HQ.out, bc_get _ _ hlt]
      have HA := hide (HAnd.out n)
      have H1 := hide (HNx.out n)
      have H2 := hide (HNq.out n)
      generalize p.testBit n = bp at *
      generalize q.testBit n = bq at *
      cases bq with
      | false =>
        go_wp2_with fail
        go_round
        case rel => exact ⟨n + 1, x, y, by omega, rfl, rfl, by go_num, by rw [H1.out, HA.out, ← HX.out]; simp, by rw [H2.out, ← HY.out]; simp⟩
        case measure => simp [intOf]; omega
      | true =>
        cases bp with
        | false =>
          go_wp2_with fail
          go_round
          case rel => exact ⟨n + 1, x, y + 1, by omega, rfl, by go_num, by go_num, by rw [H1.out, HA.out, ← HX.out]; simp, by rw [H2.out, ← HY.out]; simp; omega⟩
          case measure => simp [intOf]; omega
        | true =>
          go_wp2_with fail
          go_round
          case rel => exact ⟨n + 1, x + 1, y, by omega, by go_num, rfl, by go_num, by rw [H1.out, HA.out, ← HX.out]; simp, by rw [H2.out, ← HY.out]; simp; omega⟩
          case measure => simp [intOf]; omega
    · obtain rfl : n = 64 := by omega
      rw [← HX.out, ← HY.out] at H
      go_wp2_with fail
      go_ret
      exact ⟨by rw [H.out]; congr 2; simp; omega, HB4.out⟩

theorem beg_zero (s : Nat) : beg s 0 = 0 := rfl
theorem beg_fresh {s m : Nat} (h : s.testBit m = false) : beg s (m + 1) = m + 1 := by simp [beg, h]
theorem beg_on {s m : Nat} (h : s.testBit m = true) : beg s (m + 1) = beg s m := by simp [beg, h]
theorem rns_no {s m : Nat} (h : s.testBit m = false) : rns s (m + 1) = rns s m := by simp [rns, h]
theorem rns_on {s m : Nat} (h : s.testBit (m + 1) = true) : rns s (m + 1) = rns s m := by simp [rns, h]
theorem rns_end {s m : Nat} (h : s.testBit m = true) (h2 : s.testBit (m + 1) = false) : rns s (m + 1) = rns s m ++ [(beg s m, m + 1)] := by simp [rns, h, h2]
theorem rns_len (s : Nat) : ∀ n, (rns s n).length ≤ n
  | 0 => Nat.le_refl _
  | n + 1 => by
    have := rns_len s n
    simp only [rns, List.length_append]
    split <;> simp <;> omega
theorem beg_le (s n : Nat) : beg s n ≤ n := (beg_all s n).1

set_option maxRecDepth 100000 in
set_option maxHeartbeats 16000000 in
theorem rruns_any (s : Nat) (hs : s < 18446744073709551616) (w : World) :
    Calls Tryd.prog 21 #[.int .u64 s] w fun e w' => ∃ h, e = .returned h ∧ OwnP w' w.heap.size h (runsF s) ∧ Below w.heap.size w w' := by
  have hz := (zero_of_info info_bc).1
  have H64 := hide (show s.testBit 64 = false from high_zero hs (Nat.le_refl _))
  go_enter Tryd.func21, Tryd.ntmps21
  go_wp2_with fail
  refine (bools_at s hs _).mono ?_
  rintro e w1 ⟨rfl, hb1⟩
  have HB1 := hide hb1
  clear hb1
  go_wp2_with (refine wpList_store_row rfl 60 (.tmp 3) (.tmp 10) rfl w1.heap.size (bc fun i => s.testBit i) rfl rfl 60 _ (heap_alloc_new w1 _) (bc_info _) (by rw [bc_size, bc_size]) (bc_one _) ?_; rw [World.setRow_alloc_new])
  have HR := hide (heap_alloc_new w1 (.cells (bc fun i => s.testBit i) 60))
  have HB2 := hide (HB1.out.trans ((bal w1 (.cells (bc fun i => s.testBit i) 60)).mono HB1.out.size))
  have hz2 : w1.heap.size < (w1.alloc (.cells (bc fun i => s.testBit i) 60)).heap.size := by simp
  have hzw := HB1.out.size
  generalize w1.alloc (.cells (bc fun i => s.testBit i) 60) = w2 at HR HB2 hz2 ⊢
  clear hz
  go_loopw [4, 5, 6] (fun hv fv i wr => ∃ (n : Nat) (fr : Int), n ≤ 64 ∧ i = .int .i64 n ∧ fv = .int .i64 fr ∧ (∀ m, n = m + 1 → s.testBit m = true → fr = (beg s n : Int)) ∧ OwnP wr w2.heap.size hv (rns s n) ∧ Below w2.heap.size w2 wr) (fun _ _ i _ => 64 - (intOf i).toNat)
  case atStart => exact ⟨0, 0, by omega, rfl, rfl, fun m hm => by omega, World.ownsRow_nil _ _ _ _, Below.refl _ _⟩
  case round =>
    obtain ⟨n, fr, hn, rfl, rfl, hfr, hO, hbr⟩ := hrel
    obtain ⟨A, c, rfl⟩ := own_slice hO
    have HO := hide hO
    have HBr := hide hbr
    have HF := hide hfr
    have hzr := hbr.size
    have HRow := hide ((hbr.block _ hz2).trans HR.out)
    have hln := rns_len s n
    clear hO hbr hfr
    by_cases hlt : n < 64
    · have hc : ∀ i, i < 64 → wr.cell? ⟨w1.heap.size, i, none⟩ = some (.bool (s.testBit i)) := fun i hi => by rw [cell_of_row _ _ _ _ _ _ HRow.out, bc_get _ _ hi]
      have HC := hide hc
      clear hc
      by_cases hz0 : n = 0
      · cases h0 : s.testBit n
        · have H0 := hide h0
          cases hn1 : s.testBit (n + 1)
          · have HL := hide (show rns s (n + 1) = rns s n from rns_no h0)
            have x0 := HC.out n hlt
            rw [h0] at x0
            have x2 := HC.out (n + 1) (by omega)
            rw [hn1] at x2
            have y0 : decide ((n : Int) > 0) = false := decide_eq_false (by omega)
            have y1 : decide (0 < n) = false := decide_eq_false (by omega)
            have y2 : decide ((n : Int) < 63) = true := decide_eq_true (by omega)
            have y3 : decide ((n : Int) < 64) = true := decide_eq_true (by omega)
            have bd : n < 63 := by omega
            clear h0 hn1 hz0
            generalize hLL : rns s n = L at *
            clear hLL
            go_wp2_with fail
            go_roundw
            case rel =>
              refine ⟨n + 1, fr, by omega, by go_num, rfl, fun m hm hb => ?_, ?_, HBr.out⟩
              · obtain rfl : m = n := by omega
                rw [H0.out] at hb; cases hb
              · rw [HL.out]; exact HO.out
            case measure => simp [intOf]; omega
          · have HL := hide (show rns s (n + 1) = rns s n from rns_no h0)
            have x0 := HC.out n hlt
            rw [h0] at x0
            have x2 := HC.out (n + 1) (by omega)
            rw [hn1] at x2
            have y0 : decide ((n : Int) > 0) = false := decide_eq_false (by omega)
            have y1 : decide (0 < n) = false := decide_eq_false (by omega)
            have y2 : decide ((n : Int) < 63) = true := decide_eq_true (by omega)
            have y3 : decide ((n : Int) < 64) = true := decide_eq_true (by omega)
            have bd : n < 63 := by omega
            clear h0 hn1 hz0
            generalize hLL : rns s n = L at *
            clear hLL
            go_wp2_with fail
            go_roundw
            case rel =>
              refine ⟨n + 1, fr, by omega, by go_num, rfl, fun m hm hb => ?_, ?_, HBr.out⟩
              · obtain rfl : m = n := by omega
                rw [H0.out] at hb; cases hb
              · rw [HL.out]; exact HO.out
            case measure => simp [intOf]; omega
        · have H0 := hide h0
          cases hn1 : s.testBit (n + 1)
          · have HL := hide (show rns s (n + 1) = rns s n ++ [(beg s n, n + 1)] from rns_end h0 hn1)
            have HBg := hide (show beg s (n + 1) = beg s n from beg_on h0)
            have HEq := hide (show (n : Int) = (beg s n : Int) from by subst hz0; rfl)
            have x0 := HC.out n hlt
            rw [h0] at x0
            have x2 := HC.out (n + 1) (by omega)
            rw [hn1] at x2
            have y0 : decide ((n : Int) > 0) = false := decide_eq_false (by omega)
            have y1 : decide (0 < n) = false := decide_eq_false (by omega)
            have y2 : decide ((n : Int) < 63) = true := decide_eq_true (by omega)
            have y3 : decide ((n : Int) < 64) = true := decide_eq_true (by omega)
            have bd : n < 63 := by omega
            clear h0 hn1 hz0
            generalize hLL : rns s n = L at *
            clear hLL
            go_wp2_with (first
          | (at_builtin
             refine wpList_one _ rfl _ _ 27 rfl 49 (.agg #[.int .i64 0, .int .i64 0]) 2 16 under_spans info_span rfl (by decide) (by decide) w2.heap.size _ _ _ rfl (own_below HO.out (bal wr _) (Nat.le_refl _)) _ _ [.int .i64 ((n : Int)), .int .i64 ((n : Int) + 1)] rfl (heap_alloc_new wr _) rfl (by simp [Value.oneCell']) (by omega) (by simp; omega) ?_
             intro v' w4 hown4 hgr4 hwh
             have HO4 := hide hown4
             have HB4 := hide (below_own (HBr.out.alloc hzr _) (own_below HO.out (bal wr (.cells #[.int .i64 ((n : Int)), .int .i64 ((n : Int) + 1)] 49)) (Nat.le_refl _)) hgr4 (Nat.le_refl _) (by simp; omega))
             clear hown4 hgr4 hwh))
            go_roundw
            case rel =>
              refine ⟨n + 1, (n : Int), by omega, by go_num, rfl, fun m hm hb => ?_, ?_, HB4.out⟩
              · rw [HBg.out]; exact HEq.out
              · rw [HL.out]
                show World.ownsRow _ _ _ _ _ _ _
                rw [spC_snoc, List.length_append, ← HEq.out]
                exact HO4.out
            case measure => simp [intOf]; omega
          · have HL := hide (show rns s (n + 1) = rns s n from rns_on hn1)
            have HBg := hide (show beg s (n + 1) = beg s n from beg_on h0)
            have HEq := hide (show (n : Int) = (beg s n : Int) from by subst hz0; rfl)
            have x0 := HC.out n hlt
            rw [h0] at x0
            have x2 := HC.out (n + 1) (by omega)
            rw [hn1] at x2
            have y0 : decide ((n : Int) > 0) = false := decide_eq_false (by omega)
            have y1 : decide (0 < n) = false := decide_eq_false (by omega)
            have y2 : decide ((n : Int) < 63) = true := decide_eq_true (by omega)
            have y3 : decide ((n : Int) < 64) = true := decide_eq_true (by omega)
            have bd : n < 63 := by omega
            clear h0 hn1 hz0
            generalize hLL : rns s n = L at *
            clear hLL
            go_wp2_with fail
            go_roundw
            case rel =>
              refine ⟨n + 1, (n : Int), by omega, by go_num, rfl, fun m hm hb => ?_, ?_, HBr.out⟩
              · rw [HBg.out]; exact HEq.out
              · rw [HL.out]; exact HO.out
            case measure => simp [intOf]; omega
      · by_cases h63 : n = 63
        · cases h0 : s.testBit n
          · have H0 := hide h0
            cases hp : s.testBit (n - 1)
            · have HL := hide (show rns s (n + 1) = rns s n from rns_no h0)
              have x0 := HC.out n hlt
              rw [h0] at x0
              have x1 := HC.out (n - 1) (by omega)
              rw [hp] at x1
              have s1 : ((n : Int) - 1) = ((n - 1 : Nat) : Int) := by omega
              have y0 : decide ((n : Int) > 0) = true := decide_eq_true (by omega)
              have y1 : decide (0 < n) = true := decide_eq_true (by omega)
              have y2 : decide ((n : Int) < 63) = false := decide_eq_false (by omega)
              have y3 : decide ((n : Int) < 64) = true := decide_eq_true (by omega)
              have bd : 62 < n := by omega
              clear h0 hp h63
              generalize hLL : rns s n = L at *
              clear hLL
              go_wp2_with fail
              go_roundw
              case rel =>
                refine ⟨n + 1, fr, by omega, by go_num, rfl, fun m hm hb => ?_, ?_, HBr.out⟩
                · obtain rfl : m = n := by omega
                  rw [H0.out] at hb; cases hb
                · rw [HL.out]; exact HO.out
              case measure => simp [intOf]; omega
            · have HL := hide (show rns s (n + 1) = rns s n from rns_no h0)
              have x0 := HC.out n hlt
              rw [h0] at x0
              have x1 := HC.out (n - 1) (by omega)
              rw [hp] at x1
              have s1 : ((n : Int) - 1) = ((n - 1 : Nat) : Int) := by omega
              have y0 : decide ((n : Int) > 0) = true := decide_eq_true (by omega)
              have y1 : decide (0 < n) = true := decide_eq_true (by omega)
              have y2 : decide ((n : Int) < 63) = false := decide_eq_false (by omega)
              have y3 : decide ((n : Int) < 64) = true := decide_eq_true (by omega)
              have bd : 62 < n := by omega
              clear h0 hp h63
              generalize hLL : rns s n = L at *
              clear hLL
              go_wp2_with fail
              go_roundw
              case rel =>
                refine ⟨n + 1, fr, by omega, by go_num, rfl, fun m hm hb => ?_, ?_, HBr.out⟩
                · obtain rfl : m = n := by omega
                  rw [H0.out] at hb; cases hb
                · rw [HL.out]; exact HO.out
              case measure => simp [intOf]; omega
          · have H0 := hide h0
            cases hp : s.testBit (n - 1)
            · have HL := hide (show rns s (n + 1) = rns s n ++ [(beg s n, n + 1)] from rns_end h0 (by subst h63; exact H64.out))
              have HBg := hide (show beg s (n + 1) = beg s n from beg_on h0)
              have HEq := hide (show (n : Int) = (beg s n : Int) from by obtain ⟨m, rfl⟩ : ∃ m, n = m + 1 := ⟨n - 1, by omega⟩; rw [beg_fresh (by simpa using hp)])
              have x0 := HC.out n hlt
              rw [h0] at x0
              have x1 := HC.out (n - 1) (by omega)
              rw [hp] at x1
              have s1 : ((n : Int) - 1) = ((n - 1 : Nat) : Int) := by omega
              have y0 : decide ((n : Int) > 0) = true := decide_eq_true (by omega)
              have y1 : decide (0 < n) = true := decide_eq_true (by omega)
              have y2 : decide ((n : Int) < 63) = false := decide_eq_false (by omega)
              have y3 : decide ((n : Int) < 64) = true := decide_eq_true (by omega)
              have bd : 62 < n := by omega
              clear h0 hp h63
              generalize hLL : rns s n = L at *
              clear hLL
              go_wp2_with (first
          | (at_builtin
             refine wpList_one _ rfl _ _ 27 rfl 49 (.agg #[.int .i64 0, .int .i64 0]) 2 16 under_spans info_span rfl (by decide) (by decide) w2.heap.size _ _ _ rfl (own_below HO.out (bal wr _) (Nat.le_refl _)) _ _ [.int .i64 ((n : Int)), .int .i64 ((n : Int) + 1)] rfl (heap_alloc_new wr _) rfl (by simp [Value.oneCell']) (by omega) (by simp; omega) ?_
             intro v' w4 hown4 hgr4 hwh
             have HO4 := hide hown4
             have HB4 := hide (below_own (HBr.out.alloc hzr _) (own_below HO.out (bal wr (.cells #[.int .i64 ((n : Int)), .int .i64 ((n : Int) + 1)] 49)) (Nat.le_refl _)) hgr4 (Nat.le_refl _) (by simp; omega))
             clear hown4 hgr4 hwh))
              go_roundw
              case rel =>
                refine ⟨n + 1, (n : Int), by omega, by go_num, rfl, fun m hm hb => ?_, ?_, HB4.out⟩
                · rw [HBg.out]; exact HEq.out
                · rw [HL.out]
                  show World.ownsRow _ _ _ _ _ _ _
                  rw [spC_snoc, List.length_append, ← HEq.out]
                  exact HO4.out
              case measure => simp [intOf]; omega
            · have HL := hide (show rns s (n + 1) = rns s n ++ [(beg s n, n + 1)] from rns_end h0 (by subst h63; exact H64.out))
              have HBg := hide (show beg s (n + 1) = beg s n from beg_on h0)
              have HEq := hide (show fr = (beg s n : Int) from HF.out (n - 1) (by omega) hp)
              have x0 := HC.out n hlt
              rw [h0] at x0
              have x1 := HC.out (n - 1) (by omega)
              rw [hp] at x1
              have s1 : ((n : Int) - 1) = ((n - 1 : Nat) : Int) := by omega
              have y0 : decide ((n : Int) > 0) = true := decide_eq_true (by omega)
              have y1 : decide (0 < n) = true := decide_eq_true (by omega)
              have y2 : decide ((n : Int) < 63) = false := decide_eq_false (by omega)
              have y3 : decide ((n : Int) < 64) = true := decide_eq_true (by omega)
              have bd : 62 < n := by omega
              clear h0 hp h63
              generalize hLL : rns s n = L at *
              clear hLL
              go_wp2_with (first
          | (at_builtin
             refine wpList_one _ rfl _ _ 27 rfl 49 (.agg #[.int .i64 0, .int .i64 0]) 2 16 under_spans info_span rfl (by decide) (by decide) w2.heap.size _ _ _ rfl (own_below HO.out (bal wr _) (Nat.le_refl _)) _ _ [.int .i64 (fr), .int .i64 ((n : Int) + 1)] rfl (heap_alloc_new wr _) rfl (by simp [Value.oneCell']) (by omega) (by simp; omega) ?_
             intro v' w4 hown4 hgr4 hwh
             have HO4 := hide hown4
             have HB4 := hide (below_own (HBr.out.alloc hzr _) (own_below HO.out (bal wr (.cells #[.int .i64 (fr), .int .i64 ((n : Int) + 1)] 49)) (Nat.le_refl _)) hgr4 (Nat.le_refl _) (by simp; omega))
             clear hown4 hgr4 hwh))
              go_roundw
              case rel =>
                refine ⟨n + 1, fr, by omega, by go_num, rfl, fun m hm hb => ?_, ?_, HB4.out⟩
                · rw [HBg.out]; exact HEq.out
                · rw [HL.out]
                  show World.ownsRow _ _ _ _ _ _ _
                  rw [spC_snoc, List.length_append, ← HEq.out]
                  exact HO4.out
              case measure => simp [intOf]; omega
        · cases h0 : s.testBit n
          · have H0 := hide h0
            cases hp : s.testBit (n - 1)
            · cases hn1 : s.testBit (n + 1)
              · have HL := hide (show rns s (n + 1) = rns s n from rns_no h0)
                have x0 := HC.out n hlt
                rw [h0] at x0
                have x1 := HC.out (n - 1) (by omega)
                rw [hp] at x1
                have s1 : ((n : Int) - 1) = ((n - 1 : Nat) : Int) := by omega
                have x2 := HC.out (n + 1) (by omega)
                rw [hn1] at x2
                have y0 : decide ((n : Int) > 0) = true := decide_eq_true (by omega)
                have y1 : decide (0 < n) = true := decide_eq_true (by omega)
                have y2 : decide ((n : Int) < 63) = true := decide_eq_true (by omega)
                have y3 : decide ((n : Int) < 64) = true := decide_eq_true (by omega)
                have bd : 0 < n ∧ n < 63 := by omega
                clear h0 hp hn1
                generalize hLL : rns s n = L at *
                clear hLL
                go_wp2_with fail
                go_roundw
                case rel =>
                  refine ⟨n + 1, fr, by omega, by go_num, rfl, fun m hm hb => ?_, ?_, HBr.out⟩
                  · obtain rfl : m = n := by omega
                    rw [H0.out] at hb; cases hb
                  · rw [HL.out]; exact HO.out
                case measure => simp [intOf]; omega
              · have HL := hide (show rns s (n + 1) = rns s n from rns_no h0)
                have x0 := HC.out n hlt
                rw [h0] at x0
                have x1 := HC.out (n - 1) (by omega)
                rw [hp] at x1
                have s1 : ((n : Int) - 1) = ((n - 1 : Nat) : Int) := by omega
                have x2 := HC.out (n + 1) (by omega)
                rw [hn1] at x2
                have y0 : decide ((n : Int) > 0) = true := decide_eq_true (by omega)
                have y1 : decide (0 < n) = true := decide_eq_true (by omega)
                have y2 : decide ((n : Int) < 63) = true := decide_eq_true (by omega)
                have y3 : decide ((n : Int) < 64) = true := decide_eq_true (by omega)
                have bd : 0 < n ∧ n < 63 := by omega
                clear h0 hp hn1
                generalize hLL : rns s n = L at *
                clear hLL
                go_wp2_with fail
                go_roundw
                case rel =>
                  refine ⟨n + 1, fr, by omega, by go_num, rfl, fun m hm hb => ?_, ?_, HBr.out⟩
                  · obtain rfl : m = n := by omega
                    rw [H0.out] at hb; cases hb
                  · rw [HL.out]; exact HO.out
                case measure => simp [intOf]; omega
            · cases hn1 : s.testBit (n + 1)
              · have HL := hide (show rns s (n + 1) = rns s n from rns_no h0)
                have x0 := HC.out n hlt
                rw [h0] at x0
                have x1 := HC.out (n - 1) (by omega)
                rw [hp] at x1
                have s1 : ((n : Int) - 1) = ((n - 1 : Nat) : Int) := by omega
                have x2 := HC.out (n + 1) (by omega)
                rw [hn1] at x2
                have y0 : decide ((n : Int) > 0) = true := decide_eq_true (by omega)
                have y1 : decide (0 < n) = true := decide_eq_true (by omega)
                have y2 : decide ((n : Int) < 63) = true := decide_eq_true (by omega)
                have y3 : decide ((n : Int) < 64) = true := decide_eq_true (by omega)
                have bd : 0 < n ∧ n < 63 := by omega
                clear h0 hp hn1
                generalize hLL : rns s n = L at *
                clear hLL
                go_wp2_with fail
                go_roundw
                case rel =>
                  refine ⟨n + 1, fr, by omega, by go_num, rfl, fun m hm hb => ?_, ?_, HBr.out⟩
                  · obtain rfl : m = n := by omega
                    rw [H0.out] at hb; cases hb
                  · rw [HL.out]; exact HO.out
                case measure => simp [intOf]; omega
              · have HL := hide (show rns s (n + 1) = rns s n from rns_no h0)
                have x0 := HC.out n hlt
                rw [h0] at x0
                have x1 := HC.out (n - 1) (by omega)
                rw [hp] at x1
                have s1 : ((n : Int) - 1) = ((n - 1 : Nat) : Int) := by omega
                have x2 := HC.out (n + 1) (by omega)
                rw [hn1] at x2
                have y0 : decide ((n : Int) > 0) = true := decide_eq_true (by omega)
                have y1 : decide (0 < n) = true := decide_eq_true (by omega)
                have y2 : decide ((n : Int) < 63) = true := decide_eq_true (by omega)
                have y3 : decide ((n : Int) < 64) = true := decide_eq_true (by omega)
                have bd : 0 < n ∧ n < 63 := by omega
                clear h0 hp hn1
                generalize hLL : rns s n = L at *
                clear hLL
                go_wp2_with fail
                go_roundw
                case rel =>
                  refine ⟨n + 1, fr, by omega, by go_num, rfl, fun m hm hb => ?_, ?_, HBr.out⟩
                  · obtain rfl : m = n := by omega
                    rw [H0.out] at hb; cases hb
                  · rw [HL.out]; exact HO.out
                case measure => simp [intOf]; omega
          · have H0 := hide h0
            cases hp : s.testBit (n - 1)
            · cases hn1 : s.testBit (n + 1)
              · have HL := hide (show rns s (n + 1) = rns s n ++ [(beg s n, n + 1)] from rns_end h0 hn1)
                have HBg := hide (show beg s (n + 1) = beg s n from beg_on h0)
                have HEq := hide (show (n : Int) = (beg s n : Int) from by obtain ⟨m, rfl⟩ : ∃ m, n = m + 1 := ⟨n - 1, by omega⟩; rw [beg_fresh (by simpa using hp)])
                have x0 := HC.out n hlt
                rw [h0] at x0
                have x1 := HC.out (n - 1) (by omega)
                rw [hp] at x1
                have s1 : ((n : Int) - 1) = ((n - 1 : Nat) : Int) := by omega
                have x2 := HC.out (n + 1) (by omega)
                rw [hn1] at x2
                have y0 : decide ((n : Int) > 0) = true := decide_eq_true (by omega)
                have y1 : decide (0 < n) = true := decide_eq_true (by omega)
                have y2 : decide ((n : Int) < 63) = true := decide_eq_true (by omega)
                have y3 : decide ((n : Int) < 64) = true := decide_eq_true (by omega)
                have bd : 0 < n ∧ n < 63 := by omega
                clear h0 hp hn1
                generalize hLL : rns s n = L at *
                clear hLL
                go_wp2_with (first
          | (at_builtin
             refine wpList_one _ rfl _ _ 27 rfl 49 (.agg #[.int .i64 0, .int .i64 0]) 2 16 under_spans info_span rfl (by decide) (by decide) w2.heap.size _ _ _ rfl (own_below HO.out (bal wr _) (Nat.le_refl _)) _ _ [.int .i64 ((n : Int)), .int .i64 ((n : Int) + 1)] rfl (heap_alloc_new wr _) rfl (by simp [Value.oneCell']) (by omega) (by simp; omega) ?_
             intro v' w4 hown4 hgr4 hwh
             have HO4 := hide hown4
             have HB4 := hide (below_own (HBr.out.alloc hzr _) (own_below HO.out (bal wr (.cells #[.int .i64 ((n : Int)), .int .i64 ((n : Int) + 1)] 49)) (Nat.le_refl _)) hgr4 (Nat.le_refl _) (by simp; omega))
             clear hown4 hgr4 hwh))
                go_roundw
                case rel =>
                  refine ⟨n + 1, (n : Int), by omega, by go_num, rfl, fun m hm hb => ?_, ?_, HB4.out⟩
                  · rw [HBg.out]; exact HEq.out
                  · rw [HL.out]
                    show World.ownsRow _ _ _ _ _ _ _
                    rw [spC_snoc, List.length_append, ← HEq.out]
                    exact HO4.out
                case measure => simp [intOf]; omega
              · have HL := hide (show rns s (n + 1) = rns s n from rns_on hn1)
                have HBg := hide (show beg s (n + 1) = beg s n from beg_on h0)
                have HEq := hide (show (n : Int) = (beg s n : Int) from by obtain ⟨m, rfl⟩ : ∃ m, n = m + 1 := ⟨n - 1, by omega⟩; rw [beg_fresh (by simpa using hp)])
                have x0 := HC.out n hlt
                rw [h0] at x0
                have x1 := HC.out (n - 1) (by omega)
                rw [hp] at x1
                have s1 : ((n : Int) - 1) = ((n - 1 : Nat) : Int) := by omega
                have x2 := HC.out (n + 1) (by omega)
                rw [hn1] at x2
                have y0 : decide ((n : Int) > 0) = true := decide_eq_true (by omega)
                have y1 : decide (0 < n) = true := decide_eq_true (by omega)
                have y2 : decide ((n : Int) < 63) = true := decide_eq_true (by omega)
                have y3 : decide ((n : Int) < 64) = true := decide_eq_true (by omega)
                have bd : 0 < n ∧ n < 63 := by omega
                clear h0 hp hn1
                generalize hLL : rns s n = L at *
                clear hLL
                go_wp2_with fail
                go_roundw
                case rel =>
                  refine ⟨n + 1, (n : Int), by omega, by go_num, rfl, fun m hm hb => ?_, ?_, HBr.out⟩
                  · rw [HBg.out]; exact HEq.out
                  · rw [HL.out]; exact HO.out
                case measure => simp [intOf]; omega
            · cases hn1 : s.testBit (n + 1)
              · have HL := hide (show rns s (n + 1) = rns s n ++ [(beg s n, n + 1)] from rns_end h0 hn1)
                have HBg := hide (show beg s (n + 1) = beg s n from beg_on h0)
                have HEq := hide (show fr = (beg s n : Int) from HF.out (n - 1) (by omega) hp)
                have x0 := HC.out n hlt
                rw [h0] at x0
                have x1 := HC.out (n - 1) (by omega)
                rw [hp] at x1
                have s1 : ((n : Int) - 1) = ((n - 1 : Nat) : Int) := by omega
                have x2 := HC.out (n + 1) (by omega)
                rw [hn1] at x2
                have y0 : decide ((n : Int) > 0) = true := decide_eq_true (by omega)
                have y1 : decide (0 < n) = true := decide_eq_true (by omega)
                have y2 : decide ((n : Int) < 63) = true := decide_eq_true (by omega)
                have y3 : decide ((n : Int) < 64) = true := decide_eq_true (by omega)
                have bd : 0 < n ∧ n < 63 := by omega
                clear h0 hp hn1
                generalize hLL : rns s n = L at *
                clear hLL
                go_wp2_with (first
          | (at_builtin
             refine wpList_one _ rfl _ _ 27 rfl 49 (.agg #[.int .i64 0, .int .i64 0]) 2 16 under_spans info_span rfl (by decide) (by decide) w2.heap.size _ _ _ rfl (own_below HO.out (bal wr _) (Nat.le_refl _)) _ _ [.int .i64 (fr), .int .i64 ((n : Int) + 1)] rfl (heap_alloc_new wr _) rfl (by simp [Value.oneCell']) (by omega) (by simp; omega) ?_
             intro v' w4 hown4 hgr4 hwh
             have HO4 := hide hown4
             have HB4 := hide (below_own (HBr.out.alloc hzr _) (own_below HO.out (bal wr (.cells #[.int .i64 (fr), .int .i64 ((n : Int) + 1)] 49)) (Nat.le_refl _)) hgr4 (Nat.le_refl _) (by simp; omega))
             clear hown4 hgr4 hwh))
                go_roundw
                case rel =>
                  refine ⟨n + 1, fr, by omega, by go_num, rfl, fun m hm hb => ?_, ?_, HB4.out⟩
                  · rw [HBg.out]; exact HEq.out
                  · rw [HL.out]
                    show World.ownsRow _ _ _ _ _ _ _
                    rw [spC_snoc, List.length_append, ← HEq.out]
                    exact HO4.out
                case measure => simp [intOf]; omega
              · have HL := hide (show rns s (n + 1) = rns s n from rns_on hn1)
                have HBg := hide (show beg s (n + 1) = beg s n from beg_on h0)
                have HEq := hide (show fr = (beg s n : Int) from HF.out (n - 1) (by omega) hp)
                have x0 := HC.out n hlt
                rw [h0] at x0
                have x1 := HC.out (n - 1) (by omega)
                rw [hp] at x1
                have s1 : ((n : Int) - 1) = ((n - 1 : Nat) : Int) := by omega
                have x2 := HC.out (n + 1) (by omega)
                rw [hn1] at x2
                have y0 : decide ((n : Int) > 0) = true := decide_eq_true (by omega)
                have y1 : decide (0 < n) = true := decide_eq_true (by omega)
                have y2 : decide ((n : Int) < 63) = true := decide_eq_true (by omega)
                have y3 : decide ((n : Int) < 64) = true := decide_eq_true (by omega)
                have bd : 0 < n ∧ n < 63 := by omega
                clear h0 hp hn1
                generalize hLL : rns s n = L at *
                clear hLL
                go_wp2_with fail
                go_roundw
                case rel =>
                  refine ⟨n + 1, fr, by omega, by go_num, rfl, fun m hm hb => ?_, ?_, HBr.out⟩
                  · rw [HBg.out]; exact HEq.out
                  · rw [HL.out]; exact HO.out
                case measure => simp [intOf]; omega
    · obtain rfl : n = 64 := by omega
      have hO2 : OwnP wr w2.heap.size (.slice A (rns s 64).length c) (runsF s) := HO.out
      have HO2 := hide hO2
      clear hO2 HO HF HRow hln
      generalize rns s 64 = L at *
      go_wp2_with fail
      go_ret
      refine ⟨_, rfl, ?_, HB2.out.trans (HBr.out.mono HB2.out.size)⟩
      have := HO2.out
      refine ⟨this.1, ?_⟩
      rcases this.2 with h | ⟨g, cap, cur, a, b, d⟩
      · exact .inl h
      · exact .inr ⟨g, cap, cur, a, by omega, d⟩
end Go.Proofs.YtklkndnikcjbhaaDoor
