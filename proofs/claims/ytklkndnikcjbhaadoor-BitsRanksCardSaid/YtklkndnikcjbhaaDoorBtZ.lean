/-
  The document's Next.
-/
import Derived.Test.YtklkndnikcjbhaaDoorBtY
import Derived.Test.YtklkndnikcjbhaaDoorBtO
namespace Go.Proofs.YtklkndnikcjbhaaDoor
open Go.RowKit Go.Shelf
set_option linter.unusedVariables false
set_option linter.unusedSimpArgs false

theorem below_bits {x n : Nat} (hx : x < 2 ^ 64) (h : ∀ i, n ≤ i → i < 64 → x.testBit i = false) : x < 2 ^ n := by
  apply Nat.lt_pow_two_of_testBit
  intro i hi
  by_cases h64 : i < 64
  · exact h i hi h64
  · exact high_zero hx (by omega)
theorem not_below {x n i : Nat} (hi : n ≤ i) (hb : x.testBit i = true) : ¬ x < 2 ^ n := fun h => by
  rw [high_zero h hi] at hb; cases hb

/-- the truths, in a block of their own -/
structure RwI (w W : World) (B : Nat) (f : Nat → Bool) : Prop where
  bel : Below w.heap.size w W
  lo : w.heap.size ≤ B
  row : W.heap[B]? = some (.cells (bc f) 60 (0, 0))
theorem RwI.set {w W : World} {B : Nat} {f : Nat → Bool} (h : RwI w W B f) (k : Nat) (v : Bool) : RwI w (W.setCell ⟨B, k, none⟩ (.bool v)) B (fun i => if i = k then v else f i) :=
  ⟨h.bel.setCell (p := ⟨B, k, none⟩) h.lo _, h.lo, by rw [set_cells h.row, bc_set]⟩
theorem RwI.cell {w W : World} {B : Nat} {f : Nat → Bool} (h : RwI w W B f) {k : Nat} (hk : k < 64) : W.cell? ⟨B, k, none⟩ = some (.bool (f k)) := by
  rw [cell_of_row _ _ _ _ _ _ h.row, bc_get _ _ hk]
theorem RwI.free {w W : World} {B : Nat} {f : Nat → Bool} (h : RwI w W B f) (k : Nat) : W.frozen? ⟨B, k, none⟩ = false := by simp [World.frozen?, h.row]

def fstF (a n : Nat) : Int := if n ≤ a then -1 else a
def lstF (b n : Nat) : Int := if n < b then -1 else (b : Int) - 1
theorem fstF_no {a n : Nat} (h : n ≤ a) : fstF a n = -1 := if_pos h
theorem fstF_yes {a n : Nat} (h : a < n) : fstF a n = a := if_neg (by omega)
theorem lstF_no {b n : Nat} (h : n < b) : lstF b n = -1 := if_pos h
theorem lstF_yes {b : Nat} : lstF b b = (b : Int) - 1 := if_neg (by omega)

set_option maxRecDepth 100000 in
set_option maxHeartbeats 16000000 in
theorem rnext_at (s : Nat) (hs : s < 18446744073709551616) (n : Int) (w : World) :
    Calls Tryd.prog 29 #[.int .u64 s, .int .i64 n] w fun e w' => e = .returned (nextV s n) ∧ Below w.heap.size w w' := by
  by_cases h1 : n < 0
  · have H := hide (show nextV s n = .tuple #[.int .u64 0, .bool false] from if_pos (.inl h1))
    go_enter Tryd.func29, Tryd.ntmps29
    go_wp2
    go_ret2
    exact ⟨by rw [H.out]; rfl, Below.refl _ _⟩
  · by_cases h2 : 64 < n
    · have H := hide (show nextV s n = .tuple #[.int .u64 0, .bool false] from if_pos (.inr h2))
      go_enter Tryd.func29, Tryd.ntmps29
      go_wp2
      go_ret2
      exact ⟨by rw [H.out]; rfl, Below.refl _ _⟩
    · obtain ⟨n, rfl⟩ := Int.eq_ofNat_of_zero_le (show 0 ≤ n by omega)
      have hn : n ≤ 64 := by omega
      have HV := hide (nextV_of (s := s) hn)
      have hz := (zero_of_info info_bc).1
      clear h1 h2
      go_enter Tryd.func29, Tryd.ntmps29
      go_wp2_with fail
      refine (bools_at s hs _).mono ?_
      rintro e w1 ⟨rfl, hb1⟩
      have HB1 := hide hb1
      clear hb1
      go_wp2_with (refine wpList_store_row rfl 60 (.tmp 6) (.tmp 20) rfl w1.heap.size (bc fun i => s.testBit i) rfl rfl 60 _ (heap_alloc_new w1 _) (bc_info _) (by rw [bc_size, bc_size]) (bc_one _) ?_; rw [World.setRow_alloc_new])
      have HR := hide (show RwI w (w1.alloc (.cells (bc fun i => s.testBit i) 60)) w1.heap.size (fun i => s.testBit i) from ⟨HB1.out.trans ((bal w1 _).mono HB1.out.size), HB1.out.size, heap_alloc_new w1 _⟩)
      generalize w1.alloc (.cells (bc fun i => s.testBit i) 60) = w2 at HR ⊢
      generalize w1.heap.size = B at *
      clear hz HB1
      by_cases h0 : s = 0
      · have HN := hide (show nextF s n = none from by rw [h0]; simp [nextF])
        have HBit := hide (show ∀ i, s.testBit i = false from fun i => by rw [h0]; simp)
        clear h0
        go_loop [7, 8, 9] (fun fv lv iv => ∃ k : Nat, k ≤ 64 ∧ fv = .int .i64 (-1) ∧ lv = .int .i64 (-1) ∧ iv = .int .i64 k) (fun _ _ iv => 64 - (intOf iv).toNat)
        case atStart => exact ⟨0, by omega, rfl, rfl, rfl⟩
        case round =>
          obtain ⟨k, hk, rfl, rfl, rfl⟩ := hrel
          by_cases hlt : k < 64
          · have x0 := HR.out.cell hlt
            rw [HBit.out k] at x0
            go_wp2_with fail
            go_round
            case rel => exact ⟨k + 1, by omega, rfl, rfl, by go_num⟩
            case measure => simp [intOf]; omega
          · obtain rfl : k = 64 := by omega
            go_wp2_with fail
            go_ret2
            exact ⟨by rw [HV.out, HN.out]; rfl, HR.out.bel⟩
      · obtain ⟨a, b, A, ha, hab, hb, hsh, hA, hN⟩ := nextF_shape (n := n) h0 hs
        have HBit := hide (fun i => show s.testBit i = if i < b then decide (a ≤ i) else if i = b then false else A.testBit (i - b - 1) from by rw [hsh]; exact shp_bit hab i)
        have HN := hide hN
        clear hsh hA h0 ha hN
        go_loop [7, 8, 9] (fun fv lv iv => ∃ k : Nat, k ≤ b ∧ fv = .int .i64 (fstF a k) ∧ lv = .int .i64 (lstF b k) ∧ iv = .int .i64 k) (fun _ _ iv => 64 - (intOf iv).toNat)
        case atStart => exact ⟨0, by omega, by rw [fstF_no (by omega)], by rw [lstF_no (by omega)], rfl⟩
        case round =>
          obtain ⟨k, hk, rfl, rfl, rfl⟩ := hrel
          by_cases hlt : k < b
          · rw [lstF_no hlt]
            have x0 := HR.out.cell (show k < 64 by omega)
            rw [HBit.out k, if_pos hlt] at x0
            have d0 : decide ((k : Int) < 64) = true := decide_eq_true (by omega)
            by_cases hka : k < a
            · rw [fstF_no (by omega)]
              rw [show decide (a ≤ k) = false from decide_eq_false (by omega)] at x0
              go_wp2_with fail
              go_round
              case rel => exact ⟨k + 1, by omega, by rw [fstF_no (by omega)], by rw [lstF_no (by omega)], by go_num⟩
              case measure => simp [intOf]; omega
            · rw [show decide (a ≤ k) = true from decide_eq_true (by omega)] at x0
              have HF2 := hide (show fstF a (k + 1) = (a : Int) from fstF_yes (by omega))
              by_cases hea : k = a
              · by_cases hend : k + 1 = b
                · by_cases hl63 : k = 63
                  · rw [fstF_no (show k ≤ a by omega)]
                    have HEq := hide (show (k : Int) = (a : Int) from by omega)
                    have HL2 := hide (show lstF b (k + 1) = (k : Int) from by rw [← hend, lstF_yes]; omega)
                    have d1 : ((k : Int) == 63) = true := by simpa using (show (k : Int) = 63 by omega)
                    have hk1 : k + 1 ≤ b := by omega
                    have hk64 : k < 64 := by omega
                    clear hka hlt hk hend hl63 hea
                    go_wp2_with fail
                    go_round
                    case rel => exact ⟨k + 1, hk1, by rw [HF2.out, HEq.out], by rw [HL2.out], by go_num⟩
                    case measure => simp [intOf]; omega
                  · rw [fstF_no (show k ≤ a by omega)]
                    have HEq := hide (show (k : Int) = (a : Int) from by omega)
                    have HL2 := hide (show lstF b (k + 1) = (k : Int) from by rw [← hend, lstF_yes]; omega)
                    have hk63 : k < 63 := by omega
                    have d1 : ((k : Int) == 63) = false := by simpa using (show ¬ (k : Int) = 63 by omega)
                    have x1 := HR.out.cell (show k + 1 < 64 by omega)
                    rw [HBit.out (k + 1), if_neg (by omega), if_pos (by omega)] at x1
                    have hk1 : k + 1 ≤ b := by omega
                    have hk64 : k < 64 := by omega
                    clear hka hlt hk hend hl63 hea
                    go_wp2_with fail
                    go_round
                    case rel => exact ⟨k + 1, hk1, by rw [HF2.out, HEq.out], by rw [HL2.out], by go_num⟩
                    case measure => simp [intOf]; omega
                · rw [fstF_no (show k ≤ a by omega)]
                  have HEq := hide (show (k : Int) = (a : Int) from by omega)
                  have HL2 := hide (show lstF b (k + 1) = -1 from lstF_no (by omega))
                  have hk63 : k < 63 := by omega
                  have d1 : ((k : Int) == 63) = false := by simpa using (show ¬ (k : Int) = 63 by omega)
                  have x1 := HR.out.cell (show k + 1 < 64 by omega)
                  rw [HBit.out (k + 1), if_pos (by omega), show decide (a ≤ k + 1) = true from decide_eq_true (by omega)] at x1
                  have hk1 : k + 1 ≤ b := by omega
                  have hk64 : k < 64 := by omega
                  clear hka hlt hk hea
                  go_wp2_with fail
                  go_round
                  case rel => exact ⟨k + 1, hk1, by rw [HF2.out, HEq.out], by rw [HL2.out], by go_num⟩
                  case measure => simp [intOf]; omega
              · by_cases hend : k + 1 = b
                · by_cases hl63 : k = 63
                  · rw [fstF_yes (show a < k by omega)]
                    have hge : (0 : Int) ≤ (a : Int) := by omega
                    have HL2 := hide (show lstF b (k + 1) = (k : Int) from by rw [← hend, lstF_yes]; omega)
                    have d1 : ((k : Int) == 63) = true := by simpa using (show (k : Int) = 63 by omega)
                    have hk1 : k + 1 ≤ b := by omega
                    have hk64 : k < 64 := by omega
                    clear hka hlt hk hend hl63 hea
                    go_wp2_with fail
                    go_round
                    case rel => exact ⟨k + 1, hk1, by rw [HF2.out], by rw [HL2.out], by go_num⟩
                    case measure => simp [intOf]; omega
                  · rw [fstF_yes (show a < k by omega)]
                    have hge : (0 : Int) ≤ (a : Int) := by omega
                    have HL2 := hide (show lstF b (k + 1) = (k : Int) from by rw [← hend, lstF_yes]; omega)
                    have hk63 : k < 63 := by omega
                    have d1 : ((k : Int) == 63) = false := by simpa using (show ¬ (k : Int) = 63 by omega)
                    have x1 := HR.out.cell (show k + 1 < 64 by omega)
                    rw [HBit.out (k + 1), if_neg (by omega), if_pos (by omega)] at x1
                    have hk1 : k + 1 ≤ b := by omega
                    have hk64 : k < 64 := by omega
                    clear hka hlt hk hend hl63 hea
                    go_wp2_with fail
                    go_round
                    case rel => exact ⟨k + 1, hk1, by rw [HF2.out], by rw [HL2.out], by go_num⟩
                    case measure => simp [intOf]; omega
                · rw [fstF_yes (show a < k by omega)]
                  have hge : (0 : Int) ≤ (a : Int) := by omega
                  have HL2 := hide (show lstF b (k + 1) = -1 from lstF_no (by omega))
                  have hk63 : k < 63 := by omega
                  have d1 : ((k : Int) == 63) = false := by simpa using (show ¬ (k : Int) = 63 by omega)
                  have x1 := HR.out.cell (show k + 1 < 64 by omega)
                  rw [HBit.out (k + 1), if_pos (by omega), show decide (a ≤ k + 1) = true from decide_eq_true (by omega)] at x1
                  have hk1 : k + 1 ≤ b := by omega
                  have hk64 : k < 64 := by omega
                  clear hka hlt hk hea
                  go_wp2_with fail
                  go_round
                  case rel => exact ⟨k + 1, hk1, by rw [HF2.out], by rw [HL2.out], by go_num⟩
                  case measure => simp [intOf]; omega
          · obtain rfl : k = b := by omega
            rw [fstF_yes hab, lstF_yes]
            by_cases h64 : k = 64
            · have HNone := hide (show nextF s n = none from by
                rcases HN.out with ⟨_, h, _⟩ | ⟨h, _⟩
                · exact h
                · omega)
              have hl63 : (((k : Nat) : Int) - 1 == 63) = true := by simpa using (show (k : Int) - 1 = 63 by omega)
              have hk0 : 63 < k := by omega
              have d1 : decide ((k : Int) < 64) = false := decide_eq_false (by omega)
              have d2 : decide ((a : Int) < 0) = false := decide_eq_false (by omega)
              clear h64 hlt hk
              go_wp2_with fail
              go_ret2
              exact ⟨by rw [HV.out, HNone.out]; rfl, HR.out.bel⟩
            · obtain ⟨l, rfl⟩ : ∃ l, k = l + 1 := ⟨k - 1, by omega⟩
              have hl63 : l < 63 := by omega
              have e0 : (((l + 1 : Nat) : Int) - 1) = (l : Int) := by omega
              rw [e0]
              have hl0 : ((l : Int) == 63) = false := by simpa using (show ¬ (l : Int) = 63 by omega)
              have hal : a ≤ l := by omega
              have HX := hide (show nxt a (l + 1) A < 2 ^ 64 ∧ nextF s n = if nxt a (l + 1) A < 2 ^ n then some (nxt a (l + 1) A) else none from by
                rcases HN.out with ⟨h, _⟩ | ⟨_, _, _, h, h'⟩
                · omega
                · exact ⟨h, h'⟩)
              have HXb := hide (fun i => show (nxt a (l + 1) A).testBit i = if i < l + 1 then decide (i < l - a) else if i = l + 1 then true else s.testBit i from by
                rw [nxt_bit hab, show l + 1 - a - 1 = l - a by omega]
                by_cases h1 : i < l + 1
                · rw [if_pos h1, if_pos h1]
                · rw [if_neg h1, if_neg h1]
                  by_cases h2 : i = l + 1
                  · rw [if_pos h2, if_pos h2]
                  · rw [if_neg h2, if_neg h2, HBit.out i, if_neg h1, if_neg h2])
              have HBl := hide (fun i (h : i < a) => show s.testBit i = false from by
                rw [HBit.out i, if_pos (by omega)]; exact decide_eq_false (by omega))
              generalize nxt a (l + 1) A = X at *
              obtain ⟨d, hd⟩ : ∃ d, d = l - a := ⟨_, rfl⟩
              have HD := hide hd
              have e1 : (l : Int) - (a : Int) = (d : Int) := by omega
              have hdl : d ≤ l := by omega
              rw [← hd] at HXb
              have d1 : decide (((l + 1 : Nat) : Int) < 64) = true := decide_eq_true (by omega)
              have d2 : decide ((l : Int) < 0) = false := decide_eq_false (by omega)
              have d3 : decide ((a : Int) < 0) = false := decide_eq_false (by omega)
              clear hd h64 hlt hk HN e0 hab HBit hb
              go_wp2_with fail
              go_loopw [10] (fun iv wr => ∃ (x : Nat) (f : Nat → Bool), a ≤ x ∧ x ≤ l + 1 ∧ iv = .int .i64 x ∧ (∀ j, j < 64 → f j = if a ≤ j ∧ j < x then false else s.testBit j) ∧ RwI w wr B f) (fun iv _ => 64 - (intOf iv).toNat)
              case atStart => exact ⟨a, _, Nat.le_refl _, by omega, rfl, fun j hj => by rw [if_neg (by omega)], HR.out⟩
              case round =>
                obtain ⟨x, f, hx1, hx2, rfl, hf, hI⟩ := hrel
                by_cases hxl : x ≤ l
                · have x0 := hI.cell (show x < 64 by omega)
                  have x1 := hI.free x
                  have HI := hide (hI.set x false)
                  have HF := hide hf
                  generalize f x = b0 at x0
                  clear hI hf HR
                  go_wp2_with fail
                  go_roundw
                  case rel =>
                    refine ⟨x + 1, _, by omega, by omega, by go_num, fun j hj => ?_, HI.out⟩
                    by_cases e : j = x
                    · rw [if_pos e, if_pos (by omega)]
                    · rw [if_neg e, HF.out j hj]
                      by_cases h : a ≤ j ∧ j < x
                      · rw [if_pos h, if_pos (by omega)]
                      · rw [if_neg h, if_neg (by omega)]
                  case measure => simp [intOf]; omega
                · obtain rfl : x = l + 1 := by omega
                  have x0 := hI.cell (show l + 1 < 64 by omega)
                  have x1 := hI.free (l + 1)
                  have HI := hide (hI.set (l + 1) true)
                  have HF := hide hf
                  generalize f (l + 1) = b0 at x0
                  clear hI hf HR hx1 hx2 hxl
                  go_wp2_with fail
                  generalize wr.setCell ⟨B, l + 1, none⟩ (.bool true) = w5 at HI ⊢
                  go_loopw [11] (fun iv wr => ∃ (y : Nat) (g : Nat → Bool), y ≤ d ∧ iv = .int .i64 y ∧ (∀ j, j < 64 → g j = if j < y then true else if j = l + 1 then true else f j) ∧ RwI w wr B g) (fun iv _ => 64 - (intOf iv).toNat)
                  case atStart => exact ⟨0, _, by omega, rfl, fun j hj => by simp, HI.out⟩
                  case round =>
                    obtain ⟨y, g, hy, rfl, hg, hJ⟩ := hrel
                    by_cases hyd : y < d
                    · have y0 := hJ.cell (show y < 64 by omega)
                      have y1 := hJ.free y
                      have HJ := hide (hJ.set y true)
                      have HG := hide hg
                      generalize g y = b1 at y0
                      clear hJ hg HI x0 x1
                      go_wp2_with fail
                      go_roundw
                      case rel =>
                        refine ⟨y + 1, _, by omega, by go_num, fun j hj => ?_, HJ.out⟩
                        by_cases e : j = y
                        · rw [if_pos e, if_pos (by omega)]
                        · rw [if_neg e, HG.out j hj]
                          by_cases h : j < y
                          · rw [if_pos h, if_pos (show j < y + 1 by omega)]
                          · rw [if_neg h, if_neg (show ¬ j < y + 1 by omega)]
                      case measure => simp [intOf]; omega
                    · obtain rfl : y = d := by omega
                      have HG := hide (show ∀ j, j < 64 → g j = X.testBit j from fun j hj => by
                        have hdd := HD.out
                        rw [hg j hj, HXb.out j, HF.out j hj]
                        by_cases h1 : j < l + 1
                        · rw [if_pos h1]
                          by_cases h2 : j < y
                          · rw [if_pos h2]; exact (decide_eq_true h2).symm
                          · rw [if_neg h2, if_neg (by omega)]
                            by_cases h3 : a ≤ j
                            · rw [if_pos ⟨h3, h1⟩]; exact (decide_eq_false h2).symm
                            · rw [if_neg (by omega), HBl.out j (by omega)]; exact (decide_eq_false h2).symm
                        · rw [if_neg h1, if_neg (by omega)]
                          by_cases h2 : j = l + 1
                          · rw [if_pos h2, if_pos h2]
                          · rw [if_neg h2, if_neg h2, if_neg (by omega)])
                      have HJ := hide hJ
                      have HNum := hide (fun W => number_at g W)
                      have HNu := hide (numb_of HX.out.1 HG.out)
                      clear hJ hg HI x0 x1 hy hyd
                      go_wp2_with fail
                      go_loop [12] (fun iv => ∃ z : Nat, n ≤ z ∧ z ≤ 64 ∧ iv = .int .i64 z ∧ ∀ j, n ≤ j → j < z → X.testBit j = false) (fun iv => 64 - (intOf iv).toNat)
                      case atStart => exact ⟨n, Nat.le_refl _, hn, rfl, fun j h1 h2 => by omega⟩
                      case round =>
                        obtain ⟨z, hz1, hz2, rfl, hall⟩ := hrel
                        have HAll := hide hall
                        clear hall
                        by_cases hz64 : z < 64
                        · have z0 := HJ.out.cell hz64
                          rw [HG.out z hz64] at z0
                          cases hzb : X.testBit z with
                          | true =>
                            rw [hzb] at z0
                            have HNone := hide (show nextF s n = none from by rw [HX.out.2, if_neg (not_below hz1 hzb)])
                            clear hzb
                            go_wp2_with fail
                            go_ret2
                            exact ⟨by rw [HV.out, HNone.out]; rfl, HJ.out.bel⟩
                          | false =>
                            rw [hzb] at z0
                            have HZb := hide hzb
                            clear hzb
                            go_wp2_with fail
                            go_round
                            case rel =>
                              refine ⟨z + 1, by omega, by omega, by go_num, fun j h1 h2 => ?_⟩
                              by_cases e : j = z
                              · rw [e]; exact HZb.out
                              · exact HAll.out j h1 (by omega)
                            case measure => simp [intOf]; omega
                        · obtain rfl : z = 64 := by omega
                          have HSome := hide (show nextF s n = some X from by
                            rw [HX.out.2, if_pos (below_bits HX.out.1 fun i h1 h2 => HAll.out i h1 h2)])
                          have H1 := hide HJ.out.row
                          go_wp2_with (first
                            | (refine wpList_load_row rfl 60 (.tmp 6) rfl B rfl 60 (bc g) (0, 0) _ H1.out Tryd.underlying60 rfl (bc_info _) ?_))
                          refine (HNum.out _).mono ?_
                          rintro e w6 ⟨rfl, hb6⟩
                          rw [HNu.out]
                          have HB6 := hide (HJ.out.bel.trans (hb6.mono HJ.out.bel.size))
                          clear hb6
                          go_wp2_with fail
                          go_ret2
                          exact ⟨by rw [HV.out, HSome.out]; rfl, HB6.out⟩
end Go.Proofs.YtklkndnikcjbhaaDoor
