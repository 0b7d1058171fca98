/-
  The walk of SumLinear: three texts of one length, laid over one another, have all three sums laid over one another.
-/
import Derived.Test.YthhlokhhhponbaaSum
import Derived.Deep.QuietTactic
import Derived.BigQuiet
import Derived.RegionTactic
import Derived.BigRegion
namespace Go.Proofs.Ythhlokhhhponbaa
open Go.RowKit
set_option linter.unusedVariables false

set_option maxHeartbeats 400000 in
theorem linear_any (la lb lc : List Nat) (na nb nc : Nat) (A B C : Option Addr) (ca cb cc : Nat) (w : World) (hna : la.length = na) (hnb : lb.length = nb) (hnc : lc.length = nc)
    (hA : Bytes w A la) (hB : Bytes w B lb) (hC : Bytes w C lc) (hca : na ≤ ca) (hcb : nb ≤ cb) (hcc : nc ≤ cc) (hma : ca ≤ maxLen) (hmb : cb ≤ maxLen) (hmc : cc ≤ maxLen) :
    Calls Try.prog 7 #[.slice A na ca, .slice B nb cb, .slice C nc cc] w fun e w' => e = .returned (.bool true) ∧ Below w.heap.size w w' := by
  have Ha := hide hna; have Hb := hide hnb; have Hc := hide hnc; clear hna hnb hnc
  unfold maxLen at hma hmb hmc
  obtain ⟨n, hn, n1, n2, n3⟩ : ∃ n : Nat, (if (nc : Int) < (if (nb : Int) < (na : Int) then (nb : Int) else (na : Int)) then (nc : Int) else (if (nb : Int) < (na : Int) then (nb : Int) else (na : Int))) = (n : Int) ∧ n ≤ na ∧ n ≤ nb ∧ n ≤ nc := by
    refine ⟨min nc (min nb na), ?_, by omega, by omega, by omega⟩
    split <;> split <;> omega
  have hmn : ∀ (t : TypeId) (ts : Array TypeId) (W : World), (Builtin.min_ ts t #[.int .i64 (na : Int), .int .i64 (nb : Int), .int .i64 (nc : Int)]).run Try.prog W = .ok (.int .i64 (n : Int)) W := fun t ts W => by rw [run_min_int3, hn]
  clear hn
  by_cases hlen : 100000 < n
  · go_enter Try.func7, Try.ntmps7
    go_wp2_with (go_at_call 22; refine (alive_any _).mono ?_; rintro e w1 ⟨rfl, hb⟩)
    go_ret
    exact ⟨rfl, hb⟩
  · have hmk := make_bytes n (by omega)
    go_enter Try.func7, Try.ntmps7
    go_wp2_with (go_at_call 22; refine (alive_any _).mono ?_; rintro e w1 ⟨rfl, hb⟩)
    clear hmk hmn
    go_loopw [10] (fun i wr => ∃ k : Nat, k ≤ n ∧ i = .int .i64 k ∧ Row wr w1.heap.size n (fun t => if t < k then la.getD t 0 ^^^ lb.getD t 0 ^^^ lc.getD t 0 else 0) ∧ Below w1.heap.size w1 wr) (fun i _ => n - (intOf i).toNat)
    case atStart => exact ⟨0, by omega, rfl, by simpa using Row.made w1 n _, (Below.refl _ _).alloc (Nat.le_refl _) _⟩
    case round =>
      obtain ⟨k, hk, rfl, hrow, hbr⟩ := hrel
      by_cases hlt : k < n
      · have hAr := (hA.of_below hb (Nat.le_refl _)).of_below hbr (Nat.le_refl _)
        have hBr := (hB.of_below hb (Nat.le_refl _)).of_below hbr (Nat.le_refl _)
        have hCr := (hC.of_below hb (Nat.le_refl _)).of_below hbr (Nat.le_refl _)
        obtain ⟨ba, oa, rfl, hba, hcella⟩ := hAr.at (k := k) (by have := Ha.out; omega)
        obtain ⟨bb, ob, rfl, hbb, hcellb⟩ := hBr.at (k := k) (by have := Hb.out; omega)
        obtain ⟨bc, oc, rfl, hbc, hcellc⟩ := hCr.at (k := k) (by have := Hc.out; omega)
        have va := hcella k (by have := Ha.out; omega)
        have vb := hcellb k (by have := Hb.out; omega)
        have vc := hcellc k (by have := Hc.out; omega)
        have ua := hAr.byte k
        have ub := hBr.byte k
        have uc := hCr.byte k
        clear hcella hcellb hcellc
        have hstep := hrow.store k (la.getD k 0 ^^^ lb.getD k 0 ^^^ lc.getD k 0) (g := fun t => if t < k + 1 then la.getD t 0 ^^^ lb.getD t 0 ^^^ lc.getD t 0 else 0) (fun t ht => by
          by_cases e : t = k
          · subst e; rw [if_pos rfl, if_pos (by omega)]
          · rw [if_neg e]; by_cases e2 : t < k
            · rw [if_pos e2, if_pos (by omega)]
            · rw [if_neg e2, if_neg (by omega)])
        obtain ⟨hx0, hx1⟩ := hrow.2 k hlt
        have hbs := hbr.setCell (p := ⟨w1.heap.size, k, none⟩) (Nat.le_refl _) (.int .u8 ((la.getD k 0 ^^^ lb.getD k 0 ^^^ lc.getD k 0 : Nat) : Int))
        have S1 := hide hstep; have S2 := hide hbs; have S3 := hide hrow
        clear hstep hbs hrow
        generalize la.getD k 0 = a at va ua S1 S2
        generalize lb.getD k 0 = b at vb ub S1 S2
        generalize lc.getD k 0 = c at vc uc S1 S2
        have x1 : bits .xor .u8 (a : Int) (b : Int) = ((a ^^^ b : Nat) : Int) := u8_xor_nat a b ua ub
        have hab : a ^^^ b < 256 := Nat.xor_lt_two_pow (n := 8) ua ub
        have x2 : bits .xor .u8 ((a ^^^ b : Nat) : Int) (c : Int) = ((a ^^^ b ^^^ c : Nat) : Int) := u8_xor_nat _ c hab uc
        go_wp2
        go_region
        go_wp2
        go_roundw
        case rel => exact ⟨k + 1, by omega, by go_num, S1.out.drew, S2.out.drew⟩
        case measure => simp [intOf]; omega
      · obtain rfl : k = n := by omega
        have hAr := ((hA.of_below hb (Nat.le_refl _)).of_below hbr (Nat.le_refl _)).take k
        have hBr := ((hB.of_below hb (Nat.le_refl _)).of_below hbr (Nat.le_refl _)).take k
        have hCr := ((hC.of_below hb (Nat.le_refl _)).of_below hbr (Nat.le_refl _)).take k
        have hb1 := hrow.bytes (fun t ht => by
          rw [if_pos ht]
          exact Nat.xor_lt_two_pow (n := 8) (Nat.xor_lt_two_pow (n := 8) (hA.byte t) (hB.byte t)) (hC.byte t))
        have e1 : (List.range k).map (fun t => if t < k then la.getD t 0 ^^^ lb.getD t 0 ^^^ lc.getD t 0 else 0) = (List.range k).map (fun t => la.getD t 0 ^^^ lb.getD t 0 ^^^ lc.getD t 0) :=
          List.map_congr_left (fun t ht => if_pos (List.mem_range.1 ht))
        rw [e1] at hb1
        have hlin := SumMath.linear la lb lc k (by have := Ha.out; omega) (by have := Hb.out; omega) (by have := Hc.out; omega) hA.1 hB.1 hC.1
        have hfin : (((SumMath.more 0 ((List.range k).map (fun t => la.getD t 0 ^^^ lb.getD t 0 ^^^ lc.getD t 0)) : Nat) : Int) == bits .xor .u32 (bits .xor .u32 ((SumMath.more 0 (la.take k) : Nat) : Int) ((SumMath.more 0 (lb.take k) : Nat) : Int)) ((SumMath.more 0 (lc.take k) : Nat) : Int)) = true := by
          rw [xor_u32 _ _ (SumMath.more_lt _ _) (SumMath.more_lt _ _), xor_u32 _ _ (SumMath.xor_lt (SumMath.more_lt _ _) (SumMath.more_lt _ _)) (SumMath.more_lt _ _), hlin]
          exact beq_self_eq_true _
        have nx : ((List.range k).map (fun t => la.getD t 0 ^^^ lb.getD t 0 ^^^ lc.getD t 0)).length = k := by simp
        have na' : (la.take k).length = k := by rw [List.length_take]; have := Ha.out; omega
        have nb' : (lb.take k).length = k := by rw [List.length_take]; have := Hb.out; omega
        have nc' : (lc.take k).length = k := by rw [List.length_take]; have := Hc.out; omega
        generalize (List.range k).map (fun t => la.getD t 0 ^^^ lb.getD t 0 ^^^ lc.getD t 0) = lx at hb1 hfin nx
        generalize la.take k = ta at hAr hfin na'
        generalize lb.take k = tb at hBr hfin nb'
        generalize lc.take k = tc at hCr hfin nc'
        have HF := hide hfin; have N0 := hide nx; have N1 := hide na'; have N2 := hide nb'; have N3 := hide nc'
        clear hfin nx na' nb' nc' hlin e1 hrow
        go_wp2
        go_quiet ((first
          | (go_at_call 13; exact sum_q lx _ _ _ _ _ N0.out hb1 (by omega))
          | (go_at_call 13; exact sum_q ta _ _ _ _ _ N1.out hAr (by omega))
          | (go_at_call 13; exact sum_q tb _ _ _ _ _ N2.out hBr (by omega))
          | (go_at_call 13; exact sum_q tc _ _ _ _ _ N3.out hCr (by omega))))
        go_wp2
        go_ret
        exact ⟨ret_true HF.out, below_drewN (hb.trans (hbr.mono hb.size)) _⟩
end Go.Proofs.Ythhlokhhhponbaa
