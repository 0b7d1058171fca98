/-
  The walk of SumBursts: bits turned within 32 that follow one another turn the sum.
-/
import Derived.Test.YthhlokhhhponbaaSum
import Derived.Test.YthhlokhhhponbaaCopy
import Derived.Test.YthhlokhhhponbaaBurstMath
namespace Go.Proofs.Ythhlokhhhponbaa
open Go.RowKit
set_option linter.unusedVariables false

/-- what holds of the copy behind k rounds -/
structure Copy (w wr : World) (g n : Nat) (l lc : List Nat) (x : Nat) : Prop where
  len : lc.length = n
  lt : ∀ c ∈ lc, c < 256
  low : SumMath.low lc = SumMath.low l ^^^ x
  row : Row wr g n (fun t => lc.getD t 0)
  below : Below w.heap.size w wr

theorem bit_test (m k b : Nat) (h : m / 2 ^ k % 2 = b) : ((m : Int) / 2 ^ k).tmod 2 = (b : Int) := by
  rw [show ((m : Int) / 2 ^ k) = ((m / 2 ^ k : Nat) : Int) by simp, Int.tmod_eq_emod_of_nonneg (Int.natCast_nonneg _)]
  omega
theorem pow_mod {r : Nat} (h : r < 8) : (2 : Int) ^ r % 256 = ((2 ^ r : Nat) : Int) := by
  have : ∀ r : Fin 8, (2 : Int) ^ r.val % 256 = ((2 ^ r.val : Nat) : Int) := by decide
  exact this ⟨r, h⟩
theorem Copy.turn {w wr : World} {g n : Nat} {l lc : List Nat} {x y : Nat} (h : Copy w wr g n l lc x) (hg : w.heap.size ≤ g) (q r : Nat) (hq : q < n) (hr : r < 8) (hy : y = x ^^^ 2 ^ (8 * q + r)) :
    Copy w (wr.setCell ⟨g, q, none⟩ (.int .u8 (bits .xor .u8 ((lc[q]?.getD 0 : Nat) : Int) ((2 : Int) ^ r % 256)))) g n l (lc.set q (lc.getD q 0 ^^^ 2 ^ r)) y := by
  have hb : lc.getD q 0 < 256 := by
    rw [List.getD_eq_getElem?_getD, List.getElem?_eq_getElem (by rw [h.len]; exact hq)]
    exact h.lt _ (List.getElem_mem _)
  have hp : 2 ^ r < 256 := Nat.pow_lt_pow_right (by omega) hr
  have hx : lc.getD q 0 ^^^ 2 ^ r < 256 := Nat.xor_lt_two_pow (n := 8) hb hp
  rw [show lc[q]?.getD 0 = lc.getD q 0 from (List.getD_eq_getElem?_getD ..).symm, pow_mod hr, u8_xor_nat _ _ hb hp]
  refine ⟨by rw [List.length_set]; exact h.len, SumMath.set_lt lc q _ hx h.lt, ?_, h.row.store q _ (fun t ht => ?_), h.below.setCell hg _⟩
  · rw [SumMath.low_turn lc q r (by rw [h.len]; exact hq) hr h.lt, h.low, hy, Nat.xor_assoc]
  · show (lc.set q _).getD t 0 = _
    rw [List.getD_eq_getElem?_getD, List.getElem?_set]
    by_cases e : t = q
    · subst e; simp [h.len, hq]
    · rw [if_neg (fun e2 => e e2.symm), if_neg e, List.getD_eq_getElem?_getD]

set_option maxHeartbeats 1000000 in
theorem bursts_yes (l : List Nat) (n : Nat) (A : Option Addr) (cap a m : Nat) (w : World) (hn : l.length = n) (hB : Bytes w A l) (hm : m < 4294967296) (ha : a ≤ 9223372036854775807) (hlen : n ≤ 100000) :
    Calls Try.prog 8 #[.slice A n cap, .int .i64 (a : Int), .int .u32 m] w fun e w' => e = .returned (.bool true) ∧ Below w.heap.size w w' := by
  have Hn := hide hn; clear hn
  go_enter Try.func8, Try.ntmps8
  go_wp2_with (first
    | (go_at_call 22; refine (alive_any _).mono ?_; rintro e w1 ⟨rfl, hb⟩)
    | (at_builtin; refine wpList_copy _ rfl (.tmp 20) (.tmp 21) rfl w1.heap.size rfl (heap_alloc_new w1 _) A n cap l rfl (hB.later hb _) Hn.out (by omega) ?_; intro g c w2 hc1 hc2 hg hrow hb2))
  have hcopy : Copy w w2 g n l l (SumMath.bits a n m 0 * 2 ^ a) := ⟨Hn.out, hB.1, by show _ = _ ^^^ 0 * 2 ^ a; simp, hrow, (hb.alloc hb.size _).trans (hb2.mono hb.size)⟩
  have hgw : w.heap.size ≤ g := Nat.le_trans hb.size hg
  clear hrow hb2
  go_loopw [9, 10] (fun b i wr => ∃ (k : Nat) (lc : List Nat), k ≤ 32 ∧ i = .int .i64 k ∧ b = .bool (SumMath.turned a n m k) ∧ Copy w wr g n l lc (SumMath.bits a n m k * 2 ^ a)) (fun _ i _ => 32 - (intOf i).toNat)
  case atStart => exact ⟨0, l, by omega, rfl, rfl, hcopy⟩
  case round =>
    obtain ⟨k, lc, hk, rfl, rfl, hcp⟩ := hrel
    by_cases hlt : k < 32
    · by_cases h1 : a + k < 8 * n
      · rcases Nat.mod_two_eq_zero_or_one (m / 2 ^ k) with h2 | h2
        · have hv : SumMath.valid a n m k = false := by unfold SumMath.valid; simp [h2]
          have ht : (((m : Int) / 2 ^ k).tmod 2 == 0) = true := by rw [bit_test m k 0 h2]; rfl
          have H1 := hide (SumMath.turned_no hv)
          have H2 := hide (SumMath.bits_no hv)
          clear hv h2
          go_wp2
          go_roundw
          case rel => exact ⟨k + 1, lc, by omega, by go_num, by rw [H1.out], by rw [H2.out]; exact hcp⟩
          case measure => simp [intOf]; omega
        · have hv : SumMath.valid a n m k = true := by unfold SumMath.valid; simp [h1, h2]
          have ht : (((m : Int) / 2 ^ k).tmod 2 == 0) = false := by rw [bit_test m k 1 h2]; rfl
          obtain ⟨hc, hf⟩ := hcp.row.2 ((a + k) / 8) (by omega)
          have H1 := hide (SumMath.turned_yes hv)
          have H2 := hide (SumMath.bits_step hv)
          clear hv h2
          go_wp2
          go_roundw
          case rel =>
            exact ⟨k + 1, lc.set ((a + k) / 8) (lc.getD ((a + k) / 8) 0 ^^^ 2 ^ ((a + k) % 8)), by omega, by go_num, by rw [H1.out],
              hcp.turn hgw _ _ (by omega) (by omega) (by rw [H2.out, Nat.div_add_mod])⟩
          case measure => simp [intOf]; omega
      · have hv : SumMath.valid a n m k = false := by unfold SumMath.valid; simp [h1]
        have H1 := hide (SumMath.turned_no hv)
        have H2 := hide (SumMath.bits_no hv)
        clear hv
        go_wp2
        go_roundw
        case rel => exact ⟨k + 1, lc, by omega, by go_num, by rw [H1.out], by rw [H2.out]; exact hcp⟩
        case measure => simp [intOf]; omega
    · obtain rfl : k = 32 := by omega
      have hiff := SumMath.burst l lc a n (SumMath.bits a n m 32) Hn.out hcp.len hB.1 hcp.lt (SumMath.bits_lt a n m 32) (SumMath.bits_room a n m 32) hcp.low
      have hfin : ((((SumMath.more 0 lc : Nat) : Int) != ((SumMath.more 0 l : Nat) : Int)) == SumMath.turned a n m 32) = true := by
        unfold SumMath.turned
        by_cases e : SumMath.bits a n m 32 = 0
        · rw [hiff.2 e, e]; simp
        · have e2 : SumMath.more 0 lc ≠ SumMath.more 0 l := fun h => e (hiff.1 h)
          have e3 : ((SumMath.more 0 lc : Nat) : Int) ≠ ((SumMath.more 0 l : Nat) : Int) := by omega
          simp [e, e3]
      have HF := hide hfin
      have N1 := hide hcp.len
      have hb1 : Bytes wr (some ⟨g, 0, none⟩) lc := ⟨hcp.lt, .inr ⟨g, 0, rfl, hcp.row.1, fun i hi => by rw [Nat.zero_add]; exact (hcp.row.2 i (by rw [← hcp.len]; exact hi)).1⟩⟩
      have hb2 := hB.of_below hcp.below (Nat.le_refl _)
      have hbel := hcp.below
      clear hfin hiff hcopy hcp
      go_wp2_with fail
      refine (sum_at lc _ _ _ _ N1.out hb1 (by omega)).mono ?_
      rintro e w' ⟨rfl, rfl⟩
      go_wp2_with fail
      refine (sum_at l _ _ _ _ Hn.out hb2 (by omega)).mono ?_
      rintro e w' ⟨rfl, rfl⟩
      go_wp2_with fail
      go_ret
      exact ⟨ret_true HF.out, hbel⟩

set_option maxHeartbeats 400000 in
theorem bursts_none (l : List Nat) (n : Nat) (A : Option Addr) (cap : Nat) (a : Int) (m : Nat) (w : World) (hn : l.length = n) (hB : Bytes w A l) (hm : m < 4294967296) (ha : a < 0) (ha2 : -9223372036854775808 ≤ a) (hlen : n ≤ 100000) :
    Calls Try.prog 8 #[.slice A n cap, .int .i64 a, .int .u32 m] w fun e w' => e = .returned (.bool true) ∧ Below w.heap.size w w' := by
  have Hn := hide hn; clear hn
  go_enter Try.func8, Try.ntmps8
  go_wp2_with (first
    | (go_at_call 22; refine (alive_any _).mono ?_; rintro e w1 ⟨rfl, hb⟩)
    | (at_builtin; refine wpList_copy _ rfl (.tmp 20) (.tmp 21) rfl w1.heap.size rfl (heap_alloc_new w1 _) A n cap l rfl (hB.later hb _) Hn.out (by omega) ?_; intro g c w2 hc1 hc2 hg hrow hb2))
  have hbel := (hb.alloc hb.size (.cells #[] 5)).trans (hb2.mono hb.size)
  have hb1 : Bytes w2 (some ⟨g, 0, none⟩) l := ⟨hB.1, .inr ⟨g, 0, rfl, hrow.1, fun i hi => by rw [Nat.zero_add]; exact (hrow.2 i (by rw [← Hn.out]; exact hi)).1⟩⟩
  clear hrow hb2
  go_loop [9, 10] (fun b i => ∃ k : Nat, k ≤ 32 ∧ i = .int .i64 k ∧ b = .bool false) (fun _ i => 32 - (intOf i).toNat)
  case atStart => exact ⟨0, by omega, rfl, rfl⟩
  case round =>
    obtain ⟨k, hk, rfl, rfl⟩ := hrel
    by_cases hlt : k < 32
    · go_wp2
      go_round
      case rel => exact ⟨k + 1, by omega, by go_num, rfl⟩
      case measure => simp [intOf]; omega
    · have hb3 := hB.of_below hbel (Nat.le_refl _)
      go_wp2_with fail
      refine (sum_at l _ _ _ _ Hn.out hb1 (by omega)).mono ?_
      rintro e w' ⟨rfl, rfl⟩
      go_wp2_with fail
      refine (sum_at l _ _ _ _ Hn.out hb3 (by omega)).mono ?_
      rintro e w' ⟨rfl, rfl⟩
      go_wp2_with fail
      go_ret
      exact ⟨rfl, hbel⟩

set_option maxHeartbeats 400000 in
theorem bursts_long (n : Nat) (A : Option Addr) (cap : Nat) (a : Int) (m : Nat) (w : World) (hlen : 100000 < n) :
    Calls Try.prog 8 #[.slice A n cap, .int .i64 a, .int .u32 m] w fun e w' => e = .returned (.bool true) ∧ Below w.heap.size w w' := by
  go_enter Try.func8, Try.ntmps8
  go_wp2_with (go_at_call 22; refine (alive_any _).mono ?_; rintro e w1 ⟨rfl, hb⟩)
  go_ret
  exact ⟨rfl, hb⟩

theorem bursts_any (l : List Nat) (n : Nat) (A : Option Addr) (cap : Nat) (a : Int) (m : Nat) (w : World) (hn : l.length = n) (hB : Bytes w A l) (hm : m < 4294967296) (ha : -9223372036854775808 ≤ a) (ha2 : a ≤ 9223372036854775807) :
    Calls Try.prog 8 #[.slice A n cap, .int .i64 a, .int .u32 m] w fun e w' => e = .returned (.bool true) ∧ Below w.heap.size w w' := by
  by_cases h1 : 100000 < n
  · exact bursts_long n A cap a m w h1
  · by_cases h2 : a < 0
    · exact bursts_none l n A cap a m w hn hB hm h2 ha (by omega)
    · obtain ⟨x, rfl⟩ : ∃ x : Nat, a = (x : Int) := ⟨a.toNat, by omega⟩
      exact bursts_yes l n A cap x m w hn hB hm (by omega) (by omega)
end Go.Proofs.Ythhlokhhhponbaa
