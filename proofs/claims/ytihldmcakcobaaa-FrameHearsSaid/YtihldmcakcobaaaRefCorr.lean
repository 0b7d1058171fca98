/-
  The document's own Corrupt: bit by bit.
-/
import Derived.Test.YtihldmcakcobaaaTurnMath
import Derived.Test.YtihldmcakcobaaaClone
namespace Go.Proofs.Ytihldmcakcobaaa
open Go.RowKit
set_option linter.unusedVariables false

/-- byte t behind i bits -/
def rc (b : List Nat) (z : Int) (mask : Nat) : Nat → Nat → Nat
  | 0, t => b.getD t 0
  | i + 1, t => if t = i / 8 ∧ z ≤ (i : Int) ∧ mask.testBit ((i : Int) - z).toNat = true then rc b z mask i t ^^^ 2 ^ (i % 8) else rc b z mask i t
theorem rc_lt {b : List Nat} (hb : ∀ c ∈ b, c < 256) (z : Int) (mask t : Nat) : ∀ i, rc b z mask i t < 256
  | 0 => getD_lt hb t
  | i + 1 => by
    unfold rc
    have h := rc_lt hb z mask t i
    split
    · exact Nat.xor_lt_two_pow (n := 8) h (Nat.pow_lt_pow_right (by omega) (by omega))
    · exact h
theorem rc_bit (b : List Nat) (z : Int) (mask t r : Nat) (hr : r < 8) : ∀ i, (rc b z mask i t).testBit r = ((b.getD t 0).testBit r ^^ (decide (8 * t + r < i) && (decide (z ≤ 8 * (t : Int) + r) && mask.testBit (8 * (t : Int) + r - z).toNat)))
  | 0 => by simp [rc]
  | i + 1 => by
    have ih := rc_bit b z mask t r hr i
    unfold rc
    by_cases hi : 8 * t + r = i
    · have ht : t = i / 8 := by omega
      have hm : i % 8 = r := by omega
      have hz : 8 * (t : Int) + r = (i : Int) := by omega
      rw [hz] at ih ⊢
      rw [decide_eq_false (show ¬ (8 * t + r < i) by omega), Bool.false_and, Bool.xor_false] at ih
      rw [decide_eq_true (show 8 * t + r < i + 1 by omega), Bool.true_and]
      by_cases h1 : z ≤ (i : Int)
      · by_cases h2 : mask.testBit ((i : Int) - z).toNat = true
        · rw [if_pos ⟨ht, h1, h2⟩, Nat.testBit_xor, ih, hm, Nat.testBit_two_pow_self, h2, decide_eq_true h1]; rfl
        · rw [if_neg (fun h => h2 h.2.2), ih, Bool.eq_false_iff.2 h2, Bool.and_false, Bool.xor_false]
      · rw [if_neg (fun h => h1 h.2.1), ih, decide_eq_false h1, Bool.false_and, Bool.xor_false]
    · have e : decide (8 * t + r < i + 1) = decide (8 * t + r < i) := decide_eq_decide.2 (by omega)
      rw [e, ← ih]
      split
      · rename_i h
        rw [Nat.testBit_xor, Nat.testBit_two_pow_of_ne (by omega), Bool.xor_false]
      · rfl
theorem rc_full (b : List Nat) (z : Int) (mask t : Nat) (hm : mask < 4294967296) (hb : ∀ c ∈ b, c < 256) (ht : t < b.length) : rc b z mask (8 * b.length) t = (corr b z mask).getD t 0 := by
  refine Nat.eq_of_testBit_eq fun r => ?_
  by_cases hr : r < 8
  · rw [rc_bit b z mask t r hr, corr_get b z mask t ht, Nat.testBit_xor, over_bit z mask t r hm hr, decide_eq_true (show 8 * t + r < 8 * b.length by omega), Bool.true_and]
  · have hp : 256 ≤ 2 ^ r := Nat.le_trans (show 256 ≤ 2 ^ 8 by decide) (Nat.pow_le_pow_right (by omega) (by omega))
    rw [Nat.testBit_lt_two_pow (Nat.lt_of_lt_of_le (rc_lt hb z mask t _) hp), Nat.testBit_lt_two_pow (Nat.lt_of_lt_of_le (getD_lt (corr_lt b z mask hb) t) hp)]
theorem rc_no {b : List Nat} {z : Int} {mask i : Nat} (h : ¬ (z ≤ (i : Int) ∧ mask.testBit ((i : Int) - z).toNat = true)) (t : Nat) : rc b z mask (i + 1) t = rc b z mask i t := if_neg (fun e => h e.2)
theorem rc_yes {b : List Nat} {z : Int} {mask i : Nat} (h : z ≤ (i : Int) ∧ mask.testBit ((i : Int) - z).toNat = true) (t : Nat) : rc b z mask (i + 1) t = if t = i / 8 then rc b z mask i t ^^^ 2 ^ (i % 8) else rc b z mask i t := by
  by_cases ht : t = i / 8
  · rw [if_pos ht]; exact if_pos ⟨ht, h.1, h.2⟩
  · rw [if_neg ht]; exact if_neg (fun e => ht e.1)
theorem bit_far {mask k : Nat} (hm : mask < 4294967296) (h : 31 < k) : mask.testBit k = false :=
  Nat.testBit_lt_two_pow (Nat.lt_of_lt_of_le hm (Nat.le_trans (show 4294967296 ≤ 2 ^ 32 by decide) (Nat.pow_le_pow_right (by omega) (by omega))))
theorem rtest_of (m k : Nat) : (((m : Int) / 2 ^ k).tmod 2 == 1) = m.testBit k := by
  rw [show ((m : Int) / 2 ^ k) = ((m / 2 ^ k : Nat) : Int) by simp, Int.tmod_eq_emod_of_nonneg (Int.natCast_nonneg _), Nat.testBit_eq_decide_div_mod_eq]
  rw [Bool.eq_iff_iff, beq_iff_eq, decide_eq_true_eq]
  omega

theorem pow_mod {r : Nat} (h : r < 8) : (2 : Int) ^ r % 256 = ((2 ^ r : Nat) : Int) := by
  have : ∀ r : Fin 8, (2 : Int) ^ r.val % 256 = ((2 ^ r.val : Nat) : Int) := by decide
  exact this ⟨r, h⟩

set_option maxHeartbeats 2000000 in
theorem rcorr_any (l : List Nat) (n : Nat) (A : Option Addr) (cap : Nat) (z : Int) (m : Nat) (w : World) (hn : l.length = n) (hB : Bytes w A l) (hm : m < 4294967296) (hz : (Lit.int .i64 z).wf = true) (hlen : n ≤ 1000000) :
    Calls Try.prog 18 #[.slice A n cap, .int .i64 z, .int .u32 m] w fun e w' => ∃ g c, e = .returned (.slice (some ⟨g, 0, none⟩) n c) ∧ n ≤ c ∧ c ≤ maxLen ∧ w.heap.size ≤ g ∧ Row w' g n (fun t => (corr l z m).getD t 0) ∧ Below w.heap.size w w' := by
  have hbz := bounds_i64 hz
  have Hn := hide hn; clear hn
  have HL := hide (hB.of_below (bal w (.cells #[] 5)) (Nat.le_refl _))
  go_enter Try.func18, Try.ntmps18
  go_wp2_with (refine wpList_copy _ rfl (.tmp 9) (.tmp 10) rfl w.heap.size rfl (heap_alloc_new w _) A n cap l rfl HL.out Hn.out hlen ?_; intro g c w1 hnc hcm hg hR hb1)
  have hb0 : Below w.heap.size w w1 := (bal w _).trans (hb1.mono (Nat.le_refl _))
  have HR := hide hR; have HB0 := hide hb0
  clear hb1 hR hb0
  go_loopw [8] (fun i wr => ∃ k : Nat, k ≤ 8 * n ∧ i = .int .i64 k ∧ Row wr g n (rc l z m k) ∧ Below w.heap.size w wr) (fun i _ => 8 * n - (intOf i).toNat)
  case atStart => exact ⟨0, by omega, rfl, HR.out, HB0.out⟩
  case round =>
    obtain ⟨k, hk, rfl, hrow, hbr⟩ := hrel
    have H1 := hide hrow; have H2 := hide hbr
    clear hrow hbr
    by_cases hlt : k < 8 * n
    · by_cases h1 : (k : Int) < z
      · have hr : Row wr g n (rc l z m (k + 1)) := by
          have h : rc l z m (k + 1) = rc l z m k := funext (rc_no (fun h => by omega))
          rw [h]; exact H1.out
        have H3 := hide hr; clear hr
        go_wp2
        go_roundw
        case rel => exact ⟨k + 1, by omega, by go_num, H3.out, H2.out⟩
        case measure => simp [intOf]; omega
      · by_cases h2 : z < (k : Int) - 31
        · have hr : Row wr g n (rc l z m (k + 1)) := by
            have h : rc l z m (k + 1) = rc l z m k := funext (rc_no (fun h => by
              have h4 := bit_far hm (show 31 < ((k : Int) - z).toNat by omega)
              rw [h4] at h; cases h.2))
            rw [h]; exact H1.out
          have H3 := hide hr; clear hr
          go_wp2
          go_roundw
          case rel => exact ⟨k + 1, by omega, by go_num, H3.out, H2.out⟩
          case measure => simp [intOf]; omega
        · obtain ⟨j, hj⟩ : ∃ j : Nat, (k : Int) - z = (j : Int) := ⟨((k : Int) - z).toNat, by omega⟩
          have hj31 : j ≤ 31 := by omega
          have ht := rtest_of m j
          by_cases h3 : m.testBit j = true
          · rw [h3] at ht
            have hr := rc_yes (b := l) (z := z) (mask := m) (i := k) ⟨by omega, by rw [hj]; exact h3⟩
            have hst := H1.out.store (k / 8) (rc l z m k (k / 8) ^^^ 2 ^ (k % 8)) (g := rc l z m (k + 1)) (fun t _ => by rw [hr t]; split <;> simp_all)
            obtain ⟨hc, hf⟩ := H1.out.2 (k / 8) (by omega)
            have hv := rc_lt HL.out.1 z m (k / 8) k
            have hbs := H2.out.setCell (p := ⟨g, k / 8, none⟩) hg (.int .u8 ((rc l z m k (k / 8) ^^^ 2 ^ (k % 8) : Nat) : Int))
            have hp : 2 ^ (k % 8) < 256 := Nat.pow_lt_pow_right (n := 8) (by omega) (by omega)
            have hpw := pow_mod (r := k % 8) (by omega)
            obtain ⟨v, hve⟩ : ∃ v, rc l z m k (k / 8) = v := ⟨_, rfl⟩
            rw [hve] at hst hc hv hbs
            have hx := u8_xor_nat v (2 ^ (k % 8)) hv hp
            have hx2 : bits .xor .u8 (v : Int) ((2 : Int) ^ (k % 8)) = ((v ^^^ 2 ^ (k % 8) : Nat) : Int) := by rw [← hx]; simp
            have H3 := hide hst; have H4 := hide hbs; have HX := hide hx2
            clear hst hbs hr hve h3 h1 h2 hx hx2
            go_wp2
            go_roundw
            case rel => exact ⟨k + 1, by omega, by go_num, by rw [HX.out]; exact H3.out, by rw [HX.out]; exact H4.out⟩
            case measure => simp [intOf]; omega
          · have hr : Row wr g n (rc l z m (k + 1)) := by
              have h : rc l z m (k + 1) = rc l z m k := funext (rc_no (fun h => by rw [hj] at h; exact h3 h.2))
              rw [h]; exact H1.out
            have H3 := hide hr
            rw [Bool.eq_false_iff.2 h3] at ht
            clear hr h3
            go_wp2
            go_roundw
            case rel => exact ⟨k + 1, by omega, by go_num, H3.out, H2.out⟩
            case measure => simp [intOf]; omega
    · obtain rfl : k = 8 * n := by omega
      have hfin : Row wr g n (fun t => (corr l z m).getD t 0) := by
        refine ⟨H1.out.1, fun t ht => ?_⟩
        have h := H1.out.2 t ht
        rw [show rc l z m (8 * n) t = (corr l z m).getD t 0 by rw [← Hn.out]; exact rc_full l z m t hm HL.out.1 (by rw [Hn.out]; exact ht)] at h
        exact h
      have HF := hide hfin; clear hfin
      go_wp2
      go_ret
      exact ⟨g, c, rfl, hnc, hcm, by omega, HF.out, H2.out⟩
end Go.Proofs.Ytihldmcakcobaaa
