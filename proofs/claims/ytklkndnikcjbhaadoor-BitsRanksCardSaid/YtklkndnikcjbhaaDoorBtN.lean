/-
  Unrank: the set of a size and a rank.
-/
import Derived.Test.YtklkndnikcjbhaaDoorBtM
import Derived.Test.YtklkndnikcjbhaaDoorBtE
namespace Go.Proofs.YtklkndnikcjbhaaDoor
open Go.RowKit Go.Shelf
set_option linter.unusedVariables false
set_option linter.unusedSimpArgs false

def unV (k : Int) (r : Nat) : Value := if k < 0 ∨ 60 < k ∨ ch 60 k.toNat ≤ r then .tuple #[.int .u64 0, .int .i64 120] else .tuple #[.int .u64 (un 60 k.toNat r : Nat), .int .i64 0]

/-- what stands when the places from n on are told -/
structure UnI (T n k r s : Nat) : Prop where
  k60 : k ≤ 60
  r64 : r < 18446744073709551616
  lt : r < ch n k
  rest : un n k r = T % 2 ^ n
  acc : s = T - T % 2 ^ n
theorem UnI.yes {T n k r s : Nat} (h : UnI T (n + 1) k r s) (hn : n < 60) (hT : T < 2 ^ 60) (hc : ch n k ≤ r) : 1 ≤ k ∧ UnI T n (k - 1) (r - ch n k) (s ||| 2 ^ n) ∧ s < 18446744073709551616 := by
  obtain ⟨a, b, c, d⟩ := (un_step h.lt).1 hc
  rw [h.rest] at c d
  have hm := mod_succ n T
  have hb : T.testBit n = true := by
    rw [Nat.testBit_mod_two_pow] at c
    simpa using c
  rw [hb, if_pos rfl] at hm
  have hle : T % 2 ^ (n + 1) ≤ T := Nat.mod_le _ _
  have hdvd : s % 2 ^ (n + 1) = 0 := by
    rw [h.acc]
    have := Nat.div_add_mod T (2 ^ (n + 1))
    rw [show T - T % 2 ^ (n + 1) = 2 ^ (n + 1) * (T / 2 ^ (n + 1)) by omega]
    exact Nat.mul_mod_right _ _
  have hj : s ||| 2 ^ n = s + 2 ^ n := nat_join (n + 1) s (2 ^ n) hdvd (Nat.pow_lt_pow_right (by decide) (by omega))
  have hk := h.k60
  have hr := h.r64
  have hacc := h.acc
  refine ⟨a, ⟨by omega, by omega, b, ?_, ?_⟩, by omega⟩
  · rw [← d, Nat.mod_mod_of_dvd]
    exact Nat.pow_dvd_pow 2 (by omega)
  · rw [hj, hacc]
    omega
theorem UnI.no {T n k r s : Nat} (h : UnI T (n + 1) k r s) (hc : ¬ ch n k ≤ r) : UnI T n k r s := by
  obtain ⟨c, d⟩ := (un_step h.lt).2 hc
  rw [h.rest] at c d
  have hm := mod_succ n T
  have hb : T.testBit n = false := by
    rw [Nat.testBit_mod_two_pow] at c
    simpa using c
  rw [hb] at hm
  simp only [Bool.false_eq_true, if_false, Nat.add_zero] at hm
  refine ⟨h.k60, h.r64, by omega, ?_, by rw [h.acc, hm]⟩
  rw [← d, Nat.mod_mod_of_dvd]
  exact Nat.pow_dvd_pow 2 (by omega)
theorem UnI.first {k r : Nat} (hk : k ≤ 60) (hr : r < 18446744073709551616) (h : r < ch 60 k) : UnI (un 60 k r) 60 k r 0 :=
  ⟨hk, hr, h, (Nat.mod_eq_of_lt (un_lt 60 k r)).symm, by rw [Nat.mod_eq_of_lt (un_lt 60 k r), Nat.sub_self]⟩
theorem UnI.last {T k r s : Nat} (h : UnI T 0 k r s) : s = T := by
  have := h.acc
  simpa [Nat.mod_one] using this

set_option maxRecDepth 100000 in
set_option maxHeartbeats 4000000 in
theorem unrank_at (k : Int) (r : Nat) (hr : r < 18446744073709551616) (w : World) :
    Calls Tryd.prog 26 #[.int .i64 k, .int .u64 r] w fun e w' => e = .returned (unV k r) ∧ Below w.heap.size w w' := by
  by_cases h1 : k < 0
  · have H := hide (show unV k r = .tuple #[.int .u64 0, .int .i64 120] from if_pos (.inl h1))
    go_enter Tryd.func26, Tryd.ntmps26
    go_wp2
    go_ret2
    exact ⟨by rw [H.out]; rfl, Below.refl _ _⟩
  · by_cases h2 : 60 < k
    · have H := hide (show unV k r = .tuple #[.int .u64 0, .int .i64 120] from if_pos (.inr (.inl h2)))
      go_enter Tryd.func26, Tryd.ntmps26
      go_wp2
      go_ret2
      exact ⟨by rw [H.out]; rfl, Below.refl _ _⟩
    · obtain ⟨k, rfl⟩ := Int.eq_ofNat_of_zero_le (show 0 ≤ k by omega)
      have hk : k ≤ 60 := by omega
      have HV := hide (show unV (k : Int) r = if ch 60 k ≤ r then .tuple #[.int .u64 0, .int .i64 120] else .tuple #[.int .u64 (un 60 k r : Nat), .int .i64 0] from by
        unfold unV
        rw [Int.toNat_natCast]
        by_cases h3 : ch 60 k ≤ r
        · rw [if_pos (.inr (.inr h3)), if_pos h3]
        · rw [if_neg (by omega), if_neg h3])
      have hz := (zero_of_info info_tab).1
      clear h1 h2
      go_enter Tryd.func26, Tryd.ntmps26
      go_wp2_with fail
      refine (subsets_at _).mono ?_
      rintro e w1 ⟨rfl, hb1⟩
      have HB1 := hide hb1
      clear hb1
      have HTB := hide (show ∀ n k, n ≤ 60 → k ≤ 60 → (w1.alloc (.cells tab 64)).cell? ⟨w1.heap.size, n * 61 + k, none⟩ = some (.int .u64 (ch n k : Nat)) from fun n k hn hk => by
        rw [cell_of_row _ _ _ _ _ _ (heap_alloc_new w1 _)]; exact tab_get hn hk)
      have hx60 : (w1.alloc (.cells tab 64)).cell? ⟨w1.heap.size, 60 * 61 + k, none⟩ = some (.int .u64 (ch 60 k : Nat)) := HTB.out 60 k (by omega) hk
      have HB2 := hide (HB1.out.trans ((bal w1 (.cells tab 64)).mono HB1.out.size))
      by_cases h3 : ch 60 k ≤ r
      · rw [if_pos h3] at HV
        have h3i : (ch 60 k : Int) ≤ (r : Int) := by omega
        generalize ch 60 k = c60 at *
        go_wp2_with (refine wpList_store_row rfl 64 (.tmp 6) (.tmp 16) rfl w1.heap.size tab rfl rfl 64 _ (heap_alloc_new w1 _) tab_info (by rw [cells_size, tab_size]) (cells_one _ _) ?_; rw [World.setRow_alloc_new]; clear hz; generalize w1.alloc (.cells tab 64) = w2 at HTB hx60 HB2 ⊢; generalize tab = tb at *)
        go_ret2
        exact ⟨by rw [HV.out]; rfl, HB2.out⟩
      · rw [if_neg h3] at HV
        have hI := UnI.first hk hr (by omega)
        have HT := hide (un_lt 60 k r)
        have h3i : ¬ (ch 60 k : Int) ≤ (r : Int) := by omega
        generalize un 60 k r = T at *
        generalize ch 60 k = c60 at *
        have HI := hide hI
        clear hI h3
        go_wp2_with (refine wpList_store_row rfl 64 (.tmp 6) (.tmp 16) rfl w1.heap.size tab rfl rfl 64 _ (heap_alloc_new w1 _) tab_info (by rw [cells_size, tab_size]) (cells_one _ _) ?_; rw [World.setRow_alloc_new]; clear hz; generalize w1.alloc (.cells tab 64) = w2 at HTB hx60 HB2 ⊢; generalize tab = tb at *)
        go_loop [0, 1, 7, 8] (fun kv rv sv i => ∃ (n k r s : Nat), n ≤ 60 ∧ kv = .int .i64 k ∧ rv = .int .u64 r ∧ sv = .int .u64 s ∧ i = .int .i64 ((n : Int) - 1) ∧ UnI T n k r s) (fun _ _ _ i => (intOf i + 1).toNat)
        case atStart => exact ⟨60, k, r, 0, by omega, rfl, rfl, rfl, rfl, HI.out⟩
        case round =>
          obtain ⟨n, k, r, s, hn, rfl, rfl, rfl, rfl, hI⟩ := hrel
          clear h3i hx60 HI
          cases n with
          | zero =>
            have hl := hI.last
            subst hl
            clear hI
            go_wp2
            go_ret2
            exact ⟨by rw [HV.out]; rfl, HB2.out⟩
          | succ n =>
            have e1 : ((n + 1 : Nat) : Int) - 1 = (n : Int) := by omega
            rw [e1]
            have hk60 := hI.k60
            have hct := HTB.out n k (by omega) hk60
            have hch := ch_64 (n := n) (by omega) k
            have HW := hide (pow_wrap n (by omega))
            by_cases hc : ch n k ≤ r
            · obtain ⟨a1, a2, a3⟩ := hI.yes (by omega) HT.out hc
              have hpn : 2 ^ n < 18446744073709551616 := by
                have : 2 ^ n < 2 ^ 64 := Nat.pow_lt_pow_right (by decide) (by omega)
                omega
              have HO := hide (u64_or_nat s (2 ^ n) a3 hpn)
              have HA := hide a2
              have hr64 := hI.r64
              generalize ch n k = c at *
              clear hI a2
              go_wp2_with fail
              go_round
              case rel =>
                refine ⟨n, k - 1, r - c, s ||| 2 ^ n, by omega, ?_, ?_, ?_, rfl, HA.out⟩
                · congr 1; omega
                · congr 1; omega
                · rw [HW.out, HO.out]
              case measure => simp [intOf]
            · have HA := hide (hI.no hc)
              have hr64 := hI.r64
              generalize ch n k = c at *
              clear hI
              go_wp2_with fail
              go_round
              case rel => exact ⟨n, k, r, s, by omega, rfl, rfl, rfl, rfl, HA.out⟩
              case measure => simp [intOf]
end Go.Proofs.YtklkndnikcjbhaaDoor
