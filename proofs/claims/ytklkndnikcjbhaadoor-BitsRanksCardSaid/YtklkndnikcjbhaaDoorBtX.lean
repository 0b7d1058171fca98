/-
  The document's Subsets and Rank.
-/
import Derived.Test.YtklkndnikcjbhaaDoorBtR
import Derived.Test.YtklkndnikcjbhaaDoorBtT
namespace Go.Proofs.YtklkndnikcjbhaaDoor
open Go.RowKit Go.Shelf
set_option linter.unusedVariables false
set_option linter.unusedSimpArgs false

theorem mul_60 : ∀ k, k < 61 → mulF 60 k ≤ 118264581564861424 := by decide +kernel
theorem ch_max {n : Nat} (hn : n ≤ 60) (k : Nat) : ch n k ≤ 118264581564861424 := by
  refine Nat.le_trans (ch_mono' hn k) ?_
  by_cases hk : k < 61
  · rw [← mulF_eq]; exact mul_60 k hk
  · rw [ch_above (by omega)]; omega
theorem ch_step {n i : Nat} (hn : n ≤ 60) (hi : i < n) : ch n i * (n - i) = (i + 1) * ch n (i + 1) ∧ ch n i * (n - i) < 18446744073709551616 := by
  have h := ch_mul n i
  have hm := ch_max hn (i + 1)
  have h2 : (i + 1) * ch n (i + 1) ≤ 60 * 118264581564861424 := Nat.mul_le_mul (by omega) hm
  rw [Nat.mul_comm]
  omega

set_option maxHeartbeats 2000000 in
theorem rsub_at (n k : Int) (w : World) :
    Calls Tryd.prog 23 #[.int .i64 n, .int .i64 k] w fun e w' => e = .returned (subV n k) ∧ w = w' := by
  by_cases h1 : n < 0
  · have H := hide (show subV n k = .tuple #[.int .u64 0, .int .i64 120] from if_pos (.inl h1))
    go_enter Tryd.func23, Tryd.ntmps23
    go_wp2
    go_ret2
    exact ⟨by rw [H.out]; rfl, rfl⟩
  · by_cases h2 : 60 < n
    · have H := hide (show subV n k = .tuple #[.int .u64 0, .int .i64 120] from if_pos (.inr h2))
      go_enter Tryd.func23, Tryd.ntmps23
      go_wp2
      go_ret2
      exact ⟨by rw [H.out]; rfl, rfl⟩
    · have h3 : ¬ (n < 0 ∨ 60 < n) := by omega
      by_cases h4 : k < 0
      · have H := hide (show subV n k = .tuple #[.int .u64 0, .int .i64 0] from by unfold subV; rw [if_neg h3, if_pos (.inl h4)])
        clear h3
        go_enter Tryd.func23, Tryd.ntmps23
        go_wp2
        go_ret2
        exact ⟨by rw [H.out]; rfl, rfl⟩
      · by_cases h5 : n < k
        · have H := hide (show subV n k = .tuple #[.int .u64 0, .int .i64 0] from by unfold subV; rw [if_neg h3, if_pos (.inr h5)])
          clear h3
          go_enter Tryd.func23, Tryd.ntmps23
          go_wp2
          go_ret2
          exact ⟨by rw [H.out]; rfl, rfl⟩
        · have H := hide (show subV n k = .tuple #[.int .u64 (ch n.toNat k.toNat : Nat), .int .i64 0] from by unfold subV; rw [if_neg h3, if_neg (by omega)])
          obtain ⟨n, rfl⟩ := Int.eq_ofNat_of_zero_le (show 0 ≤ n by omega)
          obtain ⟨k, rfl⟩ := Int.eq_ofNat_of_zero_le (show 0 ≤ k by omega)
          rw [Int.toNat_natCast, Int.toNat_natCast] at H
          have hn : n ≤ 60 := by omega
          have hnk : k ≤ n := by omega
          have HSt := hide (fun i (hi : i < n) => ch_step hn hi)
          clear h3
          go_enter Tryd.func23, Tryd.ntmps23
          go_wp2_with fail
          go_loop [6, 7] (fun v iv => ∃ i : Nat, i ≤ k ∧ iv = .int .i64 i ∧ v = .int .u64 (ch n i : Nat)) (fun _ iv => k - (intOf iv).toNat)
          case atStart => exact ⟨0, by omega, rfl, by rw [ch_zero]; rfl⟩
          case round =>
            obtain ⟨i, hi, rfl, rfl⟩ := hrel
            by_cases hlt : i < k
            · obtain ⟨a1, a2⟩ := HSt.out i (by omega)
              obtain ⟨d, hd⟩ : ∃ d, d = n - i := ⟨_, rfl⟩
              rw [← hd] at a1 a2
              have e0 : (n : Int) - (i : Int) = (d : Int) := by omega
              have hd60 : d ≤ 60 := by omega
              have HQ := hide (show ch n i * d / (i + 1) = ch n (i + 1) from by rw [a1, Nat.mul_div_cancel_left _ (by omega)])
              generalize hv : ch n i = v at *
              have e1 : IntKind.u64.wrap ((v : Int) * (d : Int)) = ((v * d : Nat) : Int) := by
                rw [show (v : Int) * (d : Int) = ((v * d : Nat) : Int) from rfl, IntKind.wrap_u64]; omega
              have hq2 : v * d / (i + 1) < 18446744073709551616 := Nat.lt_of_le_of_lt (Nat.div_le_self _ _) a2
              have e2 : IntKind.u64.wrap (((v * d : Nat) : Int) / ((i : Int) + 1)) = ((v * d / (i + 1) : Nat) : Int) := by
                rw [show (((v * d : Nat) : Int) / ((i : Int) + 1)) = ((v * d / (i + 1) : Nat) : Int) from rfl, IntKind.wrap_u64]
                generalize v * d / (i + 1) = Q at *
                omega
              clear a1 hd hv
              generalize v * d = P at *
              generalize P / (i + 1) = Q at *
              go_wp2_with fail
              go_round
              case rel => exact ⟨i + 1, by omega, by go_num, by rw [HQ.out]⟩
              case measure => simp [intOf]; omega
            · obtain rfl : i = k := by omega
              go_wp2_with fail
              go_ret2
              exact ⟨by rw [H.out]; rfl, rfl⟩

set_option maxRecDepth 100000 in
set_option maxHeartbeats 4000000 in
theorem rrank_at (s : Nat) (hs : s < 18446744073709551616) (w : World) :
    Calls Tryd.prog 25 #[.int .u64 s] w fun e w' => e = .returned (rankV s) ∧ Below w.heap.size w w' := by
  have HE := hide (show ∀ m ∈ mem s, 60 ≤ m → rankV s = .tuple #[.int .u64 0, .int .i64 120] from fun m hm h60 => if_neg fun hlo => by
    rw [mem_low hlo (by decide)] at hm
    have := (memn_mem.1 hm).1
    omega)
  have HO := hide (show (∀ m ∈ mem s, m < 60) → rankV s = .tuple #[.int .u64 (rkL 0 (mem s) % 18446744073709551616 : Nat), .int .i64 0] from fun h => by
    have hlo : s < 2 ^ 60 := by
      apply Nat.lt_pow_two_of_testBit
      intro i hi
      by_cases hi64 : i < 64
      · cases hb : s.testBit i with
        | false => rfl
        | true => have := h i (mem_mem.2 ⟨hi64, hb⟩); omega
      · exact high_zero (n := 64) hs (by omega)
    rw [rankV_of hlo, rk_mem hlo, Nat.mod_eq_of_lt rk_small])
  have HM := hide (show memI s = (mem s).map fun x : Nat => (x : Int) from rfl)
  have HLn := hide (show (memI s).length = (mem s).length from by unfold memI; rw [List.length_map])
  have hlen : (mem s).length ≤ 64 := mem_len s
  go_enter Tryd.func25, Tryd.ntmps25
  go_wp2_with fail
  refine (rmembers_any s hs _).mono ?_
  rintro e w1 ⟨h, rfl, hO, hb1⟩
  obtain ⟨A, c, rfl, hI⟩ := own_ints hO fun z hz => by have := memI_ok s z hz; unfold I64; omega
  have HI := hide hI
  have HB := hide hb1
  clear hO hI hb1
  generalize memI s = L at *
  generalize mem s = Ms at *
  generalize hn : L.length = n at *
  have HN := hide hn
  clear hn
  rw [← HLn.out] at hlen
  go_wp2_with fail
  go_loop [5, 6] (fun rv iv => ∃ k : Nat, k ≤ n ∧ iv = .int .i64 k ∧ rv = .int .u64 (rkL 0 (Ms.take k) % 18446744073709551616 : Nat) ∧ ∀ m ∈ Ms.take k, m < 60) (fun _ iv => n - (intOf iv).toNat)
  case atStart => exact ⟨0, by omega, rfl, rfl, fun m hm => by simp at hm⟩
  case round =>
    obtain ⟨k, hk, rfl, rfl, hall⟩ := hrel
    have HAll := hide hall
    clear hall
    by_cases hlt : k < n
    · obtain ⟨b, off, rfl, hbl, hc⟩ := HI.out.at (by rw [HN.out]; exact hlt)
      have hkl : k < Ms.length := by rw [← HLn.out]; exact hlt
      have hX : L.getD k 0 = ((Ms.getD k 0 : Nat) : Int) := by
        rw [HM.out, List.getD_eq_getElem?_getD, List.getElem?_map, List.getD_eq_getElem?_getD, List.getElem?_eq_getElem hkl]; rfl
      rw [hX] at hc
      have HMem := hide (show Ms.getD k 0 ∈ Ms from by rw [List.getD_eq_getElem?_getD, List.getElem?_eq_getElem hkl]; exact List.getElem_mem _)
      have HTk := hide (take_snoc Ms 0 k hkl)
      have HTl := hide (show (Ms.take k).length = k from by rw [List.length_take]; omega)
      clear hX
      generalize Ms.getD k 0 = m at *
      by_cases h60 : 60 ≤ m
      · have HV := hide (HE.out m HMem.out h60)
        generalize rkL 0 (Ms.take k) % 18446744073709551616 = r at *
        go_wp2_with fail
        go_ret2
        exact ⟨by rw [HV.out]; rfl, HB.out⟩
      · have hm60 : m < 60 := by omega
        have HSub := hide (fun W => rsub_at m ((k + 1 : Nat) : Int) W)
        rw [subV_of (show m ≤ 60 by omega)] at HSub
        have hch := ch_64 (n := m) (by omega) (k + 1)
        have HRk := hide (show rkL 0 (Ms.take (k + 1)) % 18446744073709551616 = (rkL 0 (Ms.take k) % 18446744073709551616 + ch m (k + 1)) % 18446744073709551616 from by
          rw [HTk.out, rkL_snoc, HTl.out]; omega)
        have hrl : rkL 0 (Ms.take k) % 18446744073709551616 < 18446744073709551616 := Nat.mod_lt _ (by decide)
        generalize hr : rkL 0 (Ms.take k) % 18446744073709551616 = r at *
        generalize hcc : ch m (k + 1) = cc at *
        have s1 : IntKind.u64.wrap ((r : Int) + (cc : Int)) = (((r + cc) % 18446744073709551616 : Nat) : Int) := by rw [IntKind.wrap_u64]; omega
        clear hr hcc
        go_wp2_with fail
        refine (HSub.out _).mono ?_
        rintro e w' ⟨rfl, rfl⟩
        go_wp2_with fail
        go_round
        case rel =>
          refine ⟨k + 1, by omega, by go_num, ?_, ?_⟩
          · rw [HRk.out]; rfl
          · rw [HTk.out]
            intro y hy
            rcases List.mem_append.1 hy with h | h
            · exact HAll.out y h
            · obtain rfl := List.mem_singleton.1 h
              exact hm60
        case measure => simp [intOf]; omega
    · obtain rfl : k = n := by omega
      have HTe : Hid (Ms.take k = Ms) := by
        show _ = _
        rw [HLn.out, List.take_length]
      have HV := hide (HO.out (by have := HAll.out; rwa [HTe.out] at this))
      rw [← HTe.out] at HV
      generalize rkL 0 (Ms.take k) % 18446744073709551616 = r at *
      go_wp2_with fail
      go_ret2
      exact ⟨by rw [HV.out]; rfl, HB.out⟩
end Go.Proofs.YtklkndnikcjbhaaDoor
