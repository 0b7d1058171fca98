/-
  BitsAll's walk.
-/
import Derived.Test.YtklkndnikcjbhaaDoorBtP
namespace Go.Proofs.YtklkndnikcjbhaaDoor
open Go.RowKit Go.Shelf
set_option linter.unusedVariables false
set_option linter.unusedSimpArgs false

theorem nextV_of {s m : Nat} (hm : m ≤ 64) : nextV s m = (match nextF s m with
    | some x => .tuple #[.int .u64 (x : Nat), .bool true]
    | none => .tuple #[.int .u64 0, .bool false]) := by
  unfold nextV
  rw [if_neg (by omega), Int.toNat_natCast]
  cases nextF s m <;> rfl
theorem start_rk {k m : Nat} (h : k ≤ m) : 2 ^ k - 1 < 2 ^ m ∧ rk m (2 ^ k - 1) = 0 ∧ num m (2 ^ k - 1) = k := by
  have h1 : 2 ^ k ≤ 2 ^ m := Nat.pow_le_pow_right (by decide) h
  have h2 := Nat.two_pow_pos k
  have := low_rk (s := 2 ^ k - 1) m k h fun i _ => bit_ones k i
  exact ⟨by omega, this.1, this.2⟩
theorem shl_one {k : Nat} (h : k ≤ 13) : IntKind.u64.wrap ((2 : Int) ^ k) = ((2 ^ k : Nat) : Int) := pow_wrap k (by omega)

set_option maxRecDepth 100000 in
set_option maxHeartbeats 8000000 in
theorem all_walk (n0 k0 : Nat) (hn0 : n0 < 256) (hk0 : k0 < 256) (w : World) (hT : Tz w) :
    Calls Tryd.prog 9 #[.int .u8 n0, .int .u8 k0] w fun e w' => e = .returned (.bool true) ∧ Below w.heap.size w w' := by
  obtain ⟨m, hm⟩ : ∃ m, m = n0 % 13 := ⟨_, rfl⟩
  obtain ⟨k, hk⟩ : ∃ k, k = k0 % 14 := ⟨_, rfl⟩
  have e0 : ((n0 : Int) % 13) = (m : Int) := by omega
  have e1 : ((k0 : Int) % 14) = (k : Int) := by omega
  have hm12 : m ≤ 12 := by omega
  have hk13 : k ≤ 13 := by omega
  have HA := hide (alive_at w hT)
  have HSb := hide (fun W => sub_at m k W)
  rw [subV_of (show m ≤ 60 by omega)] at HSb
  have HT := hide hT
  have hcm := ch_64 (n := m) (by omega) k
  clear hm hk hT
  by_cases hkm : m < k
  · rw [ch_above hkm] at HSb hcm
    by_cases hk00 : k = 0
    · omega
    have hk1 : ((k : Int) == 0) = false := by simpa using hk00
    go_enter Tryd.func9, Tryd.ntmps9
    go_wp2_with fail
    refine HA.out.mono ?_
    rintro e w1 ⟨rfl, hb1⟩
    have HB1 := hide hb1
    clear hb1 HA HT
    go_wp2_with fail
    refine (HSb.out _).mono ?_
    rintro e w2 ⟨rfl, hb2⟩
    have HB2 := hide (HB1.out.trans (hb2.mono HB1.out.size))
    clear hb2 HB1
    go_wp2_with fail
    go_ret
    exact ⟨rfl, HB2.out⟩
  · by_cases hk00 : k = 0
    · subst hk00
      rw [ch_zero] at HSb hcm
      go_enter Tryd.func9, Tryd.ntmps9
      go_wp2_with fail
      refine HA.out.mono ?_
      rintro e w1 ⟨rfl, hb1⟩
      have HB1 := hide hb1
      clear hb1 HA HT
      go_wp2_with fail
      refine (HSb.out _).mono ?_
      rintro e w2 ⟨rfl, hb2⟩
      have HB2 := hide (HB1.out.trans (hb2.mono HB1.out.size))
      clear hb2 HB1
      go_wp2_with fail
      go_ret
      exact ⟨rfl, HB2.out⟩
    · have hkm' : k ≤ m := by omega
      have hk1 : ((k : Int) == 0) = false := by simpa using hk00
      have hp := shl_one hk13
      have HSt := hide (start_rk hkm')
      have hpk : 2 ^ k ≤ 8192 := by
        have : 2 ^ k ≤ 2 ^ 13 := Nat.pow_le_pow_right (by decide) hk13
        omega
      have hpk0 := Nat.two_pow_pos k
      have HP60 := hide (show 2 ^ m ≤ 1152921504606846976 from by
        have : 2 ^ m ≤ 2 ^ 60 := Nat.pow_le_pow_right (by decide) (by omega)
        omega)
      have HNR := hide (fun s (h : s < 2 ^ m) => nextF_rk (s := s) (n := m) (by omega) h)
      have HUp := hide (fun s (h : s < 2 ^ m) => show rk 60 s = rk m s ∧ pc s = num m s from by
        have h60 : s < 2 ^ 60 := by have := HP60.out; omega
        obtain ⟨d, hd⟩ := Nat.le.dest (show m ≤ 60 by omega)
        have := rk_up h d
        rw [hd] at this
        exact ⟨this.1, by rw [pc_60 h60]; exact this.2⟩)
      have HPos := hide (ch_pos hkm')
      have HSb2 := hide (fun (s : Nat) (h : s < 2 ^ m) => show ((s : Int) / 2 ^ m == 0) = true from by
        have h1 := nat_beq (s / 2 ^ m) 0
        rw [show ((s : Int) / 2 ^ m == 0) = decide (s / 2 ^ m = 0) from by simpa using h1]
        exact decide_eq_true ((Nat.div_eq_zero_iff_lt (Nat.two_pow_pos m)).2 h))
      generalize hp2 : 2 ^ k = p at *
      have HP2 := hide hp2
      clear hp2
      obtain ⟨c, hc⟩ : ∃ c, ch m k = c := ⟨_, rfl⟩
      rw [hc] at HSb hcm HPos
      have HC := hide hc
      clear hc
      go_enter Tryd.func9, Tryd.ntmps9
      go_wp2_with fail
      refine HA.out.mono ?_
      rintro e w1 ⟨rfl, hb1⟩
      have HT1 := hide (HT.out.below hb1 HT.out.lt)
      have HB1 := hide hb1
      clear hb1 HA HT
      go_wp2_with fail
      refine (HSb.out _).mono ?_
      rintro e w2 ⟨rfl, hb2⟩
      have HT2 := hide (HT1.out.below hb2 HT1.out.lt)
      have HB2 := hide (HB1.out.trans (hb2.mono HB1.out.size))
      clear hb2 HB1 HT1
      go_wp2_with fail
      go_loopw [10, 11] (fun sv rv wr => ∃ (s ρ : Nat), ρ ≤ c ∧ sv = .int .u64 s ∧ rv = .int .u64 ρ ∧ (ρ < c → s < 2 ^ m ∧ rk m s = ρ ∧ num m s = k) ∧ Below w2.heap.size w2 wr) (fun _ rv _ => c - (intOf rv).toNat)
      case atStart =>
        refine ⟨p - 1, 0, by omega, ?_, rfl, fun _ => ?_, Below.refl _ _⟩
        · congr 1; omega
        · exact HSt.out
      case round =>
        obtain ⟨s, ρ, hρ, rfl, rfl, hst, hbr⟩ := hrel
        have HBr := hide hbr
        have HTr := hide (HT2.out.below hbr HT2.out.lt)
        clear hbr
        by_cases hlt : ρ < c
        · obtain ⟨s1, s2, s3⟩ := hst hlt
          have hp60 := HP60.out
          have hs60 : s < 2 ^ 60 := by omega
          have hs64 : s < 18446744073709551616 := by omega
          obtain ⟨u1, u2⟩ := HUp.out s s1
          have HRk := hide (rank_at s hs64 wr HTr.out)
          rw [rankV_of hs60, u1, s2] at HRk
          have HSz := hide (fun W => size_at s hs64 W)
          rw [u2, s3] at HSz
          have HNx := hide (fun W => next_at s hs64 m W)
          rw [nextV_of (show m ≤ 64 by omega)] at HNx
          have hsb := HSb2.out s s1
          have hnx := HNR.out s s1
          rw [s2, s3, HC.out] at hnx
          have hsb2 : ((s : Int) / 2 ^ m != 0) = false := by rw [bne, hsb]; rfl
          have hdl : decide ((ρ : Int) < (c : Int)) = true := decide_eq_true (by omega)
          clear hst s2 s3 u1 u2 hsb hs60 s1
          go_wp2_with fail
          refine HRk.out.mono ?_
          rintro e w3 ⟨rfl, hb3⟩
          have HB3 := hide (HBr.out.trans (hb3.mono HBr.out.size))
          clear hb3
          go_wp2_with fail
          refine (HSz.out _).mono ?_
          rintro e w' ⟨rfl, rfl⟩
          go_wp2_with fail
          refine (HNx.out _).mono ?_
          rintro e w' ⟨rfl, rfl⟩
          rcases hnx with ⟨x, x1, x2, x3, x4, x5, x6⟩ | ⟨x1, x2⟩
          · rw [x1]
            have HX := hide (show x < 2 ^ m ∧ rk m x = ρ + 1 ∧ num m x = k from ⟨x2, x4, x5⟩)
            have d1 : decide ((ρ : Int) + 1 < (c : Int)) = true := decide_eq_true (by omega)
            have d2 : ¬ (x : Int) ≤ (s : Int) := by omega
            clear x1 x2 x4 x5
            go_wp2_with fail
            go_roundw
            case rel => exact ⟨x, ρ + 1, by omega, rfl, by go_num, fun _ => HX.out, HB3.out⟩
            case measure => simp [intOf]; omega
          · rw [x1]
            have d1 : decide ((ρ : Int) + 1 < (c : Int)) = false := decide_eq_false (by omega)
            have X2 := hide x2
            clear x1 x2
            go_wp2_with fail
            go_roundw
            case rel => exact ⟨0, ρ + 1, by omega, rfl, by go_num, fun h => by have := X2.out; omega, HB3.out⟩
            case measure => simp [intOf]; omega
        · obtain rfl : ρ = c := by omega
          have hdl : decide ((ρ : Int) < (ρ : Int)) = false := decide_eq_false (by omega)
          go_wp2_with fail
          go_ret
          exact ⟨rfl, HB2.out.trans (HBr.out.mono HB2.out.size)⟩
end Go.Proofs.YtklkndnikcjbhaaDoor
