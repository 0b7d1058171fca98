/-
  BitsOrder's walk.
-/
import Derived.Test.YtklkndnikcjbhaaDoorBtF
import Derived.Test.YtklkndnikcjbhaaDoorBtN
import Derived.Test.YtklkndnikcjbhaaDoorBtO
namespace Go.Proofs.YtklkndnikcjbhaaDoor
open Go.RowKit Go.Shelf
set_option linter.unusedVariables false
set_option linter.unusedSimpArgs false

theorem pc_60 {s : Nat} (hs : s < 2 ^ 60) : pc s = num 60 s := by
  rw [pc_num]
  have := (rk_up hs 4).2
  exact this
theorem rankV_of {s : Nat} (hs : s < 2 ^ 60) : rankV s = .tuple #[.int .u64 (rk 60 s : Nat), .int .i64 0] := if_pos hs
theorem unV_of {s : Nat} (hs : s < 2 ^ 60) : unV (pc s : Nat) (rk 60 s) = .tuple #[.int .u64 (s : Nat), .int .i64 0] := by
  have h1 := rk_lt 60 s
  have h2 := num_le 60 s
  rw [pc_60 hs]
  unfold unV
  rw [Int.toNat_natCast, if_neg (by omega), un_rk, Nat.mod_eq_of_lt hs]
theorem subV_of {n k : Nat} (hn : n ≤ 60) : subV n k = .tuple #[.int .u64 (ch n k : Nat), .int .i64 0] := by
  unfold subV
  rw [if_neg (by omega), Int.toNat_natCast, Int.toNat_natCast]
  by_cases h : n < k
  · rw [if_pos (by omega), ch_above h]; rfl
  · rw [if_neg (by omega)]
theorem below_iff {s m : Nat} (hs : s < 2 ^ 60) (hm : m ≤ 60) : s < 2 ^ m ↔ rk 60 s < ch m (num 60 s) := by
  obtain ⟨d, hd⟩ := Nat.le.dest hm
  constructor
  · intro h
    have := rk_up h d
    rw [hd] at this
    rw [this.1, this.2]
    exact rk_lt m s
  · intro h
    have := rk_back (m := m) (s := s) d (by rw [hd]; exact h)
    rw [hd, Nat.mod_eq_of_lt hs] at this
    exact this

set_option maxRecDepth 100000 in
set_option maxHeartbeats 8000000 in
theorem order_walk (s0 n0 : Nat) (hs0 : s0 < 18446744073709551616) (hn0 : n0 < 256) (w : World) (hT : Tz w) :
    Calls Tryd.prog 6 #[.int .u64 s0, .int .u8 n0] w fun e w' => e = .returned (.bool true) ∧ Below w.heap.size w w' := by
  obtain ⟨s, hs⟩ : ∃ s, s = s0 % 1152921504606846976 := ⟨_, rfl⟩
  obtain ⟨m, hm⟩ : ∃ m, m = n0 % 61 := ⟨_, rfl⟩
  have e0 : ((s0 : Int) % 1152921504606846976) = (s : Int) := by omega
  have e1 : ((n0 : Int) % 61) = (m : Int) := by omega
  have hs60 : s < 2 ^ 60 := by omega
  have hs64 : s < 18446744073709551616 := by omega
  have hm60 : m ≤ 60 := by omega
  have HA := hide (alive_at w hT)
  have HSz := hide (fun W => size_at s hs64 W)
  have HRk := hide (fun W (h : Tz W) => rank_at s hs64 W h)
  have HUn := hide (fun W => unrank_at (pc s : Nat) (rk 60 s) (by have := rk_lt 60 s; have := ch_64 (n := 60) (by decide) (num 60 s); omega) W)
  have HNx := hide (fun W => next_at s hs64 60 W)
  have HS60 := hide (fun W => sub_at 60 (pc s : Nat) W)
  have HSm := hide (fun W => sub_at m (pc s : Nat) W)
  have HT := hide hT
  rw [rankV_of hs60] at HRk
  rw [unV_of hs60] at HUn
  rw [show subV 60 (pc s : Nat) = .tuple #[.int .u64 (ch 60 (pc s) : Nat), .int .i64 0] from subV_of (n := 60) (by decide)] at HS60
  rw [subV_of hm60] at HSm
  have HBel := hide (show ((s : Int) / 2 ^ m == 0) = decide ((rk 60 s : Int) < (ch m (pc s) : Int)) from by
    have h1 := nat_beq (s / 2 ^ m) 0
    rw [show ((s : Int) / 2 ^ m == 0) = decide (s / 2 ^ m = 0) from by simpa using h1, decide_eq_decide, Nat.div_eq_zero_iff_lt (Nat.two_pow_pos m), below_iff hs60 hm60, pc_60 hs60]
    omega)
  have hk := pc_le s
  have hrl := rk_lt 60 s
  rw [← pc_60 hs60] at hrl
  have hcl := ch_64 (n := 60) (by decide) (pc s)
  have hcm := ch_64 (n := m) hm60 (pc s)
  rcases nextF_rk (n := 60) (by decide) hs60 with ⟨x, hx, hx60, hsx, hrx, hkx, hltx⟩ | ⟨hx, hlast⟩
  · have hx64 : x < 18446744073709551616 := by omega
    have HSx := hide (fun W => size_at x hx64 W)
    have HRx := hide (fun W (h : Tz W) => rank_at x hx64 W h)
    rw [rankV_of hx60, hrx] at HRx
    rw [pc_60 hx60, hkx, ← pc_60 hs60] at HSx
    rw [← pc_60 hs60] at hltx
    rw [show nextV s 60 = .tuple #[.int .u64 (x : Nat), .bool true] from by
      unfold nextV
      rw [if_neg (by decide), show (60 : Int).toNat = 60 from rfl, hx]] at HNx
    clear hx hrx hkx hT hs hm hs60 hx60
    generalize pc s = k at *
    generalize rk 60 s = r at *
    generalize ch 60 k = c at *
    generalize ch m k = cm at *
    go_enter Tryd.func6, Tryd.ntmps6
    go_wp2_with fail
    refine HA.out.mono ?_
    rintro e w1 ⟨rfl, hb1⟩
    have HT1 := hide (HT.out.below hb1 HT.out.lt)
    have HB1 := hide hb1
    clear hb1 HA HT
    go_wp2_with fail
    refine (HSz.out _).mono ?_
    rintro e w' ⟨rfl, rfl⟩
    go_wp2_with fail
    refine (HRk.out _ HT1.out).mono ?_
    rintro e w2 ⟨rfl, hb2⟩
    have HT2 := hide (HT1.out.below hb2 HT1.out.lt)
    have HB2 := hide (HB1.out.trans (hb2.mono HB1.out.size))
    clear hb2 HT1 HB1
    go_wp2_with fail
    refine (HUn.out _).mono ?_
    rintro e w3 ⟨rfl, hb3⟩
    have HT3 := hide (HT2.out.below hb3 HT2.out.lt)
    have HB3 := hide (HB2.out.trans (hb3.mono HB2.out.size))
    clear hb3 HT2 HB2
    go_wp2_with fail
    refine (HNx.out _).mono ?_
    rintro e w' ⟨rfl, rfl⟩
    go_wp2_with fail
    refine (HRx.out _ HT3.out).mono ?_
    rintro e w4 ⟨rfl, hb4⟩
    have HT4 := hide (HT3.out.below hb4 HT3.out.lt)
    have HB4 := hide (HB3.out.trans (hb4.mono HB3.out.size))
    clear hb4 HT3 HB3
    have q1 : ((r + 1 : Nat) : Int) = (r : Int) + 1 := rfl
    have q2 : ¬ (x : Int) ≤ (s : Int) := by omega
    have q3 : decide ((r : Int) + 1 < (c : Int)) = true := decide_eq_true (by omega)
    go_wp2_with fail
    refine (HSx.out _).mono ?_
    rintro e w' ⟨rfl, rfl⟩
    go_wp2_with fail
    refine (HS60.out _).mono ?_
    rintro e w5 ⟨rfl, hb5⟩
    have HB5 := hide (HB4.out.trans (hb5.mono HB4.out.size))
    clear hb5 HT4 HB4
    go_wp2_with fail
    refine (HSm.out _).mono ?_
    rintro e w6 ⟨rfl, hb6⟩
    have HB6 := hide (HB5.out.trans (hb6.mono HB5.out.size))
    clear hb6 HB5
    go_wp2_with fail
    go_ret
    exact ⟨by simp [HBel.out], HB6.out⟩
  · rw [show nextV s 60 = .tuple #[.int .u64 0, .bool false] from by
      unfold nextV
      rw [if_neg (by decide), show (60 : Int).toNat = 60 from rfl, hx]] at HNx
    rw [← pc_60 hs60] at hlast
    clear hx hT hs hm hs60
    generalize pc s = k at *
    generalize rk 60 s = r at *
    generalize ch 60 k = c at *
    generalize ch m k = cm at *
    have HLast := hide hlast
    clear hlast
    go_enter Tryd.func6, Tryd.ntmps6
    go_wp2_with fail
    refine HA.out.mono ?_
    rintro e w1 ⟨rfl, hb1⟩
    have HT1 := hide (HT.out.below hb1 HT.out.lt)
    have HB1 := hide hb1
    clear hb1 HA HT
    go_wp2_with fail
    refine (HSz.out _).mono ?_
    rintro e w' ⟨rfl, rfl⟩
    go_wp2_with fail
    refine (HRk.out _ HT1.out).mono ?_
    rintro e w2 ⟨rfl, hb2⟩
    have HT2 := hide (HT1.out.below hb2 HT1.out.lt)
    have HB2 := hide (HB1.out.trans (hb2.mono HB1.out.size))
    clear hb2 HT1 HB1
    go_wp2_with fail
    refine (HUn.out _).mono ?_
    rintro e w4 ⟨rfl, hb4⟩
    have HT4 := hide (HT2.out.below hb4 HT2.out.lt)
    have HB4 := hide (HB2.out.trans (hb4.mono HB2.out.size))
    clear hb4 HT2 HB2
    go_wp2_with fail
    refine (HNx.out _).mono ?_
    rintro e w' ⟨rfl, rfl⟩
    have q3 : decide ((r : Int) + 1 < (c : Int)) = false := decide_eq_false (by have := HLast.out; omega)
    go_wp2_with fail
    refine (HS60.out _).mono ?_
    rintro e w5 ⟨rfl, hb5⟩
    have HB5 := hide (HB4.out.trans (hb5.mono HB4.out.size))
    clear hb5 HT4 HB4
    go_wp2_with fail
    refine (HSm.out _).mono ?_
    rintro e w6 ⟨rfl, hb6⟩
    have HB6 := hide (HB5.out.trans (hb6.mono HB5.out.size))
    clear hb6 HB5
    go_wp2_with fail
    go_ret
    exact ⟨by simp [HBel.out], HB6.out⟩
end Go.Proofs.YtklkndnikcjbhaaDoor
