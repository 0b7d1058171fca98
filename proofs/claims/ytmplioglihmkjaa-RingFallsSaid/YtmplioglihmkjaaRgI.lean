/-
  Multiples, and what falls again and again: the document's own.
-/
import Derived.Test.YtmplioglihmkjaaRgH
namespace Go.Proofs.Ytmplioglihmkjaa
open Go.RowKit Go.Shelf
set_option linter.unusedVariables false
set_option linter.unusedSimpArgs false

theorem small_at (z : Int) (w : World) :
    Calls Try.prog 50 #[.int .i64 z] w fun e w' => e = .returned (.bool (decide (num z))) ∧ w = w' := by
  by_cases h0 : -2147483648 ≤ z
  · by_cases h1 : z ≤ 2147483647
    · have H : Hid (decide (num z) = true) := decide_eq_true ⟨h0, h1⟩
      go_enter Try.func50, Try.ntmps50
      go_wp2
      go_ret
      exact ⟨by rw [H.out]; simp [h0, h1], rfl⟩
    · have H : Hid (decide (num z) = false) := decide_eq_false fun h => h1 h.2
      go_enter Try.func50, Try.ntmps50
      go_wp2
      go_ret
      exact ⟨by rw [H.out]; simp [h0, h1], rfl⟩
  · have H : Hid (decide (num z) = false) := decide_eq_false fun h => h0 h.1
    go_enter Try.func50, Try.ntmps50
    go_wp2
    go_ret
    exact ⟨by rw [H.out]; rfl, rfl⟩

set_option maxHeartbeats 2000000 in
theorem rgcd_at (a b : Int) (w : World) :
    Calls Try.prog 34 #[.int .i64 a, .int .i64 b] w fun e w' => e = .returned (.int .i64 (gcdF a b)) ∧ w = w' := by
  by_cases hc : num a ∧ num b
  · obtain ⟨ha, hb⟩ := hc
    have H : Hid (gcdF a b = ((Nat.gcd a.natAbs b.natAbs : Nat) : Int)) := if_pos ⟨ha, hb⟩
    have HA := hide (decide_eq_true ha)
    have HB := hide (decide_eq_true hb)
    obtain ⟨a1, a2⟩ := ha
    obtain ⟨b1, b2⟩ := hb
    have HS := hide (eu_start (a := a.natAbs) (b := b.natAbs) (by omega) (by omega))
    have HAa := hide (show 0 ≤ a → a = (a.natAbs : Int) from fun h => by omega)
    have HAn := hide (show a < 0 → -a = (a.natAbs : Int) from fun h => by omega)
    have HBa := hide (show 0 ≤ b → b = (b.natAbs : Int) from fun h => by omega)
    have HBn := hide (show b < 0 → -b = (b.natAbs : Int) from fun h => by omega)
    have key : ∀ (X Y : Nat) (K : Act → World → Prop), True := fun _ _ _ => trivial
    generalize hX : a.natAbs = X at *
    generalize hY : b.natAbs = Y at *
    generalize gcdF a b = G at *
    clear hX hY key
    go_enter Try.func34, Try.ntmps34
    go_wp2_with fail
    refine (small_at a _).mono ?_
    rintro e w' ⟨rfl, rfl⟩
    rw [HA.out]
    go_wp2_with fail
    refine (small_at b _).mono ?_
    rintro e w' ⟨rfl, rfl⟩
    rw [HB.out]
    by_cases ha0 : a < 0
    · have e1 := HAn.out ha0
      by_cases hb0 : b < 0
      · have e2 := HBn.out hb0
        go_wp2_with fail
        go_loop [0, 1, 7, 8] (fun u v kv x => ∃ k p q : Nat, k ≤ 100 ∧ u = .int .i64 p ∧ v = .int .i64 q ∧ kv = .int .i64 k ∧ Eu k p q ∧ Nat.gcd p q = Nat.gcd X Y) (fun _ _ kv _ => 100 - (intOf kv).toNat)
        case atStart => exact ⟨0, X, Y, by omega, rfl, rfl, rfl, HS.out, rfl⟩
        case round =>
          obtain ⟨k, p, q, hk, rfl, rfl, rfl, hE, hG⟩ := hrel
          have HE := hide hE
          have HG := hide hG
          by_cases hq : q = 0
          · have HV := hide (show G = (p : Int) from by rw [H.out, ← hG, hq, Nat.gcd_zero_right])
            subst hq
            clear hE hG
            by_cases hk1 : k < 100
            · go_wp2_with fail
              go_ret
              exact ⟨by rw [HV.out]; rfl, rfl⟩
            · go_wp2_with fail
              go_ret
              exact ⟨by rw [HV.out]; rfl, rfl⟩
          · have hk1 : k < 100 := by
              apply Nat.lt_of_not_le
              intro h
              obtain rfl : k = 100 := by omega
              exact hq (eu_end hE)
            have hq0 : 0 < q := by omega
            have HE2 := hide (eu_step hE hq0)
            have HG2 := hide (show Nat.gcd q (p % q) = Nat.gcd X Y from by rw [← hG, Nat.gcd_comm, ← Nat.gcd_rec, Nat.gcd_comm])
            have hm1 : (p : Int).tmod (q : Int) = ((p % q : Nat) : Int) := rfl
            have hm2 : (p : Int) % (q : Int) = ((p % q : Nat) : Int) := rfl
            have hp1 := hE.1
            have hp2 := hE.2.1
            have hlt := Nat.mod_lt p hq0
            have hz : ((q : Int) == 0) = false := beq_eq_false_iff_ne.2 (by omega)
            generalize p % q = r at *
            clear hE hG
            go_wp2_with fail
            go_round
            case rel => exact ⟨k + 1, q, r, by omega, rfl, rfl, by go_num, HE2.out, HG2.out⟩
            case measure => simp [intOf]; omega
      · obtain rfl : b = (Y : Int) := HBa.out (by omega)
        go_wp2_with fail
        go_loop [0, 1, 7, 8] (fun u v kv x => ∃ k p q : Nat, k ≤ 100 ∧ u = .int .i64 p ∧ v = .int .i64 q ∧ kv = .int .i64 k ∧ Eu k p q ∧ Nat.gcd p q = Nat.gcd X Y) (fun _ _ kv _ => 100 - (intOf kv).toNat)
        case atStart => exact ⟨0, X, Y, by omega, rfl, rfl, rfl, HS.out, rfl⟩
        case round =>
          obtain ⟨k, p, q, hk, rfl, rfl, rfl, hE, hG⟩ := hrel
          have HE := hide hE
          have HG := hide hG
          by_cases hq : q = 0
          · have HV := hide (show G = (p : Int) from by rw [H.out, ← hG, hq, Nat.gcd_zero_right])
            subst hq
            clear hE hG
            by_cases hk1 : k < 100
            · go_wp2_with fail
              go_ret
              exact ⟨by rw [HV.out]; rfl, rfl⟩
            · go_wp2_with fail
              go_ret
              exact ⟨by rw [HV.out]; rfl, rfl⟩
          · have hk1 : k < 100 := by
              apply Nat.lt_of_not_le
              intro h
              obtain rfl : k = 100 := by omega
              exact hq (eu_end hE)
            have hq0 : 0 < q := by omega
            have HE2 := hide (eu_step hE hq0)
            have HG2 := hide (show Nat.gcd q (p % q) = Nat.gcd X Y from by rw [← hG, Nat.gcd_comm, ← Nat.gcd_rec, Nat.gcd_comm])
            have hm1 : (p : Int).tmod (q : Int) = ((p % q : Nat) : Int) := rfl
            have hm2 : (p : Int) % (q : Int) = ((p % q : Nat) : Int) := rfl
            have hp1 := hE.1
            have hp2 := hE.2.1
            have hlt := Nat.mod_lt p hq0
            have hz : ((q : Int) == 0) = false := beq_eq_false_iff_ne.2 (by omega)
            generalize p % q = r at *
            clear hE hG
            go_wp2_with fail
            go_round
            case rel => exact ⟨k + 1, q, r, by omega, rfl, rfl, by go_num, HE2.out, HG2.out⟩
            case measure => simp [intOf]; omega
    · obtain rfl : a = (X : Int) := HAa.out (by omega)
      by_cases hb0 : b < 0
      · have e2 := HBn.out hb0
        go_wp2_with fail
        go_loop [0, 1, 7, 8] (fun u v kv x => ∃ k p q : Nat, k ≤ 100 ∧ u = .int .i64 p ∧ v = .int .i64 q ∧ kv = .int .i64 k ∧ Eu k p q ∧ Nat.gcd p q = Nat.gcd X Y) (fun _ _ kv _ => 100 - (intOf kv).toNat)
        case atStart => exact ⟨0, X, Y, by omega, rfl, rfl, rfl, HS.out, rfl⟩
        case round =>
          obtain ⟨k, p, q, hk, rfl, rfl, rfl, hE, hG⟩ := hrel
          have HE := hide hE
          have HG := hide hG
          by_cases hq : q = 0
          · have HV := hide (show G = (p : Int) from by rw [H.out, ← hG, hq, Nat.gcd_zero_right])
            subst hq
            clear hE hG
            by_cases hk1 : k < 100
            · go_wp2_with fail
              go_ret
              exact ⟨by rw [HV.out]; rfl, rfl⟩
            · go_wp2_with fail
              go_ret
              exact ⟨by rw [HV.out]; rfl, rfl⟩
          · have hk1 : k < 100 := by
              apply Nat.lt_of_not_le
              intro h
              obtain rfl : k = 100 := by omega
              exact hq (eu_end hE)
            have hq0 : 0 < q := by omega
            have HE2 := hide (eu_step hE hq0)
            have HG2 := hide (show Nat.gcd q (p % q) = Nat.gcd X Y from by rw [← hG, Nat.gcd_comm, ← Nat.gcd_rec, Nat.gcd_comm])
            have hm1 : (p : Int).tmod (q : Int) = ((p % q : Nat) : Int) := rfl
            have hm2 : (p : Int) % (q : Int) = ((p % q : Nat) : Int) := rfl
            have hp1 := hE.1
            have hp2 := hE.2.1
            have hlt := Nat.mod_lt p hq0
            have hz : ((q : Int) == 0) = false := beq_eq_false_iff_ne.2 (by omega)
            generalize p % q = r at *
            clear hE hG
            go_wp2_with fail
            go_round
            case rel => exact ⟨k + 1, q, r, by omega, rfl, rfl, by go_num, HE2.out, HG2.out⟩
            case measure => simp [intOf]; omega
      · obtain rfl : b = (Y : Int) := HBa.out (by omega)
        go_wp2_with fail
        go_loop [0, 1, 7, 8] (fun u v kv x => ∃ k p q : Nat, k ≤ 100 ∧ u = .int .i64 p ∧ v = .int .i64 q ∧ kv = .int .i64 k ∧ Eu k p q ∧ Nat.gcd p q = Nat.gcd X Y) (fun _ _ kv _ => 100 - (intOf kv).toNat)
        case atStart => exact ⟨0, X, Y, by omega, rfl, rfl, rfl, HS.out, rfl⟩
        case round =>
          obtain ⟨k, p, q, hk, rfl, rfl, rfl, hE, hG⟩ := hrel
          have HE := hide hE
          have HG := hide hG
          by_cases hq : q = 0
          · have HV := hide (show G = (p : Int) from by rw [H.out, ← hG, hq, Nat.gcd_zero_right])
            subst hq
            clear hE hG
            by_cases hk1 : k < 100
            · go_wp2_with fail
              go_ret
              exact ⟨by rw [HV.out]; rfl, rfl⟩
            · go_wp2_with fail
              go_ret
              exact ⟨by rw [HV.out]; rfl, rfl⟩
          · have hk1 : k < 100 := by
              apply Nat.lt_of_not_le
              intro h
              obtain rfl : k = 100 := by omega
              exact hq (eu_end hE)
            have hq0 : 0 < q := by omega
            have HE2 := hide (eu_step hE hq0)
            have HG2 := hide (show Nat.gcd q (p % q) = Nat.gcd X Y from by rw [← hG, Nat.gcd_comm, ← Nat.gcd_rec, Nat.gcd_comm])
            have hm1 : (p : Int).tmod (q : Int) = ((p % q : Nat) : Int) := rfl
            have hm2 : (p : Int) % (q : Int) = ((p % q : Nat) : Int) := rfl
            have hp1 := hE.1
            have hp2 := hE.2.1
            have hlt := Nat.mod_lt p hq0
            have hz : ((q : Int) == 0) = false := beq_eq_false_iff_ne.2 (by omega)
            generalize p % q = r at *
            clear hE hG
            go_wp2_with fail
            go_round
            case rel => exact ⟨k + 1, q, r, by omega, rfl, rfl, by go_num, HE2.out, HG2.out⟩
            case measure => simp [intOf]; omega
  · have H : Hid (gcdF a b = 0) := if_neg hc
    have HA : Hid (decide (num a) = false ∨ (decide (num a) = true ∧ decide (num b) = false)) := by
      show _ ∨ _
      by_cases ha : num a
      · exact .inr ⟨decide_eq_true ha, decide_eq_false fun h => hc ⟨ha, h⟩⟩
      · exact .inl (decide_eq_false ha)
    clear hc
    go_enter Try.func34, Try.ntmps34
    go_wp2_with fail
    refine (small_at a _).mono ?_
    rintro e w' ⟨rfl, rfl⟩
    go_wp2_with fail
    refine (small_at b _).mono ?_
    rintro e w' ⟨rfl, rfl⟩
    generalize decide (num a) = p at *
    generalize decide (num b) = q at *
    rcases HA.out with rfl | ⟨rfl, rfl⟩
    · go_wp2_with fail
      go_ret
      exact ⟨by rw [H.out]; rfl, rfl⟩
    · go_wp2_with fail
      go_ret
      exact ⟨by rw [H.out]; rfl, rfl⟩

set_option maxHeartbeats 2000000 in
theorem rlcm_at (a b : Int) (w : World) :
    Calls Try.prog 28 #[.int .i64 a, .int .i64 b] w fun e w' => e = .returned (twoV (lcmF a b)) ∧ w = w' := by
  by_cases ha : per a
  · by_cases hb : per b
    · obtain ⟨a1, a2⟩ := id ha
      obtain ⟨b1, b2⟩ := id hb
      obtain ⟨A, rfl⟩ := Int.eq_ofNat_of_zero_le (show 0 ≤ a by omega)
      obtain ⟨B, rfl⟩ := Int.eq_ofNat_of_zero_le (show 0 ≤ b by omega)
      obtain ⟨l1, l2, l3⟩ := lcm_ways (a := A) (b := B) (by omega) (by omega)
      have H1 := hide (show Nat.lcm A B ≤ 2147483647 → lcmF A B = (((Nat.lcm A B : Nat) : Int), (0 : Int)) from fun h => if_pos ⟨ha, hb, h⟩)
      have H2 := hide (show 2147483647 < Nat.lcm A B → lcmF A B = (0, 2) from fun h => if_neg fun hc => by have := hc.2.2; rw [Int.natAbs_natCast, Int.natAbs_natCast] at this; omega)
      have hg : 0 < Nat.gcd A B := Nat.gcd_pos_of_pos_left _ (by omega)
      have HG := hide (fun W => rgcd_at A B W)
      rw [show gcdF A B = ((Nat.gcd A B : Nat) : Int) from if_pos ⟨by unfold num; omega, by unfold num; omega⟩] at HG
      have hq : A / Nat.gcd A B ≤ A := Nat.div_le_self _ _
      have hmx : A / Nat.gcd A B * B ≤ 2147483647 * 2147483647 := Nat.mul_le_mul (by omega) (by omega)
      clear ha hb l1 l3
      generalize Nat.gcd A B = g at *
      generalize hL : Nat.lcm A B = L at *
      have hdiv : (A : Int).tdiv (g : Int) = ((A / g : Nat) : Int) := rfl
      have hdiv2 : (A : Int) / (g : Int) = ((A / g : Nat) : Int) := rfl
      generalize A / g = q at *
      have hM : (q : Int) * (B : Int) = (L : Int) := by rw [← l2]; rfl
      rw [l2] at hmx
      clear l2 hL
      have hg0 : ((g : Int) == 0) = false := beq_eq_false_iff_ne.2 (by omega)
      by_cases hgt : 2147483647 < L
      · have HV := hide (H2.out hgt)
        go_enter Try.func28, Try.ntmps28
        go_wp2_with fail
        refine (HG.out _).mono ?_
        rintro e w' ⟨rfl, rfl⟩
        go_wp2_with fail
        go_ret2
        exact ⟨by rw [HV.out]; rfl, rfl⟩
      · have HV := hide (H1.out (by omega))
        go_enter Try.func28, Try.ntmps28
        go_wp2_with fail
        refine (HG.out _).mono ?_
        rintro e w' ⟨rfl, rfl⟩
        go_wp2_with fail
        go_ret2
        exact ⟨by rw [HV.out]; rfl, rfl⟩
    · have H : Hid (lcmF a b = (0, 2)) := if_neg fun h => hb h.2.1
      obtain ⟨a1, a2⟩ := id ha
      have hb' : b < 1 ∨ 2147483647 < b := by unfold per at hb; omega
      clear ha hb
      rcases hb' with hb' | hb'
      · go_enter Try.func28, Try.ntmps28
        go_wp2_with fail
        go_ret2
        exact ⟨by rw [H.out]; rfl, rfl⟩
      · go_enter Try.func28, Try.ntmps28
        go_wp2_with fail
        go_ret2
        exact ⟨by rw [H.out]; rfl, rfl⟩
  · have H : Hid (lcmF a b = (0, 2)) := if_neg fun h => ha h.1
    have ha' : a < 1 ∨ 2147483647 < a := by unfold per at ha; omega
    clear ha
    rcases ha' with ha' | ha'
    · go_enter Try.func28, Try.ntmps28
      go_wp2_with fail
      go_ret2
      exact ⟨by rw [H.out]; rfl, rfl⟩
    · by_cases hb1 : b < 1
      · go_enter Try.func28, Try.ntmps28
        go_wp2_with fail
        go_ret2
        exact ⟨by rw [H.out]; rfl, rfl⟩
      · go_enter Try.func28, Try.ntmps28
        go_wp2_with fail
        go_ret2
        exact ⟨by rw [H.out]; rfl, rfl⟩
end Go.Proofs.Ytmplioglihmkjaa
