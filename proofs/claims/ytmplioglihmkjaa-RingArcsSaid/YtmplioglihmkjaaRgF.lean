/-
  Multiples, and what falls again and again: the program's own.
-/
import Derived.Test.YtmplioglihmkjaaRgD
namespace Go.Proofs.Ytmplioglihmkjaa
open Go.RowKit Go.Shelf
set_option linter.unusedVariables false
set_option linter.unusedSimpArgs false

theorem isNumber_at (z : Int) (w : World) :
    Calls Try.prog 47 #[.int .i64 z] w fun e w' => e = .returned (.bool (decide (num z))) ∧ w = w' := by
  have H0 : Hid (num z ↔ -2147483648 ≤ z ∧ z ≤ 2147483647) := Iff.rfl
  by_cases h0 : -2147483648 ≤ z
  · by_cases h1 : z ≤ 2147483647
    · have H : Hid (decide (num z) = true) := decide_eq_true ⟨h0, h1⟩
      go_enter Try.func47, Try.ntmps47
      go_wp2
      go_ret
      exact ⟨by rw [H.out]; simp [h0, h1], rfl⟩
    · have H : Hid (decide (num z) = false) := decide_eq_false fun h => h1 h.2
      go_enter Try.func47, Try.ntmps47
      go_wp2
      go_ret
      exact ⟨by rw [H.out]; simp [h0, h1], rfl⟩
  · have H : Hid (decide (num z) = false) := decide_eq_false fun h => h0 h.1
    go_enter Try.func47, Try.ntmps47
    go_wp2
    go_ret
    exact ⟨by rw [H.out]; rfl, rfl⟩
theorem isPeriod_at (z : Int) (w : World) :
    Calls Try.prog 45 #[.int .i64 z] w fun e w' => e = .returned (.bool (decide (per z))) ∧ w = w' := by
  by_cases h0 : 1 ≤ z
  · by_cases h1 : z ≤ 2147483647
    · have H : Hid (decide (per z) = true) := decide_eq_true ⟨h0, h1⟩
      go_enter Try.func45, Try.ntmps45
      go_wp2
      go_ret
      exact ⟨by rw [H.out]; simp [h0, h1], rfl⟩
    · have H : Hid (decide (per z) = false) := decide_eq_false fun h => h1 h.2
      go_enter Try.func45, Try.ntmps45
      go_wp2
      go_ret
      exact ⟨by rw [H.out]; simp [h0, h1], rfl⟩
  · have H : Hid (decide (per z) = false) := decide_eq_false fun h => h0 h.1
    go_enter Try.func45, Try.ntmps45
    go_wp2
    go_ret
    exact ⟨by rw [H.out]; rfl, rfl⟩

structure GcS (g : Nat) (x y : Int) : Prop where
  ax : -2147483648 ≤ x ∧ x ≤ 2147483648
  ay : -2147483648 ≤ y ∧ y ≤ 2147483648
  eq : Nat.gcd x.natAbs y.natAbs = g
theorem gcd_start {a b : Int} (ha : num a) (hb : num b) : GcS (Nat.gcd a.natAbs b.natAbs) a b := by
  unfold num at *
  exact ⟨by omega, by omega, rfl⟩
theorem GcS.step {g : Nat} {x y : Int} (h : GcS g x y) (hy : y ≠ 0) : GcS g y (x.tmod y) := by
  have h1 : (x.tmod y).natAbs < y.natAbs := by rw [Int.natAbs_tmod]; exact Nat.mod_lt _ (by omega)
  refine ⟨h.ay, by have := h.ay; omega, ?_⟩
  rw [Int.natAbs_tmod, Nat.gcd_comm, ← Nat.gcd_rec, Nat.gcd_comm]
  exact h.eq
theorem GcS.stop {g : Nat} {x y : Int} (h : GcS g x y) (hy : y = 0) : (x.natAbs : Int) = g := by
  have := h.eq
  subst hy
  rw [Int.natAbs_zero, Nat.gcd_zero_right] at this
  omega
theorem abs_max (a : Int) : max a (-a) = (a.natAbs : Int) := by omega
theorem below_drew {B : Nat} {a w : World} (h : Below B a w) : Below B a w.drew := below_drewN h 1
set_option maxHeartbeats 1000000 in
theorem gcd_at (a b : Int) (w : World) :
    Calls Try.prog 33 #[.int .i64 a, .int .i64 b] w fun e w' => e = .returned (.int .i64 (gcdF a b)) ∧ Below w.heap.size w w' := by
  by_cases ha : num a
  · by_cases hb : num b
    · have H : Hid (gcdF a b = ((Nat.gcd a.natAbs b.natAbs : Nat) : Int)) := if_pos ⟨ha, hb⟩
      have HA := hide (decide_eq_true ha)
      have HB := hide (decide_eq_true hb)
      have HS := hide (gcd_start ha hb)
      generalize (Nat.gcd a.natAbs b.natAbs) = g at *
      clear ha hb
      go_enter Try.func33, Try.ntmps33
      go_wp2_with fail
      refine (isNumber_at a _).mono ?_
      rintro e w' ⟨rfl, rfl⟩
      rw [HA.out]
      go_wp2_with fail
      refine (isNumber_at b _).mono ?_
      rintro e w' ⟨rfl, rfl⟩
      rw [HB.out]
      go_wp2_with fail
      clear HA HB
      go_loopw [0, 1] (fun u v wr => ∃ x y : Int, u = .int .i64 x ∧ v = .int .i64 y ∧ GcS g x y ∧ Below w.heap.size w wr) (fun _ v _ => (intOf v).natAbs)
      case atStart => exact ⟨a, b, rfl, rfl, HS.out, Below.refl _ _⟩
      case round =>
        obtain ⟨x, y, rfl, rfl, hs, hb⟩ := hrel
        have HBw := hide hb
        clear hb
        by_cases hy : y = 0
        · have hz : (y != 0) = false := by simp [hy]
          have HG := hide (hs.stop hy)
          have hs2 := hs.ax
          have hs3 := hs.ay
          have HM := hide (abs_max x)
          clear hs hy
          go_wp2_with fail
          · go_ret
            exact ⟨by rw [H.out]; exact ret_int (by have := HG.out; omega), HBw.out⟩
          · go_ret
            exact ⟨by rw [H.out]; exact ret_int (by have := HG.out; omega), HBw.out⟩
        · have hz : (y != 0) = true := by simp [hy]
          have HG := hide (hs.step hy)
          have hs2 := hs.ax
          have hs3 := hs.ay
          have hr := (hs.step hy).ay
          have hlt : (x.tmod y).natAbs < y.natAbs := by rw [Int.natAbs_tmod]; exact Nat.mod_lt _ (by omega)
          have hy0 : (y == 0) = false := beq_eq_false_iff_ne.2 hy
          clear hs
          go_wp2_with fail
          go_region
          go_roundw
          case rel =>
            repeat apply Exists.intro
            exact ⟨⟨y, x.tmod y, rfl, rfl, HG.out, below_drew HBw.out⟩, rfl⟩
          case measure => simpa [intOf] using hlt
    · have H : Hid (gcdF a b = 0) := if_neg fun h => hb h.2
      have HA := hide (decide_eq_true ha)
      have HB := hide (decide_eq_false hb)
      clear ha hb
      go_enter Try.func33, Try.ntmps33
      go_wp2_with fail
      refine (isNumber_at a _).mono ?_
      rintro e w' ⟨rfl, rfl⟩
      rw [HA.out]
      go_wp2_with fail
      refine (isNumber_at b _).mono ?_
      rintro e w' ⟨rfl, rfl⟩
      rw [HB.out]
      go_wp2_with fail
      go_ret
      exact ⟨by rw [H.out]; rfl, Below.refl _ _⟩
  · have H : Hid (gcdF a b = 0) := if_neg fun h => ha h.1
    have HA := hide (decide_eq_false ha)
    clear ha
    go_enter Try.func33, Try.ntmps33
    go_wp2_with fail
    refine (isNumber_at a _).mono ?_
    rintro e w' ⟨rfl, rfl⟩
    rw [HA.out]
    go_wp2_with fail
    go_ret
    exact ⟨by rw [H.out]; rfl, Below.refl _ _⟩

def twoV (p : Int × Int) : Value := .tuple #[.int .i64 p.1, .int .i64 p.2]
set_option maxHeartbeats 1000000 in
theorem lcm_at (a b : Int) (w : World) :
    Calls Try.prog 27 #[.int .i64 a, .int .i64 b] w fun e w' => e = .returned (twoV (lcmF a b)) ∧ Below w.heap.size w w' := by
  by_cases ha : per a
  · by_cases hb : per b
    · obtain ⟨a1, a2⟩ := id ha
      obtain ⟨b1, b2⟩ := id hb
      obtain ⟨A, rfl⟩ := Int.eq_ofNat_of_zero_le (show 0 ≤ a by omega)
      obtain ⟨B, rfl⟩ := Int.eq_ofNat_of_zero_le (show 0 ≤ b by omega)
      obtain ⟨l1, l2, l3⟩ := lcm_ways (a := A) (b := B) (by omega) (by omega)
      have H1 := hide (show Nat.lcm A B ≤ 2147483647 → lcmF A B = (((Nat.lcm A B : Nat) : Int), (0 : Int)) from fun h => if_pos ⟨ha, hb, h⟩)
      have H2 := hide (show 2147483647 < Nat.lcm A B → lcmF A B = (0, 2) from fun h => if_neg fun hc => by have := hc.2.2; rw [Int.natAbs_natCast, Int.natAbs_natCast] at this; omega)
      have hg : 0 < Nat.gcd A B := Nat.gcd_pos_of_pos_left _ (by omega)
      have HG := hide (fun W => gcd_at A B W)
      rw [show gcdF A B = ((Nat.gcd A B : Nat) : Int) from if_pos ⟨by unfold num; omega, by unfold num; omega⟩] at HG
      have HA := hide (decide_eq_true ha)
      have HB := hide (decide_eq_true hb)
      clear ha hb l2
      have hq : B / Nat.gcd A B ≤ B := Nat.div_le_self _ _
      generalize Nat.gcd A B = g at *
      generalize hL : Nat.lcm A B = L at *
      have HL1 := hide l1
      have HL3 := hide l3
      have hdiv : (B : Int).tdiv (g : Int) = ((B / g : Nat) : Int) := rfl
      have hdiv2 : (B : Int) / (g : Int) = ((B / g : Nat) : Int) := rfl
      generalize B / g = q at *
      have hdm : (2147483647 : Int).tdiv (A : Int) = ((2147483647 / A : Nat) : Int) := rfl
      have hdm2 : (2147483647 : Int) / (A : Int) = ((2147483647 / A : Nat) : Int) := rfl
      have HM : Hid ((A : Int) * (q : Int) = (L : Int)) := by show _ = _; rw [← l1]; rfl
      have hM2 : A * q = L := l1
      clear l1 l3 hL
      have hmb : 2147483647 / A ≤ 2147483647 := Nat.div_le_self _ _
      generalize 2147483647 / A = m at *
      have hg0 : ((g : Int) == 0) = false := beq_eq_false_iff_ne.2 (by omega)
      have hA0 : ((A : Int) == 0) = false := beq_eq_false_iff_ne.2 (by omega)
      by_cases hgt : m < q
      · have HV := hide (H2.out (HL3.out.1 hgt))
        clear hM2
        go_enter Try.func27, Try.ntmps27
        go_wp2_with fail
        refine (isPeriod_at A _).mono ?_
        rintro e w' ⟨rfl, rfl⟩
        rw [HA.out]
        go_wp2_with fail
        refine (isPeriod_at B _).mono ?_
        rintro e w' ⟨rfl, rfl⟩
        rw [HB.out]
        go_wp2_with fail
        refine (HG.out _).mono ?_
        rintro e w1 ⟨rfl, hb1⟩
        have HB1 := hide hb1
        clear hb1
        go_wp2_with fail
        go_ret2
        exact ⟨by rw [HV.out]; rfl, HB1.out⟩
      · have hle : L ≤ 2147483647 := by have := HL3.out; omega
        have HV := hide (H1.out hle)
        have hmul : (A : Int) * (q : Int) ≤ 2147483647 := by rw [HM.out]; omega
        have hmul0 : 0 ≤ (A : Int) * (q : Int) := by rw [HM.out]; omega
        go_enter Try.func27, Try.ntmps27
        go_wp2_with fail
        refine (isPeriod_at A _).mono ?_
        rintro e w' ⟨rfl, rfl⟩
        rw [HA.out]
        go_wp2_with fail
        refine (isPeriod_at B _).mono ?_
        rintro e w' ⟨rfl, rfl⟩
        rw [HB.out]
        go_wp2_with fail
        refine (HG.out _).mono ?_
        rintro e w1 ⟨rfl, hb1⟩
        have HB1 := hide hb1
        clear hb1
        go_wp2_with fail
        go_ret2
        exact ⟨by rw [HV.out, ← HM.out]; rfl, HB1.out⟩
    · have H : Hid (lcmF a b = (0, 2)) := if_neg fun h => hb h.2.1
      have HA := hide (decide_eq_true ha)
      have HB := hide (decide_eq_false hb)
      clear ha hb
      go_enter Try.func27, Try.ntmps27
      go_wp2_with fail
      refine (isPeriod_at a _).mono ?_
      rintro e w' ⟨rfl, rfl⟩
      rw [HA.out]
      go_wp2_with fail
      refine (isPeriod_at b _).mono ?_
      rintro e w' ⟨rfl, rfl⟩
      rw [HB.out]
      go_wp2_with fail
      go_ret2
      exact ⟨by rw [H.out]; rfl, Below.refl _ _⟩
  · have H : Hid (lcmF a b = (0, 2)) := if_neg fun h => ha h.1
    have HA := hide (decide_eq_false ha)
    clear ha
    go_enter Try.func27, Try.ntmps27
    go_wp2_with fail
    refine (isPeriod_at a _).mono ?_
    rintro e w' ⟨rfl, rfl⟩
    rw [HA.out]
    go_wp2_with fail
    go_ret2
    exact ⟨by rw [H.out]; rfl, Below.refl _ _⟩
end Go.Proofs.Ytmplioglihmkjaa
