/-
  RingNumbers of a long list; RingFalls' walk.
-/
import Derived.Test.YtmplioglihmkjaaRgJ
namespace Go.Proofs.Ytmplioglihmkjaa
open Go.RowKit Go.Shelf
set_option linter.unusedVariables false
set_option linter.unusedSimpArgs false

theorem numbers_big (n : Nat) (A : Option Addr) (c : Nat) (x0 x1 x2 x3 : Int) (W : World) (hbig : 100 < n) :
    Calls Try.prog 5 #[.slice A n c, .agg #[.int .i64 x0, .int .i64 x1, .int .i64 x2, .int .i64 x3]] W fun e w' => e = .returned (.bool true) ∧ Below W.heap.size W w' := by
  go_enter Try.func5, Try.ntmps5
  go_wp2_with fail
  go_ret
  exact ⟨rfl, bal W _⟩

theorem cl_whole {x a m : Int} (ha : 0 < a) (h : a ∣ m) : cl (x + m) a - cl x a = m / a := by
  obtain ⟨k, rfl⟩ := h
  rw [cl_add ha, Int.mul_ediv_cancel_left _ (by omega)]
  omega
theorem falls_whole {p o f m : Int} (hp : per p) (ho : num o) (hf : num f) (hm : num (f + m)) (hd : p ∣ m) (h0 : 0 ≤ m) : fallsF p o f (f + m) = (m / p, 0) := by
  have : cl (f + m - o) p - cl (f - o) p = m / p := by rw [show f + m - o = (f - o) + m by omega]; exact cl_whole (by have := hp.1; omega) hd
  unfold fallsF
  rw [if_pos ⟨hp, ho, hf, hm⟩, this, Int.max_eq_left (Int.ediv_nonneg h0 (by have := hp.1; omega))]

theorem falls_math {a b : Nat} (ha : 0 < a) (ha2 : a ≤ 1000) (hb : 0 < b) (hb2 : b ≤ 1000) :
    Nat.lcm a b ≤ 1000000 ∧ 0 < Nat.lcm a b ∧ Nat.gcd a b * Nat.lcm a b = a * b ∧ 0 < Nat.gcd a b ∧ Nat.gcd a b ≤ 1000 ∧ a % Nat.gcd a b = 0 ∧ b % Nat.gcd a b = 0 := by
  have h0 : Nat.lcm a b ≤ a * b := Nat.le_of_dvd (Nat.mul_pos ha hb) (Nat.lcm_dvd (Nat.dvd_mul_right a b) (Nat.dvd_mul_left b a))
  have h1 : a * b ≤ 1000 * 1000 := Nat.mul_le_mul ha2 hb2
  exact ⟨by omega, Nat.lcm_pos ha hb, Nat.gcd_mul_lcm a b, Nat.gcd_pos_of_pos_left _ ha, Nat.le_trans (Nat.gcd_le_left _ ha) ha2, Nat.mod_eq_zero_of_dvd (Nat.gcd_dvd_left a b), Nat.mod_eq_zero_of_dvd (Nat.gcd_dvd_right a b)⟩

set_option maxRecDepth 100000 in
set_option maxHeartbeats 4000000 in
theorem falls_walk (p q : Nat) (o f : Int) (hp : p < 65536) (hq : q < 65536) (ho : -32768 ≤ o ∧ o ≤ 32767) (hf : -32768 ≤ f ∧ f ≤ 32767) (w : World) :
    Calls Try.prog 9 #[.int .u16 p, .int .u16 q, .agg #[.int .i16 o, .int .i16 f]] w fun e w' => e = .returned (.bool true) ∧ Below w.heap.size w w' := by
  obtain ⟨a, hA⟩ : ∃ a, a = p % 1000 := ⟨_, rfl⟩
  obtain ⟨b, hB⟩ : ∃ b, b = q % 1000 := ⟨_, rfl⟩
  have m1 : (p : Int).tmod 1000 = (a : Int) := by rw [hA]; rfl
  have m2 : (p : Int) % 1000 = (a : Int) := by rw [hA]; rfl
  have m3 : (q : Int).tmod 1000 = (b : Int) := by rw [hB]; rfl
  have m4 : (q : Int) % 1000 = (b : Int) := by rw [hB]; rfl
  have ha : a < 1000 := by omega
  have hb : b < 1000 := by omega
  clear hA hB
  obtain ⟨g1, g2, g3, g4, g5, g6, g7⟩ := falls_math (a := 1 + a) (b := 1 + b) (by omega) (by omega) (by omega) (by omega)
  have dA : 1 + a ∣ Nat.lcm (1 + a) (1 + b) := Nat.dvd_lcm_left _ _
  have dB : 1 + b ∣ Nat.lcm (1 + a) (1 + b) := Nat.dvd_lcm_right _ _
  have HL := hide (fun V => lcm_at (1 + (a : Int)) (1 + (b : Int)) V)
  have HG := hide (fun V => gcd_at (1 + (a : Int)) (1 + (b : Int)) V)
  have eL : lcmF (1 + (a : Int)) (1 + (b : Int)) = (((Nat.lcm (1 + a) (1 + b) : Nat) : Int), (0 : Int)) := by
    have e1 : (1 + (a : Int)).natAbs = 1 + a := by omega
    have e2 : (1 + (b : Int)).natAbs = 1 + b := by omega
    unfold lcmF
    rw [e1, e2, if_pos ⟨by unfold per; omega, by unfold per; omega, by omega⟩]
  have eG : gcdF (1 + (a : Int)) (1 + (b : Int)) = ((Nat.gcd (1 + a) (1 + b) : Nat) : Int) := by
    have e1 : (1 + (a : Int)).natAbs = 1 + a := by omega
    have e2 : (1 + (b : Int)).natAbs = 1 + b := by omega
    unfold gcdF
    rw [e1, e2, if_pos ⟨by unfold num; omega, by unfold num; omega⟩]
  rw [eL] at HL
  rw [eG] at HG
  have hmul : (1 + a) * (1 + b) ≤ 1000 * 1000 := Nat.mul_le_mul (by omega) (by omega)
  generalize Nat.lcm (1 + a) (1 + b) = m at *
  generalize Nat.gcd (1 + a) (1 + b) = d at *
  clear eL eG
  have HF1 := hide (fun V => falls_at (1 + (a : Int)) o f (f + (1 + (a : Int))) V)
  have HF2 := hide (fun V => falls_at (m : Int) o f (f + (m : Int)) V)
  have HF3 := hide (fun V => falls_at (1 + (a : Int)) o f (f + (m : Int)) V)
  have HF4 := hide (fun V => falls_at (1 + (b : Int)) o f (f + (m : Int)) V)
  rw [falls_whole (by unfold per; omega) (by unfold num; omega) (by unfold num; omega) (by unfold num; omega) ⟨1, by omega⟩ (by omega), Int.ediv_self (by omega)] at HF1
  rw [falls_whole (by unfold per; omega) (by unfold num; omega) (by unfold num; omega) (by unfold num; omega) ⟨1, by omega⟩ (by omega), Int.ediv_self (by omega)] at HF2
  rw [falls_whole (by unfold per; omega) (by unfold num; omega) (by unfold num; omega) (by unfold num; omega) (by have := Int.natCast_dvd_natCast.2 dA; simpa using this) (by omega)] at HF3
  rw [falls_whole (by unfold per; omega) (by unfold num; omega) (by unfold num; omega) (by unfold num; omega) (by have := Int.natCast_dvd_natCast.2 dB; simpa using this) (by omega)] at HF4
  have n1 : (m : Int).tdiv (1 + (a : Int)) = (m : Int) / (1 + (a : Int)) := Int.tdiv_eq_ediv_of_nonneg (by omega)
  have n2 : (m : Int).tdiv (1 + (b : Int)) = (m : Int) / (1 + (b : Int)) := Int.tdiv_eq_ediv_of_nonneg (by omega)
  have r1 : 0 ≤ (m : Int) / (1 + (a : Int)) ∧ (m : Int) / (1 + (a : Int)) ≤ 1000000 := ⟨Int.ediv_nonneg (by omega) (by omega), Int.le_trans (Int.ediv_le_self _ (by omega)) (by omega)⟩
  have r2 : 0 ≤ (m : Int) / (1 + (b : Int)) ∧ (m : Int) / (1 + (b : Int)) ≤ 1000000 := ⟨Int.ediv_nonneg (by omega) (by omega), Int.le_trans (Int.ediv_le_self _ (by omega)) (by omega)⟩
  generalize hqa : (m : Int) / (1 + (a : Int)) = qa at *
  generalize hqb : (m : Int) / (1 + (b : Int)) = qb at *
  have k1 : (d : Int) * (m : Int) = (1 + (a : Int)) * (1 + (b : Int)) := by
    have := congrArg (fun n : Nat => (n : Int)) g3
    simpa using this
  have k2 : 0 ≤ (1 + (a : Int)) * (1 + (b : Int)) ∧ (1 + (a : Int)) * (1 + (b : Int)) ≤ 1000000 := by
    have e : (1 + (a : Int)) * (1 + (b : Int)) = (((1 + a) * (1 + b) : Nat) : Int) := by simp
    rw [e]; omega
  have k3 : (1 + (a : Int)).tmod (d : Int) = 0 := by
    have : (1 + (a : Int)).tmod (d : Int) = (((1 + a) % d : Nat) : Int) := rfl
    rw [this, g6]; rfl
  have k4 : (1 + (b : Int)).tmod (d : Int) = 0 := by
    have : (1 + (b : Int)).tmod (d : Int) = (((1 + b) % d : Nat) : Int) := rfl
    rw [this, g7]; rfl
  have k5 : (1 + (a : Int)) % (d : Int) = 0 := by
    have : (1 + (a : Int)) % (d : Int) = (((1 + a) % d : Nat) : Int) := rfl
    rw [this, g6]; rfl
  have k6 : (1 + (b : Int)) % (d : Int) = 0 := by
    have : (1 + (b : Int)) % (d : Int) = (((1 + b) % d : Nat) : Int) := rfl
    rw [this, g7]; rfl
  have hd0 : ((d : Int) == 0) = false := beq_eq_false_iff_ne.2 (by omega)
  obtain ⟨o1, o2⟩ := ho
  obtain ⟨f1, f2⟩ := hf
  generalize hP : (1 + (a : Int)) * (1 + (b : Int)) = P at *
  obtain ⟨p1, p2⟩ := k2
  obtain ⟨r11, r12⟩ := r1
  obtain ⟨r21, r22⟩ := r2
  clear dA dB g3 g6 g7 hmul
  unfold twoV at HL HF1 HF2 HF3 HF4
  dsimp only at HL HF1 HF2 HF3 HF4
  go_enter Try.func9, Try.ntmps9
  go_wp2_with fail
  refine (alive_at _).mono ?_
  rintro e w' ⟨rfl, rfl⟩
  have c0 : (w.alloc (.cells #[.int .i16 o, .int .i16 f] 62)).cell? ⟨w.heap.size, 0, none⟩ = some (.int .i16 o) := by rw [cell_of_row _ _ _ _ _ _ (heap_alloc_new w _)]; rfl
  have c1 : (w.alloc (.cells #[.int .i16 o, .int .i16 f] 62)).cell? ⟨w.heap.size, 1, none⟩ = some (.int .i16 f) := by rw [cell_of_row _ _ _ _ _ _ (heap_alloc_new w _)]; rfl
  have HB : Hid (Below w.heap.size w (w.alloc (.cells #[.int .i16 o, .int .i16 f] 62))) := bal w _
  generalize w.alloc (.cells #[.int .i16 o, .int .i16 f] 62) = V0 at *
  go_wp2_with fail
  go_region
  replace HB := hide (below_drew HB.out)
  clear c0 c1
  generalize V0.drew = V at *
  go_wp2_with fail
  refine (HF1.out _).mono ?_
  rintro e V1 ⟨rfl, hb1⟩
  replace HB := hide (HB.out.trans (hb1.mono HB.out.size))
  clear hb1
  try clear c0 c1
  go_wp2_with fail
  refine (HL.out _).mono ?_
  rintro e V2 ⟨rfl, hb1⟩
  replace HB := hide (HB.out.trans (hb1.mono HB.out.size))
  clear hb1
  try clear c0 c1
  go_wp2_with fail
  refine (HF2.out _).mono ?_
  rintro e V3 ⟨rfl, hb1⟩
  replace HB := hide (HB.out.trans (hb1.mono HB.out.size))
  clear hb1
  try clear c0 c1
  go_wp2_with fail
  refine (HF3.out _).mono ?_
  rintro e V4 ⟨rfl, hb1⟩
  replace HB := hide (HB.out.trans (hb1.mono HB.out.size))
  clear hb1
  try clear c0 c1
  go_wp2_with fail
  refine (HF4.out _).mono ?_
  rintro e V5 ⟨rfl, hb1⟩
  replace HB := hide (HB.out.trans (hb1.mono HB.out.size))
  clear hb1
  try clear c0 c1
  go_wp2_with fail
  refine (HG.out _).mono ?_
  rintro e V6 ⟨rfl, hb1⟩
  replace HB := hide (HB.out.trans (hb1.mono HB.out.size))
  clear hb1 HG
  go_wp2_with fail
  go_ret
  exact ⟨rfl, HB.out⟩
end Go.Proofs.Ytmplioglihmkjaa
