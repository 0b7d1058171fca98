/-
  What a set of small numbers is asked: its lowest one, its size, what it has.
-/
import Derived.Test.YtklkndnikcjbhaaDoorPl
import Derived.Test.YtklkndnikcjbhaaDoorBm
namespace Go.Proofs.YtklkndnikcjbhaaDoor
open Go.RowKit Go.Shelf
set_option linter.unusedVariables false
set_option linter.unusedSimpArgs false
set_option maxRecDepth 100000

/-- the library's table lies as its initialiser lays it -/
structure Tz (w : World) : Prop where
  lt : 0 < w.heap.size
  tab : ∀ j, j < 64 → w.cell? ⟨0, j, none⟩ = some (.int .u8 (Lib.deBruijn64tab.getD j 0))
theorem Tz.below {w w' : World} {B : Nat} (h : Tz w) (hb : Below B w w') (hB : 0 < B) : Tz w' :=
  ⟨Nat.lt_of_lt_of_le h.lt hb.size, fun j hj => (bcl hb hB).trans (h.tab j hj)⟩

theorem tz_key (x a : Nat) (hx : x < 18446744073709551616) (hx0 : x ≠ 0) (hlow : x &&& (18446744073709551616 - x) = a) :
    IntKind.u64.wrap (bits BinOp.and IntKind.u64 (x : Int) (IntKind.u64.wrap (-(x : Int))) * 285870213051353865) / 288230376151711744 = ((a * 285870213051353865 % 18446744073709551616 / 288230376151711744 : Nat) : Int) := by
  have e1 : IntKind.u64.wrap (-(x : Int)) = ((18446744073709551616 - x : Nat) : Int) := by rw [IntKind.wrap_u64]; omega
  rw [e1, u64_and_nat x _ hx (by omega), hlow, IntKind.wrap_u64]
  omega

set_option maxHeartbeats 1000000 in
theorem tz_core (x k idx : Nat) (w : World) (hx0 : ((x : Int) == 0) = false)
    (key : IntKind.u64.wrap (bits BinOp.and IntKind.u64 (x : Int) (IntKind.u64.wrap (-(x : Int))) * 285870213051353865) / 288230376151711744 = (idx : Int))
    (hi : idx < 64) (hk : k < 64) (hcell : w.cell? ⟨0, idx, none⟩ = some (.int .u8 k)) :
    Calls Tryd.prog 40 #[.int .u64 x] w fun e w' => e = .returned (.int .i64 k) ∧ w' = w := by
  go_enter Tryd.func40, Tryd.ntmps40
  go_wp2_with (simp only [key])
  go_ret
  exact ⟨rfl, rfl⟩
/-- **the lowest one** -/
theorem tz_at (x : Nat) (hx : x < 18446744073709551616) (hx0 : x ≠ 0) (w : World) (hT : Tz w) :
    Calls Tryd.prog 40 #[.int .u64 x] w fun e w' => e = .returned (.int .i64 (Lib.ctz 64 x)) ∧ w' = w := by
  obtain ⟨hlow, hk⟩ := Lib.lowest_bit 64 x hx0 hx
  obtain ⟨hi, htab⟩ := Lib.deBruijn64_at _ hk
  have hcell := hT.tab _ hi
  rw [htab] at hcell
  exact tz_core x _ _ w (by simp; omega) (tz_key x _ hx hx0 hlow) hi hk hcell

set_option maxHeartbeats 2000000 in
/-- **how many it has** -/
theorem pop_at (x : Nat) (hx : x < 18446744073709551616) (w : World) :
    Calls Tryd.prog 34 #[.int .u64 x] w fun e w' => e = .returned (.int .i64 (pc x : Nat)) ∧ w = w' := by
  obtain ⟨p1, hp1⟩ : ∃ p, p = x / 2 &&& 6148914691236517205 := ⟨_, rfl⟩
  obtain ⟨r1, hr1⟩ : ∃ p, p = x &&& 6148914691236517205 := ⟨_, rfl⟩
  obtain ⟨p2, hp2⟩ : ∃ p, p = (p1 + r1) / 4 &&& 3689348814741910323 := ⟨_, rfl⟩
  obtain ⟨r2, hr2⟩ : ∃ p, p = (p1 + r1) &&& 3689348814741910323 := ⟨_, rfl⟩
  obtain ⟨a3, h3⟩ : ∃ a3, a3 = (((p2 + r2) / 16 + (p2 + r2)) &&& 1085102592571150095) := ⟨_, rfl⟩
  obtain ⟨a6, h6⟩ : ∃ a6, a6 = a3 + a3 / 256 + (a3 + a3 / 256) / 65536 + (a3 + a3 / 256 + (a3 + a3 / 256) / 65536) / 4294967296 := ⟨_, rfl⟩
  obtain ⟨v1, v2, v3⟩ := steps x (p1 + r1) (p2 + r2) a3 (by rw [hp1, hr1]) (by rw [hp2, hr2]) h3
  obtain ⟨l1, l2⟩ := last_sum x (a3 + a3 / 256) (a3 + a3 / 256 + (a3 + a3 / 256) / 65536) a6 (by rw [v3]) rfl h6
  have hc : pc x = cnt 64 x := num_cnt 64 x
  have b1 : p1 ≤ 6148914691236517205 := by rw [hp1]; exact Nat.and_le_right
  have b2 : r1 ≤ 6148914691236517205 := by rw [hr1]; exact Nat.and_le_right
  have b3 : p2 ≤ 3689348814741910323 := by rw [hp2]; exact Nat.and_le_right
  have b4 : r2 ≤ 3689348814741910323 := by rw [hr2]; exact Nat.and_le_right
  have b5 : a3 ≤ 1085102592571150095 := by rw [h3]; exact Nat.and_le_right
  have e1 : bits .and .u64 ((x : Int) / 2) 6148914691236517205 = (p1 : Int) := by rw [hp1]; exact u64_and_nat (x / 2) 6148914691236517205 (by omega) (by omega)
  have e2 : bits .and .u64 (x : Int) 6148914691236517205 = (r1 : Int) := by rw [hr1]; exact u64_and_nat x 6148914691236517205 (by omega) (by omega)
  have e3 : bits .and .u64 (((p1 : Int) + (r1 : Int)) / 4) 3689348814741910323 = (p2 : Int) := by rw [hp2]; exact u64_and_nat ((p1 + r1) / 4) 3689348814741910323 (by omega) (by omega)
  have e4 : bits .and .u64 ((p1 : Int) + (r1 : Int)) 3689348814741910323 = (r2 : Int) := by rw [hr2]; exact u64_and_nat (p1 + r1) 3689348814741910323 (by omega) (by omega)
  have e5 : bits .and .u64 (((p2 : Int) + (r2 : Int)) / 16 + ((p2 : Int) + (r2 : Int))) 1085102592571150095 = (a3 : Int) := by rw [h3]; exact u64_and_nat ((p2 + r2) / 16 + (p2 + r2)) 1085102592571150095 (by omega) (by omega)
  have e6 : bits .and .i64 ((a3 : Int) + (a3 : Int) / 256 + ((a3 : Int) + (a3 : Int) / 256) / 65536 + ((a3 : Int) + (a3 : Int) / 256 + ((a3 : Int) + (a3 : Int) / 256) / 65536) / 4294967296) 127 = ((pc x : Nat) : Int) := by
    have := i64_mask (a6 : Int) 7 (by decide)
    rw [hc, ← l1, Int.natCast_emod]
    rw [show (a3 : Int) + (a3 : Int) / 256 + ((a3 : Int) + (a3 : Int) / 256) / 65536 + ((a3 : Int) + (a3 : Int) / 256 + ((a3 : Int) + (a3 : Int) / 256) / 65536) / 4294967296 = (a6 : Int) by rw [h6]; simp]
    exact this
  clear hp1 hr1 hp2 hr2 h3 h6 v1 v2 v3 l1 l2 hc
  go_enter Tryd.func34, Tryd.ntmps34
  go_wp2
  go_ret
  exact ⟨rfl, rfl⟩

theorem size_at (x : Nat) (hx : x < 18446744073709551616) (w : World) :
    Calls Tryd.prog 16 #[.int .u64 x] w fun e w' => e = .returned (.int .i64 (pc x : Nat)) ∧ w = w' := by
  go_enter Tryd.func16, Tryd.ntmps16
  go_wp2_with (go_at_call 34; refine (pop_at x hx _).mono ?_; rintro e w' ⟨rfl, rfl⟩)
  go_ret
  exact ⟨rfl, rfl⟩

def numB (i : Int) : Bool := decide (0 ≤ i ∧ i < 64)
theorem isNumber_at (i : Int) (w : World) :
    Calls Tryd.prog 35 #[.int .i64 i] w fun e w' => e = .returned (.bool (numB i)) ∧ w = w' := by
  by_cases h0 : 0 ≤ i
  · by_cases h1 : i < 64
    · have H : Hid (numB i = true) := decide_eq_true ⟨h0, h1⟩
      go_enter Tryd.func35, Tryd.ntmps35
      go_wp2
      go_ret
      exact ⟨by rw [H.out]; simp [h0, h1], rfl⟩
    · have H : Hid (numB i = false) := decide_eq_false fun h => h1 h.2
      go_enter Tryd.func35, Tryd.ntmps35
      go_wp2
      go_ret
      exact ⟨by rw [H.out]; simp [h0, h1], rfl⟩
  · have H : Hid (numB i = false) := decide_eq_false fun h => h0 h.1
    go_enter Tryd.func35, Tryd.ntmps35
    go_wp2
    go_ret
    exact ⟨by rw [H.out]; rfl, rfl⟩

/-- whether it has i -/
def hasB (s : Nat) (i : Int) : Bool := numB i && s.testBit i.toNat
theorem one_bit (s k : Nat) : (s / 2 ^ k % 2 = 1) ↔ s.testBit k = true := by rw [Nat.testBit_eq_decide_div_mod_eq]; simp
theorem has_at (s : Nat) (hs : s < 18446744073709551616) (i : Int) (w : World) :
    Calls Tryd.prog 17 #[.int .u64 s, .int .i64 i] w fun e w' => e = .returned (.bool (hasB s i)) ∧ w = w' := by
  by_cases h : 0 ≤ i ∧ i < 64
  · have hn : numB i = true := decide_eq_true h
    obtain ⟨h0, h1⟩ := h
    obtain ⟨k, rfl⟩ := Int.eq_ofNat_of_zero_le h0
    have hk : k < 64 := by omega
    have H : Hid (hasB s (k : Int) = decide (s / 2 ^ k % 2 = 1)) := by
      show (numB (k : Int) && s.testBit ((k : Int)).toNat) = _
      rw [hn, Int.toNat_natCast, Nat.testBit_eq_decide_div_mod_eq, Bool.true_and]
    have e1 : bits .and .u64 ((s : Int) / 2 ^ k) 1 = ((s / 2 ^ k % 2 : Nat) : Int) := by
      have h2 : s / 2 ^ k ≤ s := Nat.div_le_self _ _
      have := u64_and_nat (s / 2 ^ k) 1 (by omega) (by omega)
      rw [nat_mask1] at this
      rw [← this]
      simp
    have HE := hide (show ((s : Int) / 2 ^ k % 2 == 1) = decide (s / 2 ^ k % 2 = 1) from by
      have := nat_beq (s / 2 ^ k % 2) 1
      simpa using this)
    have HN := hide hn
    clear hn h0 h1
    go_enter Tryd.func17, Tryd.ntmps17
    go_wp2_with (go_at_call 35; refine (isNumber_at _ _).mono ?_; rintro e w' ⟨rfl, rfl⟩; rw [HN.out])
    go_ret
    exact ⟨by rw [H.out]; congr 2; simp; exact HE.out, rfl⟩
  · have hn : numB i = false := decide_eq_false h
    have H : Hid (hasB s i = false) := by show (numB i && _) = _; rw [hn]; rfl
    have HN := hide hn
    clear hn
    go_enter Tryd.func17, Tryd.ntmps17
    go_wp2_with (go_at_call 35; refine (isNumber_at _ _).mono ?_; rintro e w' ⟨rfl, rfl⟩; rw [HN.out])
    go_ret
    exact ⟨by rw [H.out]; rfl, rfl⟩

def majB (p q : Nat) : Bool := decide (2 * pc (p &&& q) > pc q)
theorem pc_le (x : Nat) : pc x ≤ 64 := by rw [pc_num]; exact num_le 64 x
theorem maj_at (p q : Nat) (hp : p < 18446744073709551616) (hq : q < 18446744073709551616) (w : World) :
    Calls Tryd.prog 18 #[.int .u64 p, .int .u64 q] w fun e w' => e = .returned (.bool (majB p q)) ∧ w = w' := by
  have e1 : bits .and .u64 (p : Int) (q : Int) = ((p &&& q : Nat) : Int) := u64_and_nat p q hp hq
  have hle : p &&& q ≤ p := Nat.and_le_left
  have c1 := pc_le (p &&& q); have c2 := pc_le q
  have H : Hid (majB p q = decide (2 * pc (p &&& q) > pc q)) := rfl
  have HS := hide (fun W => size_at (p &&& q) (by omega) W)
  have HQ := hide (fun W => size_at q hq W)
  generalize majB p q = r at *
  generalize p &&& q = x at *
  generalize pc x = n at *
  generalize pc q = m at *
  go_enter Tryd.func18, Tryd.ntmps18
  go_wp2_with fail
  refine (HS.out _).mono ?_
  rintro e w' ⟨rfl, rfl⟩
  go_wp2_with fail
  refine (HQ.out _).mono ?_
  rintro e w' ⟨rfl, rfl⟩
  go_wp2
  go_ret
  exact ⟨by rw [H.out]; congr 2; simp; omega, rfl⟩

def belowB (s : Nat) (n : Nat) : Bool := decide (s < 2 ^ n)
theorem isBelow_at (s : Nat) (hs : s < 18446744073709551616) (n : Nat) (hn : n ≤ 64) (w : World) :
    Calls Tryd.prog 37 #[.int .u64 s, .int .i64 n] w fun e w' => e = .returned (.bool (belowB s n)) ∧ w = w' := by
  have H : Hid (belowB s n = decide (s / 2 ^ n = 0)) := by
    show decide (s < 2 ^ n) = _
    rw [decide_eq_decide]
    exact (Nat.div_eq_zero_iff_lt (Nat.two_pow_pos n)).symm
  have HE := hide (show ((s : Int) / 2 ^ n == 0) = decide (s / 2 ^ n = 0) from by
    have := nat_beq (s / 2 ^ n) 0
    simpa using this)
  go_enter Tryd.func37, Tryd.ntmps37
  go_wp2
  go_ret
  exact ⟨by rw [H.out, ← HE.out]; rfl, rfl⟩
end Go.Proofs.YtklkndnikcjbhaaDoor
