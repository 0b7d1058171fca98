/-
  Numbers gone round within an end; how far two are apart.
-/
import Derived.Test.YtdfpeilflinmhaaDoorClkE
namespace Go.Proofs.YtdfpeilflinmhaaDoor
open Go.RowKit Go.Deep
set_option linter.unusedVariables false
set_option linter.unusedSimpArgs false

/-- the n-th of some numbers, gone round, within an end -/
def atF (L : List Int) (n : Nat) (most : Int) : Int := if L.length = 0 then 0 else (L.getD (n % L.length) 0).tmod (most + 1)
theorem neg_lt_tmod (z : Int) {m : Int} (h : 0 < m) : -m < z.tmod m := by
  have := Int.tmod_lt_of_pos (-z) h
  rw [Int.neg_tmod] at this
  omega
theorem atF_range (L : List Int) (n : Nat) {most : Int} (h : 0 ≤ most) : -most ≤ atF L n most ∧ atF L n most ≤ most := by
  unfold atF
  split
  · omega
  · have h1 := Int.tmod_lt_of_pos (L.getD (n % L.length) 0) (show 0 < most + 1 by omega)
    have h2 := neg_lt_tmod (L.getD (n % L.length) 0) (show 0 < most + 1 by omega)
    omega

set_option maxRecDepth 100000 in
set_option maxHeartbeats 1000000 in
theorem at_at (L : List Int) (A : Option Addr) (c : Nat) (n : Nat) (most : Int) (w : World) (hI : Ints w A L) (hl : L.length ≤ 9223372036854775807) (hn : n ≤ 1000) (hm : 0 ≤ most ∧ most ≤ 1099511627776) :
    Calls Tryd.prog 42 #[.slice A L.length c, .int .i64 n, .int .i64 most] w fun e w' => e = .returned (.int .i64 (atF L n most)) ∧ w' = w := by
  have hw1 : IntKind.i64.wrap (most + 1) = most + 1 := by rw [IntKind.wrap_i64]; omega
  by_cases h0 : L.length = 0
  · have HA : Hid (atF L n most = 0) := by show _ = _; unfold atF; rw [if_pos h0]
    rw [h0, HA.out]
    go_enter Tryd.func42, Tryd.ntmps42
    go_wp2
    go_ret
    exact ⟨rfl, rfl⟩
  · have hj : n % L.length < L.length := Nat.mod_lt _ (by omega)
    obtain ⟨b, off, rfl, hb⟩ : ∃ b off, A = some ⟨b, off, none⟩ ∧ w.cell? ⟨b, off + n % L.length, none⟩ = some (.int .i64 (L.getD (n % L.length) 0)) := by
      rcases hI.2 with h | ⟨b, off, h1, _, h2⟩
      · exact absurd h h0
      · exact ⟨b, off, h1, by simpa using h2 _ hj⟩
    have hz : I64 (L.getD (n % L.length) 0) := by
      rw [List.getD_eq_getElem?_getD, List.getElem?_eq_getElem hj]
      exact hI.1 _ (List.getElem_mem hj)
    have HA : Hid (atF L n most = (L.getD (n % L.length) 0).tmod (most + 1)) := by show _ = _; unfold atF; rw [if_neg h0]
    rw [HA.out]
    have hr : ((n : Int).tmod (L.length : Int)) = ((n % L.length : Nat) : Int) := by rw [Int.tmod_eq_emod_of_nonneg (by omega)]; rfl
    have h1 := Int.tmod_lt_of_pos (L.getD (n % L.length) 0) (show 0 < most + 1 by omega)
    have h2 := neg_lt_tmod (L.getD (n % L.length) 0) (show 0 < most + 1 by omega)
    generalize L.getD (n % L.length) 0 = z at *
    have hw2 : IntKind.i64.wrap (z.tmod (most + 1)) = z.tmod (most + 1) := by rw [IntKind.wrap_i64]; omega
    have hw3 : IntKind.i64.wrap ((n % L.length : Nat) : Int) = ((n % L.length : Nat) : Int) := by rw [IntKind.wrap_i64]; omega
    generalize n % L.length = j at *
    generalize L.length = len at *
    clear HA
    go_enter Tryd.func42, Tryd.ntmps42
    go_wp2
    go_ret
    exact ⟨rfl, rfl⟩

theorem far_at (a b : Int) (w : World) (ha : -2305843009213693952 ≤ a ∧ a ≤ 2305843009213693952) (hb : -2305843009213693952 ≤ b ∧ b ≤ 2305843009213693952) :
    Calls Tryd.prog 43 #[.int .i64 a, .int .i64 b] w fun e w' => e = .returned (.int .i64 (if a < b then b - a else a - b)) ∧ w' = w := by
  have hw1 : IntKind.i64.wrap (b - a) = b - a := by rw [IntKind.wrap_i64]; omega
  have hw2 : IntKind.i64.wrap (a - b) = a - b := by rw [IntKind.wrap_i64]; omega
  by_cases h : a < b
  · rw [if_pos h]
    go_enter Tryd.func43, Tryd.ntmps43
    go_wp2
    go_ret
    exact ⟨rfl, rfl⟩
  · rw [if_neg h]
    go_enter Tryd.func43, Tryd.ntmps43
    go_wp2
    go_ret
    exact ⟨rfl, rfl⟩
end Go.Proofs.YtdfpeilflinmhaaDoor
