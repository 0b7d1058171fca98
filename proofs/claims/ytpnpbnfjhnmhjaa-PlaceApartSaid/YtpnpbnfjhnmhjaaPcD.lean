/-
  The document's own free spans; lists that are alike.
-/
import Derived.Test.YtpnpbnfjhnmhjaaPcC
namespace Go.Proofs.Ytpnpbnfjhnmhjaa
open Go.RowKit Go.Shelf
attribute [local go_sem] Oper.semAt_some
set_option linter.unusedVariables false
set_option linter.unusedSimpArgs false
set_option maxRecDepth 100000

theorem below_drew {B : Nat} {a w : World} (h : Below B a w) : Below B a w.drew := h.drew
set_option maxHeartbeats 2000000 in
theorem rints_same (l : List Int) (A B : Option Addr) (c d : Nat) (w : World) (hI : Ints w A l) (hJ : Ints w B l) (hl : l.length ≤ 1000) :
    Calls Try.prog 14 #[.slice A l.length c, .slice B l.length d] w fun e w' => e = .returned (.bool true) ∧ Below w.heap.size w w' := by
  have HI := hide (fun W (h : Below w.heap.size w W) => hI.of_below h (Nat.le_refl _))
  have HJ := hide (fun W (h : Below w.heap.size w W) => hJ.of_below h (Nat.le_refl _))
  obtain ⟨N, hN⟩ : ∃ N, N = l.length := ⟨_, rfl⟩
  have HN := hide hN
  rw [← hN] at hl ⊢
  clear hI hJ hN
  go_enter Try.func14, Try.ntmps14
  go_wp2_with fail
  go_loopw [5] (fun kv wr => ∃ k : Nat, k ≤ N ∧ kv = .int .i64 k ∧ Below w.heap.size w wr) (fun kv _ => N - (intOf kv).toNat)
  case atStart => exact ⟨0, Nat.zero_le _, rfl, Below.refl _ _⟩
  case round =>
    obtain ⟨k, hk, rfl, hb⟩ := hrel
    have HBr := hide (below_drew hb)
    by_cases hlt : k < N
    · have hil : k < l.length := by rw [← HN.out]; exact hlt
      obtain ⟨b, off, rfl, hbl, c0⟩ := (HI.out _ hb).at hil
      obtain ⟨b2, off2, rfl, hbl2, d0⟩ := (HJ.out _ hb).at hil
      generalize l.getD k 0 = z at *
      clear hil hb
      go_wp2_with fail
      go_region
      go_wp2_with fail
      go_roundw
      case rel => exact ⟨k + 1, by omega, by go_num, HBr.out⟩
      case measure => simp [intOf]; omega
    · obtain rfl : k = N := by omega
      have HB := hide hb
      clear hb
      go_wp2_with fail
      go_ret
      exact ⟨rfl, HB.out⟩
theorem fields_of_span : Try.prog.underlying 37 = some (.struct (Try.prog.fieldsOf 37)) := by kernel_rfl
theorem eq_span (a c a' c' : Int) (w : World) : (Op.equalIn 10000 37 (.agg #[.int .i64 a, .int .i64 c]) (.agg #[.int .i64 a', .int .i64 c'])).run Try.prog w = .ok (decide (a = a' ∧ c = c')) w := by
  rw [run_equalIn_struct w 9999 37 _ _ fields_of_span (by kernel_rfl)]
  simp [Program.fieldsOf, Try.underlying37, Op.eqFields, part, isAgg, go_sem]
  by_cases h1 : a = a' <;> by_cases h3 : c = c' <;> simp [h1, h3]
set_option maxHeartbeats 2000000 in
theorem rspans_same (l : List Ai) (A B : Option Addr) (c d : Nat) (w : World) (hI : Sps w A l) (hJ : Sps w B l) (hl : l.length ≤ 1000) :
    Calls Try.prog 15 #[.slice A l.length c, .slice B l.length d] w fun e w' => e = .returned (.bool true) ∧ Below w.heap.size w w' := by
  have HI := hide (fun W (h : Below w.heap.size w W) => hI.of_below h (Nat.le_refl _))
  have HJ := hide (fun W (h : Below w.heap.size w W) => hJ.of_below h (Nat.le_refl _))
  obtain ⟨N, hN⟩ : ∃ N, N = l.length := ⟨_, rfl⟩
  have HN := hide hN
  rw [← hN] at hl ⊢
  have heg : Try.prog.eqGuardType Try.prog.depth 37 = false := by kernel_rfl
  clear hI hJ hN
  go_enter Try.func15, Try.ntmps15
  go_wp2_with fail
  go_loopw [5] (fun kv wr => ∃ k : Nat, k ≤ N ∧ kv = .int .i64 k ∧ Below w.heap.size w wr) (fun kv _ => N - (intOf kv).toNat)
  case atStart => exact ⟨0, Nat.zero_le _, rfl, Below.refl _ _⟩
  case round =>
    obtain ⟨k, hk, rfl, hb⟩ := hrel
    have HBr := hide (below_drew hb)
    by_cases hlt : k < N
    · have hil : k < l.length := by rw [← HN.out]; exact hlt
      obtain ⟨b, off, rfl, hbl, c0, c1⟩ := (HI.out _ hb).at hil
      obtain ⟨b2, off2, rfl, hbl2, d0, d1⟩ := (HJ.out _ hb).at hil
      generalize l.getD k (0, 0) = z at *
      obtain ⟨F, G⟩ := z
      dsimp only at c0 c1 d0 d1
      have heq : ∀ W, (Op.equalIn 10000 37 (.agg #[.int .i64 F, .int .i64 G]) (.agg #[.int .i64 F, .int .i64 G])).run Try.prog W = .ok true W := fun W => by rw [eq_span]; simp
      clear hil hb
      go_wp2_with fail
      go_region
      go_wp2_with fail
      go_roundw
      case rel => exact ⟨k + 1, by omega, by go_num, HBr.out⟩
      case measure => simp [intOf]; omega
    · obtain rfl : k = N := by omega
      have HB := hide hb
      clear hb
      go_wp2_with fail
      go_ret
      exact ⟨rfl, HB.out⟩
end Go.Proofs.Ytpnpbnfjhnmhjaa
