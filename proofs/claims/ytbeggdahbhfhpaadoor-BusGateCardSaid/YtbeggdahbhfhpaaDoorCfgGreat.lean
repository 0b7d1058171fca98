/-
  Whether a configuration's tables are greater than the statements go through: what Great tells.
-/
import Derived.Test.YtbeggdahbhfhpaaDoorCfgRef
namespace Go.Proofs.YtbeggdahbhfhpaaDoor
open Go.RowKit Go.Deep
set_option linter.unusedVariables false

/-- how long the first k of some are together -/
def sumTo (f : Nat → Nat) : Nat → Nat
  | 0 => 0
  | k + 1 => sumTo f k + f k
theorem sumTo_le (f : Nat → Nat) (m : Nat) (h : ∀ i, f i ≤ m) : ∀ k, sumTo f k ≤ k * m
  | 0 => by simp [sumTo]
  | k + 1 => by have := sumTo_le f m h k; have := h k; simp only [sumTo, Nat.succ_mul]; omega
theorem sumTo_one (f : Nat → Nat) {i k : Nat} (h : i < k) : f i ≤ sumTo f k := by
  induction k with
  | zero => omega
  | succ k ih =>
    simp only [sumTo]
    rcases Nat.lt_succ_iff_lt_or_eq.1 h with h1 | rfl
    · have := ih h1; omega
    · omega

/-- how long a row, and a link's list, are -/
def rowLen (c : Conf) (i : Nat) : Nat := (c.windows.getD i []).length
def destLen (c : Conf) (i : Nat) : Nat := (c.links.getD i default).dests.length

/-- how many numbers the tables have that count -/
def bulk (c : Conf) : Nat := c.owners.length + c.windows.length + sumTo (rowLen c) (min c.windows.length 100) + sumTo (destLen c) (min c.links.length 100)
def great (c : Conf) : Bool := decide (1000 < bulk c) || decide (100 < c.parts.length) || decide (100 < c.ports.length) || decide (100 < c.links.length)

set_option maxHeartbeats 2000000 in
theorem great_any (c : Conf) (d : Ad) (w : World) (h : ConfAt w c d) (hs : Borne c) :
    Calls Tryd.prog 11 #[c.val d] w fun e w' => e = .returned (.bool (great c)) ∧ Below w.heap.size w w' := by
  unfold Conf.val
  have hW := h.windows
  have hL := h.links
  have b1 := hs.owners
  have b2 := hs.windows
  have b3 := hs.links
  have b4 := hs.parts
  have b5 := hs.ports
  have HR : Hid (∀ k, rowLen c k ≤ 281474976710656) := hs.row
  have HD : Hid (∀ k, destLen c k ≤ 281474976710656) := hs.dests
  have HG : Hid (great c = (decide (1000 < bulk c) || decide (100 < c.parts.length) || decide (100 < c.ports.length) || decide (100 < c.links.length))) := rfl
  have HB : Hid (bulk c = c.owners.length + c.windows.length + sumTo (rowLen c) (min c.windows.length 100) + sumTo (destLen c) (min c.links.length 100)) := rfl
  generalize great c = g at HG ⊢
  generalize bulk c = u at HG HB
  clear h hs
  go_enter Tryd.func11, Tryd.ntmps11
  go_wp2
  go_loop [3, 4] (fun n i => ∃ k : Nat, k ≤ c.windows.length ∧ k ≤ 100 ∧ i = .int .i64 k ∧ n = .int .i64 ((c.owners.length + c.windows.length + sumTo (rowLen c) k : Nat) : Int)) (fun _ i => c.windows.length - (intOf i).toNat)
  case atStart => exact ⟨0, by omega, by omega, rfl, rfl⟩
  case round =>
    obtain ⟨k, hk, hk1, rfl, rfl⟩ := hrel
    have hsum := sumTo_le (rowLen c) _ HR.out k
    generalize hS : sumTo (rowLen c) k = S at hsum
    have hS2 : S ≤ 100 * 281474976710656 := Nat.le_trans hsum (Nat.mul_le_mul_right _ hk1)
    have hsum := 0
    by_cases hlt : k < c.windows.length ∧ k < 100
    · obtain ⟨h1, h2⟩ := hlt
      obtain ⟨b, off, Ai, ci, hA, hb, hc, hl, hm, _⟩ := hW.at h1
      rw [show (c.windows.getD k []).length = rowLen c k from rfl] at hc hl
      have hr := HR.out k
      have HS : Hid (sumTo (rowLen c) (k + 1) = S + rowLen c k) := by show _ = _; simp only [sumTo, hS]
      clear hW hL hS
      generalize rowLen c k = x at hc hl hr HS
      go_wp2
      go_round
      case rel => exact ⟨k + 1, by omega, by omega, by go_num, by rw [HS.out]; go_num⟩
      case measure => simp [intOf]; omega
    · obtain ⟨m, rfl⟩ : ∃ m, m = min c.windows.length 100 := ⟨_, rfl⟩
      have hkm : k = min c.windows.length 100 := by omega
      have HS : Hid (sumTo (rowLen c) (min c.windows.length 100) = S) := by show _ = _; rw [← hkm, hS]
      clear hW hS
      rw [HS.out] at HB
      have hk2 : k = c.windows.length ∨ (k = 100 ∧ 100 < c.windows.length) := by omega
      clear HS hkm
      rcases hk2 with hk2 | ⟨hk2, q6⟩
      · subst hk2
        go_wp2
        go_loop [3, 5] (fun n i => ∃ k : Nat, k ≤ c.links.length ∧ k ≤ 100 ∧ i = .int .i64 k ∧ n = .int .i64 ((c.owners.length + c.windows.length + S + sumTo (destLen c) k : Nat) : Int)) (fun _ i => c.links.length - (intOf i).toNat)
        case atStart => exact ⟨0, by omega, by omega, rfl, rfl⟩
        case round =>
          obtain ⟨k, hk, hk1, rfl, rfl⟩ := hrel
          have hsum := sumTo_le (destLen c) _ HD.out k
          generalize hS : sumTo (destLen c) k = T at hsum
          have hT : T ≤ 100 * 281474976710656 := Nat.le_trans hsum (Nat.mul_le_mul_right _ hk1)
          have hsum := 0
          by_cases hlt : k < c.links.length ∧ k < 100
          · obtain ⟨h1, h2⟩ := hlt
            obtain ⟨b, off, Ai, ci, hA, hb, hc0, hc, hc2, hl, hm, _⟩ := hL.at h1
            rw [show (c.links.getD k default).dests.length = destLen c k from rfl] at hc hl
            have hr := HD.out k
            have HS : Hid (sumTo (destLen c) (k + 1) = T + destLen c k) := by show _ = _; simp only [sumTo, hS]
            clear hL hS hc0 hc2
            generalize destLen c k = x at hc hl hr HS
            go_wp2
            go_round
            case rel => exact ⟨k + 1, by omega, by omega, by go_num, by rw [HS.out]; go_num⟩
            case measure => simp [intOf]; omega
          · have hkm : k = min c.links.length 100 := by omega
            have HS : Hid (sumTo (destLen c) (min c.links.length 100) = T) := by show _ = _; rw [← hkm, hS]
            clear hL hS
            rw [HS.out] at HB
            have hu : c.owners.length + c.windows.length + S + T = u := HB.out.symm
            clear HS HB
            rw [hu]
            have hu2 : u ≤ 1000000000000000000 := by omega
            have hk3 : k = c.links.length ∨ (k = 100 ∧ 100 < c.links.length) := by omega
            clear hlt hkm hk hk1 hsum hT hu
            have HE : Hid ((decide (1000 < (u : Int)) || decide (100 < (c.parts.length : Int)) || decide (100 < (c.ports.length : Int)) || decide (100 < (c.links.length : Int))) = g) := by
              show _ = _
              rw [HG.out]
              congr 1
              · congr 1
                · congr 1 <;> exact decide_eq_decide.2 (by omega)
                · exact decide_eq_decide.2 (by omega)
              · exact decide_eq_decide.2 (by omega)
            clear HG
            rcases hk3 with rfl | ⟨rfl, q5⟩
            all_goals go_wp2
            all_goals go_ret
            all_goals refine ⟨?_, (Below.refl _ _).alloc (Nat.le_refl _) _⟩
            all_goals rw [← HE.out]
            all_goals first | rfl | (show Ending.returned (.bool _) = Ending.returned (.bool _); congr 2; symm; simp; omega)
      · subst hk2
        go_wp2
        go_loop [3, 5] (fun n i => ∃ k : Nat, k ≤ c.links.length ∧ k ≤ 100 ∧ i = .int .i64 k ∧ n = .int .i64 ((c.owners.length + c.windows.length + S + sumTo (destLen c) k : Nat) : Int)) (fun _ i => c.links.length - (intOf i).toNat)
        case atStart => exact ⟨0, by omega, by omega, rfl, rfl⟩
        case round =>
          obtain ⟨k, hk, hk1, rfl, rfl⟩ := hrel
          have hsum := sumTo_le (destLen c) _ HD.out k
          generalize hS : sumTo (destLen c) k = T at hsum
          have hT : T ≤ 100 * 281474976710656 := Nat.le_trans hsum (Nat.mul_le_mul_right _ hk1)
          have hsum := 0
          by_cases hlt : k < c.links.length ∧ k < 100
          · obtain ⟨h1, h2⟩ := hlt
            obtain ⟨b, off, Ai, ci, hA, hb, hc0, hc, hc2, hl, hm, _⟩ := hL.at h1
            rw [show (c.links.getD k default).dests.length = destLen c k from rfl] at hc hl
            have hr := HD.out k
            have HS : Hid (sumTo (destLen c) (k + 1) = T + destLen c k) := by show _ = _; simp only [sumTo, hS]
            clear hL hS hc0 hc2
            generalize destLen c k = x at hc hl hr HS
            go_wp2
            go_round
            case rel => exact ⟨k + 1, by omega, by omega, by go_num, by rw [HS.out]; go_num⟩
            case measure => simp [intOf]; omega
          · have hkm : k = min c.links.length 100 := by omega
            have HS : Hid (sumTo (destLen c) (min c.links.length 100) = T) := by show _ = _; rw [← hkm, hS]
            clear hL hS
            rw [HS.out] at HB
            have hu : c.owners.length + c.windows.length + S + T = u := HB.out.symm
            clear HS HB
            rw [hu]
            have hu2 : u ≤ 1000000000000000000 := by omega
            have hk3 : k = c.links.length ∨ (k = 100 ∧ 100 < c.links.length) := by omega
            clear hlt hkm hk hk1 hsum hT hu
            have HE : Hid ((decide (1000 < (u : Int)) || decide (100 < (c.parts.length : Int)) || decide (100 < (c.ports.length : Int)) || decide (100 < (c.links.length : Int))) = g) := by
              show _ = _
              rw [HG.out]
              congr 1
              · congr 1
                · congr 1 <;> exact decide_eq_decide.2 (by omega)
                · exact decide_eq_decide.2 (by omega)
              · exact decide_eq_decide.2 (by omega)
            clear HG
            rcases hk3 with rfl | ⟨rfl, q5⟩
            all_goals go_wp2
            all_goals go_ret
            all_goals refine ⟨?_, (Below.refl _ _).alloc (Nat.le_refl _) _⟩
            all_goals rw [← HE.out]
            all_goals first | rfl | (show Ending.returned (.bool _) = Ending.returned (.bool _); congr 2; symm; simp; omega)
end Go.Proofs.YtbeggdahbhfhpaaDoor
