/-
  The bus: what the law asks aside: bytes held against each other; is a turn great?
-/
import Derived.Test.YtbeggdahbhfhpaaDoorBuE
namespace Go.Proofs.YtbeggdahbhfhpaaDoor
open Go.RowKit Go.Deep
set_option linter.unusedVariables false
set_option linter.unusedSimpArgs false

theorem Bytes.get {w : World} {A : Option Addr} {l : List Nat} (h : Bytes w A l) {i : Nat} (hi : i < l.length) : ∃ b o, A = some ⟨b, o, none⟩ ∧ b < w.heap.size ∧ w.cell? ⟨b, o + i, none⟩ = some (.int .u8 ((l.getD i 0 : Nat) : Int)) := by
  rcases h.2 with rfl | ⟨b, o, e, hlt, hc⟩
  · simp at hi
  · exact ⟨b, o, e, hlt, hc i hi⟩
set_option maxRecDepth 100000 in
set_option maxHeartbeats 1000000 in
theorem rbytes_any (l : List Nat) (A B : Option Addr) (m n : Nat) (w : World) (hA : Bytes w A l) (hB : Bytes w B l) (hl : l.length ≤ 9223372036854775807) :
    Calls Tryd.prog 19 #[.slice A l.length m, .slice B l.length n] w fun e w' => e = .returned (.bool true) ∧ ∃ n, w' = w.drewN n := by
  have HA := hide hA; have HB := hide hB
  clear hA hB
  go_enter Tryd.func19, Tryd.ntmps19
  go_wp2
  go_loopw [5] (fun i wr => ∃ k : Nat, k ≤ l.length ∧ i = .int .i64 k ∧ ∃ n, wr = w.drewN n) (fun i _ => l.length - (intOf i).toNat)
  case atStart => exact ⟨0, by omega, rfl, 0, rfl⟩
  case round =>
    obtain ⟨k, hk, rfl, nd, rfl⟩ := hrel
    by_cases hlt : k < l.length
    · obtain ⟨ba, oa, rfl, hba, hca⟩ := HA.out.get hlt
      obtain ⟨bb, ob, rfl, hbb, hcb⟩ := HB.out.get hlt
      clear HA HB
      generalize l.getD k 0 = x at hca hcb
      go_wp2
      go_region
      go_wp2
      go_round
      case rel => exact ⟨k + 1, by omega, by go_num, nd + 1, rfl⟩
      case measure => simp [intOf]; omega
    · obtain rfl : k = l.length := by omega
      clear HA HB
      go_wp2
      go_ret
      exact ⟨rfl, nd, rfl⟩

def BTruth (e : Ending) : Prop := ∃ b, e = .returned (.bool b)
theorem btruth {v : Value} {b : Bool} (h : v = .bool b) : BTruth (.returned v) := ⟨b, by rw [h]⟩
set_option maxRecDepth 100000 in
set_option maxHeartbeats 1000000 in
theorem bgreat_at (tb : Nat) (slot : Int) (A : Option Addr) (c : Nat) (L : List SnD) (AC : Option Addr) (nC cC : Nat) (w : World) (hlt : tb < w.heap.size)
    (h1 : w.cell? ⟨tb, 1, none⟩ = some (.slice A L.length c)) (h2 : w.cell? ⟨tb, 2, none⟩ = some (.slice AC nC cC)) (hL : SnAt w A L) (hl : L.length ≤ 9223372036854775807) :
    Calls Tryd.prog 17 #[.slice (some ⟨tb, 0, none⟩) 1 1] w fun e w' => BTruth e ∧ w' = w := by
  have HL := hide hL
  clear hL
  go_enter Tryd.func17, Tryd.ntmps17
  go_wp2
  go_loop [3, 4, 5] (fun n i _ => ∃ (k : Nat) (z : Int), k ≤ 1 ∧ i = .int .i64 k ∧ n = .int .i64 z) (fun _ i _ => 1 - (intOf i).toNat)
  case atStart => exact ⟨0, _, by omega, rfl, rfl⟩
  case round =>
    obtain ⟨k, z, hk, rfl, rfl⟩ := hrel
    by_cases hlt : k < 1
    · obtain rfl : k = 0 := by omega
      go_wp2
      go_loop [3, 5] (fun n i => ∃ (j : Nat) (z : Int), j ≤ L.length ∧ i = .int .i64 j ∧ n = .int .i64 z) (fun _ i => L.length - (intOf i).toNat)
      case atStart => exact ⟨0, _, by omega, rfl, rfl⟩
      case round =>
        obtain ⟨j, z, hj, rfl, rfl⟩ := hrel
        by_cases hlt3 : j < L.length
        · obtain ⟨b, o, Ai, ci, rfl, hb, x0, x1, _⟩ := HL.out.at hlt3
          generalize (L.getD j default).l.length = x at x1
          clear x0 HL
          go_wp2
          go_round
          case rel => exact ⟨j + 1, _, by omega, by go_num, rfl⟩
          case measure => simp [intOf]; omega
        · obtain rfl : j = L.length := by omega
          clear HL
          go_wp2
          go_round
          case rel => exact ⟨1, _, by omega, by go_num, rfl⟩
          case measure => simp [intOf]
    · obtain rfl : k = 1 := by omega
      clear HL
      go_wp2
      all_goals go_ret
      all_goals exact ⟨btruth rfl, rfl⟩
end Go.Proofs.YtbeggdahbhfhpaaDoor
