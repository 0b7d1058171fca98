/-
  The document's small helpers: how often a number is among some, whether two spans meet, whether a port may be, whose a port is.
-/
import Derived.Test.YtbeggdahbhfhpaaDoorCfgRef
namespace Go.Proofs.YtbeggdahbhfhpaaDoor
open Go.RowKit Go.Deep
set_option linter.unusedVariables false

/-- do two spans meet? -/
def meetB (a b c d : Int) : Bool := decide (max a c < min b d)

set_option maxHeartbeats 400000 in
theorem rmeet_any (a b c d : Int) (w : World) (ha : I64 a) (hb : I64 b) :
    Calls Tryd.prog 138 #[.int .i64 a, .int .i64 b, .int .i64 c, .int .i64 d] w fun e w' => e = .returned (.bool (meetB a b c d)) ∧ w = w' := by
  unfold I64 at ha hb
  go_enter Tryd.func138, Tryd.ntmps138
  go_wp2
  go_loop [9] (fun i => ∃ z : Int, (z = a ∨ (a ≤ z ∧ z ≤ b)) ∧ i = .int .i64 z ∧ Hid (∀ y, a ≤ y → y < z → ¬ (c ≤ y ∧ y < d))) (fun i => (b - intOf i).toNat)
  case atStart => exact ⟨a, .inl rfl, rfl, fun y h1 h2 => by omega⟩
  case round =>
    obtain ⟨z, hz, rfl, H⟩ := hrel
    by_cases hlt : z < b
    · by_cases h1 : c ≤ z
      · by_cases h2 : z < d
        · have H2 : Hid (meetB a b c d = true) := by show _ = _; unfold meetB; rw [decide_eq_true_eq]; omega
          go_wp2
          go_ret
          exact ⟨by rw [H2.out]; rfl, rfl⟩
        · have H2 : Hid (∀ y, a ≤ y → y < z + 1 → ¬ (c ≤ y ∧ y < d)) := fun y h3 h4 => by
            rcases Int.lt_or_eq_of_le (Int.le_of_lt_add_one h4) with h5 | rfl
            · exact H y h3 h5
            · omega
          go_wp2
          go_round
          case rel => exact ⟨z + 1, by omega, by go_num, H2⟩
          case measure => simp [intOf]; omega
      · have H2 : Hid (∀ y, a ≤ y → y < z + 1 → ¬ (c ≤ y ∧ y < d)) := fun y h3 h4 => by
          rcases Int.lt_or_eq_of_le (Int.le_of_lt_add_one h4) with h5 | rfl
          · exact H y h3 h5
          · omega
        go_wp2
        go_round
        case rel => exact ⟨z + 1, by omega, by go_num, H2⟩
        case measure => simp [intOf]; omega
    · have H2 : Hid (meetB a b c d = false) := by
        show _ = _
        unfold meetB
        rw [decide_eq_false_iff_not]
        intro hm
        have := H (max a c)
        omega
      go_wp2
      go_ret
      exact ⟨by rw [H2.out]; rfl, rfl⟩

theorem count_snoc (l : List Int) (n : Int) (k : Nat) (h : k < l.length) : (l.take (k + 1)).count n = (l.take k).count n + if l.getD k 0 = n then 1 else 0 := by
  rw [List.take_succ_eq_append_getElem h, List.count_append, List.count_singleton, List.getD_eq_getElem?_getD, List.getElem?_eq_getElem h]
  by_cases he : l[k] = n
  · rw [if_pos (by simpa using he), if_pos (by simpa using he)]
  · rw [if_neg (by simpa using he), if_neg (by simpa using he)]

set_option maxHeartbeats 400000 in
theorem rcount_any (l : List Int) (A : Option Addr) (m : Nat) (n : Int) (w : World) (hA : Ints w A l) (hl : l.length ≤ 9223372036854775807) :
    Calls Tryd.prog 136 #[.slice A l.length m, .int .i64 n] w fun e w' => e = .returned (.int .i64 ((l.count n : Nat) : Int)) ∧ w = w' := by
  go_enter Tryd.func136, Tryd.ntmps136
  go_wp2
  go_loop [5, 6] (fun t i => ∃ k : Nat, k ≤ l.length ∧ i = .int .i64 k ∧ t = .int .i64 (((l.take k).count n : Nat) : Int)) (fun _ i => l.length - (intOf i).toNat)
  case atStart => exact ⟨0, by omega, rfl, by simp⟩
  case round =>
    obtain ⟨k, hk, rfl, rfl⟩ := hrel
    have hc := List.count_le_length (a := n) (l := l.take k)
    have hk2 : (l.take k).length = k := by simp; omega
    rw [hk2] at hc
    by_cases hlt : k < l.length
    · obtain ⟨b, off, rfl, hb, hcell⟩ := hA.at hlt
      have hn := hA.num k
      have H := count_snoc l n k hlt
      clear hA hk2
      generalize (l.take k).count n = t at hc H
      by_cases he : l.getD k 0 = n
      · rw [if_pos he] at H
        replace H := hide H
        generalize l.getD k 0 = x at hcell hn he
        go_wp2
        go_round
        case rel => exact ⟨k + 1, by omega, by go_num, by rw [H.out]; go_num⟩
        case measure => simp [intOf]; omega
      · rw [if_neg he] at H
        replace H := hide H
        generalize l.getD k 0 = x at hcell hn he
        go_wp2
        go_round
        case rel => exact ⟨k + 1, by omega, by go_num, by rw [H.out]; go_num⟩
        case measure => simp [intOf]; omega
    · obtain rfl : k = l.length := by omega
      rw [List.take_length]
      clear hA hk2
      go_wp2
      go_ret
      exact ⟨rfl, rfl⟩

/-- is a number a port's? -/
def isB (c : Conf) (n : Int) : Bool := decide (0 ≤ n ∧ n < c.ports.length)

set_option maxHeartbeats 400000 in
theorem ris_any (c : Conf) (d : Ad) (n : Int) (w : World) (h : ConfAt w c d) :
    Calls Tryd.prog 140 #[c.val d, .int .i64 n] w fun e w' => e = .returned (.bool (isB c n)) ∧ Below w.heap.size w w' := by
  unfold Conf.val
  by_cases h1 : 0 ≤ n
  · have H : Hid (isB c n = decide (n < c.ports.length)) := by show _ = _; unfold isB; simp [h1]
    clear h
    go_enter Tryd.func140, Tryd.ntmps140
    go_wp2
    go_ret
    exact ⟨by rw [H.out]; rfl, (Below.refl _ _).alloc (Nat.le_refl _) _⟩
  · have H : Hid (isB c n = false) := by show _ = _; unfold isB; simp; omega
    clear h
    go_enter Tryd.func140, Tryd.ntmps140
    go_wp2
    go_ret
    exact ⟨by rw [H.out]; rfl, (Below.refl _ _).alloc (Nat.le_refl _) _⟩

def Po.val (p : Po) : Value := .agg #[.int .i64 p.part, .int .i64 p.kind, .int .i64 p.dir, .int .i64 p.size, .int .i64 p.depth, .int .i64 p.fresh]
/-- may a port be, but for its partition? -/
def Alone (p : Po) : Prop := 1 ≤ p.kind ∧ p.kind ≤ 2 ∧ 1 ≤ p.dir ∧ p.dir ≤ 2 ∧ 1 ≤ p.size ∧ p.size ≤ 32 ∧
  ((p.kind = 2 ∧ 1 ≤ p.depth ∧ p.depth ≤ 8 ∧ p.fresh = 0) ∨ (p.kind ≠ 2 ∧ p.dir = 2 ∧ p.depth = 0 ∧ 1 ≤ p.fresh ∧ p.fresh ≤ 65535) ∨ (p.kind ≠ 2 ∧ p.dir ≠ 2 ∧ p.depth = 0 ∧ p.fresh = 0))
instance (p : Po) : Decidable (Alone p) := by unfold Alone; infer_instance

set_option maxHeartbeats 1000000 in
theorem ralone_any (p : Po) (w : World) :
    Calls Tryd.prog 139 #[p.val] w fun e w' => e = .returned (.bool (decide (Alone p))) ∧ Below w.heap.size w w' := by
  unfold Po.val
  go_enter Tryd.func139, Tryd.ntmps139
  go_wp2
  all_goals go_ret
  all_goals refine ⟨?_, (Below.refl _ _).alloc (Nat.le_refl _) _⟩
  all_goals show Ending.returned (.bool _) = Ending.returned (.bool _)
  all_goals refine congrArg (fun b => Ending.returned (.bool b)) (Bool.eq_iff_iff.2 ?_)
  all_goals rw [decide_eq_true_eq (p := Alone p)]
  all_goals unfold Alone
  all_goals try simp only [beq_iff_eq, decide_eq_true_eq, Bool.false_eq_true, false_iff, beq_eq_false_iff_ne] at *
  all_goals omega
end Go.Proofs.YtbeggdahbhfhpaaDoor
