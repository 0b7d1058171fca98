/-
  What the program asks of a configuration: bounds, owners, clocks.
-/
import Derived.Test.YtmckidepbibpgaaGreatDoorCfg
namespace Go.Proofs.YtmckidepbibpgaaGreatDoor
open Go.RowKit Go.Deep
set_option linter.unusedVariables false

def inB (n a b : Int) : Bool := decide (a ≤ n) && decide (n ≤ b)

theorem within_any (n a b : Int) (w : World) :
    Calls Tryz.prog 221 #[.int .i64 n, .agg #[.int .i64 a, .int .i64 b]] w fun e w' => e = .returned (.bool (inB n a b)) ∧ Below w.heap.size w w' := by
  go_enter Tryz.func221, Tryz.ntmps221
  by_cases h1 : a ≤ n
  · by_cases h2 : n ≤ b
    · have H : Hid (inB n a b = true) := by show _ = _; simp [inB, h1, h2]
      go_wp2
      go_ret
      exact ⟨by rw [H.out]; rfl, (Below.refl _ _).alloc (Nat.le_refl _) _⟩
    · have H : Hid (inB n a b = false) := by show _ = _; simp [inB, h2]
      go_wp2
      go_ret
      exact ⟨by rw [H.out]; rfl, (Below.refl _ _).alloc (Nat.le_refl _) _⟩
  · have H : Hid (inB n a b = false) := by show _ = _; simp [inB, h1]
    go_wp2
    go_ret
    exact ⟨by rw [H.out]; rfl, (Below.refl _ _).alloc (Nat.le_refl _) _⟩

/-- the first place of a number, or -1 -/
def ixF (l : List Int) (n : Int) : Int := match l with
  | [] => -1
  | x :: l => if x = n then 0 else if ixF l n < 0 then -1 else ixF l n + 1
theorem ixF_ge (l : List Int) (n : Int) : -1 ≤ ixF l n := by
  induction l with
  | nil => simp [ixF]
  | cons x l ih => simp only [ixF]; split <;> (try split) <;> omega
theorem ixF_mem (l : List Int) (n : Int) : n ∈ l ↔ 0 ≤ ixF l n := by
  induction l with
  | nil => simp [ixF]
  | cons x l ih =>
    simp only [ixF, List.mem_cons]
    split
    · rename_i h; simp [h]
    · rename_i h
      have : ¬ n = x := fun e => h e.symm
      simp only [this, false_or, ih]
      split <;> omega
theorem ixF_none {l : List Int} {n : Int} (h : ∀ k, k < l.length → l.getD k 0 ≠ n) : ixF l n = -1 := by
  have := ixF_ge l n
  have hm := ixF_mem l n
  by_cases hn : n ∈ l
  · obtain ⟨k, hk, rfl⟩ := List.getElem_of_mem hn
    exact absurd (by rw [List.getD_eq_getElem?_getD, List.getElem?_eq_getElem hk]; rfl) (h k hk)
  · have := mt hm.2 hn; omega
theorem ixF_at {l : List Int} {n : Int} {k : Nat} (hk : k < l.length) (he : l.getD k 0 = n) (h : ∀ j, j < k → l.getD j 0 ≠ n) : ixF l n = k := by
  induction l generalizing k with
  | nil => simp at hk
  | cons x l ih =>
    cases k with
    | zero => simp at he; simp [ixF, he]
    | succ k =>
      have h0 : x ≠ n := by simpa using h 0 (by omega)
      have := ih (k := k) (by simpa using hk) (by simpa using he) (fun j hj => by simpa using h (j + 1) (by omega))
      simp only [ixF, h0, if_false, this]
      rw [if_neg (by omega)]
      simp

set_option maxHeartbeats 400000 in
theorem index_any (l : List Int) (A : Option Addr) (m : Nat) (n : Int) (w : World) (hA : Ints w A l) (hl : l.length ≤ 9223372036854775807) :
    Calls Tryz.prog 259 #[.slice A l.length m, .int .i64 n] w fun e w' => e = .returned (.int .i64 (ixF l n)) ∧ w = w' := by
  go_enter Tryz.func259, Tryz.ntmps259
  go_wp2
  go_loop [5, 8] (fun v i => ∃ k : Nat, k ≤ l.length ∧ i = .int .i64 k ∧ Hid (∀ j, j < k → l.getD j 0 ≠ n)) (fun _ i => l.length - (intOf i).toNat)
  case atStart => exact ⟨0, by omega, rfl, fun j hj => by omega⟩
  case round =>
    obtain ⟨k, hk, rfl, H⟩ := hrel
    by_cases hlt : k < l.length
    · obtain ⟨b, off, rfl, hb, hcell⟩ := hA.at hlt
      clear hA
      by_cases he : l.getD k 0 = n
      · have H2 : Hid (ixF l n = k) := ixF_at hlt he H.out
        rw [he] at hcell
        go_wp2
        go_ret
        exact ⟨by rw [H2.out]; rfl, rfl⟩
      · have H2 : Hid (∀ j, j < k + 1 → l.getD j 0 ≠ n) := fun j hj => by
          rcases Nat.lt_succ_iff_lt_or_eq.1 hj with h5 | rfl
          · exact H j h5
          · exact he
        generalize l.getD k 0 = z at hcell he
        have he' : ¬ n = z := fun e => he e.symm
        go_wp2
        go_round
        case rel => exact ⟨k + 1, by omega, by go_num, H2⟩
        case measure => simp [intOf]; omega
    · obtain rfl : k = l.length := by omega
      have H2 : Hid (ixF l n = -1) := ixF_none H.out
      go_wp2
      go_ret
      exact ⟨by rw [H2.out]; rfl, rfl⟩

theorem contains_any (l : List Int) (A : Option Addr) (m : Nat) (n : Int) (w : World) (hA : Ints w A l) (hl : l.length ≤ 9223372036854775807) :
    Calls Tryz.prog 212 #[.slice A l.length m, .int .i64 n] w fun e w' => e = .returned (.bool (decide (n ∈ l))) ∧ w = w' := by
  have H := hide (index_any l A m n w hA hl)
  have H2 : Hid (decide (n ∈ l) = decide (0 ≤ ixF l n)) := by show _ = _; simp only [ixF_mem l n]
  clear hA
  go_enter Tryz.func212, Tryz.ntmps212
  go_wp2_with (go_at_call 259; refine H.out.mono ?_; rintro e w' ⟨rfl, rfl⟩)
  go_ret
  refine ⟨?_, rfl⟩
  rw [H2.out]; rfl

/-- the configuration lies in a block of a function's own -/
structure Boxed (w : World) (b : Nat) (c : Conf) (d : Ad) : Prop where
  lt : b < w.heap.size
  c0 : w.cell? ⟨b, 0, none⟩ = some (.int .i64 c.nodes)
  c1 : w.cell? ⟨b, 1, none⟩ = some (.slice d.oA c.owners.length d.oC)
  c2 : w.cell? ⟨b, 2, none⟩ = some (.int .i64 c.drift)
  c3 : w.cell? ⟨b, 3, none⟩ = some (.int .i64 c.reading)
  c4 : w.cell? ⟨b, 4, none⟩ = some (.int .i64 c.margin)
  c5 : w.cell? ⟨b, 5, none⟩ = some (.int .i64 c.bound)
  c6 : w.cell? ⟨b, 6, none⟩ = some (.int .i64 c.rejoin)
  c7 : w.cell? ⟨b, 7, none⟩ = some (.int .i64 c.quota)
  c8 : w.cell? ⟨b, 8, none⟩ = some (.slice d.pA c.parts.length d.pC)
  c9 : w.cell? ⟨b, 9, none⟩ = some (.slice d.wA c.windows.length d.wC)
  c10 : w.cell? ⟨b, 10, none⟩ = some (.slice d.qA c.ports.length d.qC)
  c11 : w.cell? ⟨b, 11, none⟩ = some (.slice d.lA c.links.length d.lC)

theorem Boxed.below {w w' : World} {b B : Nat} {c : Conf} {d : Ad} (h : Boxed w b c d) (hb : Below B w w') (hB : w.heap.size ≤ B) : Boxed w' b c d :=
  ⟨Nat.lt_of_lt_of_le h.lt hb.size, cell_below hb hB h.lt h.c0, cell_below hb hB h.lt h.c1, cell_below hb hB h.lt h.c2, cell_below hb hB h.lt h.c3, cell_below hb hB h.lt h.c4, cell_below hb hB h.lt h.c5, cell_below hb hB h.lt h.c6, cell_below hb hB h.lt h.c7,
    cell_below hb hB h.lt h.c8, cell_below hb hB h.lt h.c9, cell_below hb hB h.lt h.c10, cell_below hb hB h.lt h.c11⟩
def Conf.cells (c : Conf) (d : Ad) : Array Value := #[.int .i64 c.nodes, .slice d.oA c.owners.length d.oC, .int .i64 c.drift, .int .i64 c.reading, .int .i64 c.margin, .int .i64 c.bound, .int .i64 c.rejoin, .int .i64 c.quota,
    .slice d.pA c.parts.length d.pC, .slice d.wA c.windows.length d.wC, .slice d.qA c.ports.length d.qC, .slice d.lA c.links.length d.lC]
theorem alloc_lt (w : World) (o : Obj) : w.heap.size < (w.alloc o).heap.size := by
  show w.heap.size < (w.heap.push o).size
  simp
theorem boxed_new (w : World) (c : Conf) (d : Ad) (t : TypeId) : Boxed (w.alloc (.cells (c.cells d) t)) w.heap.size c d := by
  have h : ∀ k v, (c.cells d)[k]? = some v → (w.alloc (.cells (c.cells d) t)).cell? ⟨w.heap.size, k, none⟩ = some v := fun k v hv => by
    unfold World.cell?
    rw [heap_alloc_new]
    exact hv
  exact ⟨alloc_lt w _, h 0 _ rfl, h 1 _ rfl, h 2 _ rfl, h 3 _ rfl, h 4 _ rfl, h 5 _ rfl, h 6 _ rfl, h 7 _ rfl, h 8 _ rfl, h 9 _ rfl, h 10 _ rfl, h 11 _ rfl⟩

/-- the first row -/
def NodesK (c : Conf) : Prop := 4 ≤ c.nodes ∧ c.nodes ≤ 16 ∧ (c.owners.length : Int) = c.nodes ∧ ∀ n : Nat, n < c.owners.length → (n : Int) ∈ c.owners
instance (c : Conf) : Decidable (NodesK c) := by unfold NodesK; infer_instance

set_option maxRecDepth 100000 in
set_option maxHeartbeats 1000000 in
theorem nodes_any (c : Conf) (d : Ad) (w : World) (h : ConfAt w c d) :
    Calls Tryz.prog 171 #[c.val d] w fun e w' => e = .returned (.bool (decide (NodesK c))) ∧ Below w.heap.size w w' := by
  have ha := (Below.refl w.heap.size w).alloc (Nat.le_refl _) (.cells (c.cells d) 28)
  have hx := boxed_new w c d 28
  have hC := h.of_below ha (Nat.le_refl _)
  clear h
  unfold Conf.val
  unfold Conf.cells at ha hx hC
  go_enter Tryz.func171, Tryz.ntmps171
  by_cases h1 : 4 ≤ c.nodes ∧ c.nodes ≤ 16
  · have H1 : Hid (inB c.nodes 4 16 = true) := by show _ = _; simp only [inB, Bool.and_eq_true, decide_eq_true_eq]; omega
    by_cases h3 : (c.owners.length : Int) = c.nodes
    · have hl : c.owners.length ≤ 16 := by omega
      obtain ⟨h1, h2⟩ := h1
      go_wp2_with (go_at_call 221; refine (within_any _ _ _ _).mono ?_; rintro e w1 ⟨rfl, hb1⟩; rw [H1.out]; have hx1 := hx.below hb1 (Nat.le_refl _); have hC1 := hide (hC.owners.of_below hb1 (Nat.le_refl _)); have hb := ha.trans (hb1.mono (Nat.le_of_lt (alloc_lt w _))); clear hC hx ha hb1; obtain ⟨hlt, e0, e1, e2, e3, e4, e5, e6, e7, e8, e9, e10, e11⟩ := hx1)
      go_loop [19] (fun i => ∃ k : Nat, k ≤ c.owners.length ∧ i = .int .i64 k ∧ Hid (∀ n : Nat, n < k → (n : Int) ∈ c.owners)) (fun i => c.owners.length - (intOf i).toNat)
      case atStart => exact ⟨0, by omega, rfl, fun n hn => by omega⟩
      case round =>
        obtain ⟨k, hk, rfl, H⟩ := hrel
        by_cases hlt : k < c.owners.length
        · by_cases he : (k : Int) ∈ c.owners
          · have H2 : Hid (∀ n : Nat, n < k + 1 → (n : Int) ∈ c.owners) := fun n hn => by
              rcases Nat.lt_succ_iff_lt_or_eq.1 hn with h5 | rfl
              · exact H n h5
              · exact he
            have H3 : Hid (decide ((k : Int) ∈ c.owners) = true) := decide_eq_true he
            go_wp2_with (go_at_call 212; refine (contains_any c.owners _ _ _ _ hC1.out (by omega)).mono ?_; rintro e w' ⟨rfl, rfl⟩; rw [H3.out])
            go_round
            case rel => exact ⟨k + 1, by omega, by go_num, H2⟩
            case measure => simp [intOf]; omega
          · have H2 : Hid (decide (NodesK c) = false) := by
              show _ = _
              rw [decide_eq_false_iff_not]
              rintro ⟨_, _, _, a⟩
              exact he (a k hlt)
            have H3 : Hid (decide ((k : Int) ∈ c.owners) = false) := decide_eq_false he
            go_wp2_with (go_at_call 212; refine (contains_any c.owners _ _ _ _ hC1.out (by omega)).mono ?_; rintro e w' ⟨rfl, rfl⟩; rw [H3.out])
            go_ret
            exact ⟨by rw [H2.out]; rfl, hb⟩
        · obtain rfl : k = c.owners.length := by omega
          have H2 : Hid (decide (NodesK c) = true) := by
            show _ = _
            rw [decide_eq_true_eq]
            exact ⟨h1, h2, h3, H.out⟩
          go_wp2
          go_ret
          exact ⟨by rw [H2.out]; rfl, hb⟩
    · have H : Hid (decide (NodesK c) = false) := by
        show _ = _
        rw [decide_eq_false_iff_not]
        rintro ⟨_, _, b, _⟩
        exact h3 b
      go_wp2_with (go_at_call 221; refine (within_any _ _ _ _).mono ?_; rintro e w1 ⟨rfl, hb1⟩; rw [H1.out]; have hx1 := hx.below hb1 (Nat.le_refl _); have hb := ha.trans (hb1.mono (Nat.le_of_lt (alloc_lt w _))); clear hC hx ha hb1; obtain ⟨hlt, e0, e1, e2, e3, e4, e5, e6, e7, e8, e9, e10, e11⟩ := hx1)
      go_ret
      exact ⟨by rw [H.out]; rfl, hb⟩
  · have H : Hid (decide (NodesK c) = false) := by
      show _ = _
      rw [decide_eq_false_iff_not]
      rintro ⟨a, b, _⟩
      exact h1 ⟨a, b⟩
    have H2 : Hid (inB c.nodes 4 16 = false) := by show _ = _; simp only [inB, Bool.and_eq_false_iff, decide_eq_false_iff_not]; omega
    go_wp2_with (go_at_call 221; refine (within_any _ _ _ _).mono ?_; rintro e w1 ⟨rfl, hb1⟩; rw [H2.out])
    go_ret
    exact ⟨by rw [H.out]; rfl, ha.trans (hb1.mono (Nat.le_of_lt (alloc_lt w _)))⟩
end Go.Proofs.YtmckidepbibpgaaGreatDoor
