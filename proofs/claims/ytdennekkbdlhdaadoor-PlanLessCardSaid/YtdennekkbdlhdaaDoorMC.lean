/-
  What the program asks of a configuration: bounds, owners, clocks.
  What the program asks of a configuration's clocks.
  What the program asks of a port.
  What the program asks of windows, and of ports.
  What the program asks of windows.
-/
import Derived.Test.YtdennekkbdlhdaaDoorPlC
import Derived.Deep.LoopGhost
import Derived.Deep.DeepCutAuto
import Derived.Deep.CutBlock
import Derived.Deep.RegionWith
import Derived.Deep.RegionHeld3
namespace Go.Proofs.YtdennekkbdlhdaaDoor
open Go.RowKit Go.Deep
set_option linter.unusedVariables false

def inB (n a b : Int) : Bool := decide (a ≤ n) && decide (n ≤ b)

theorem within_any (n a b : Int) (w : World) :
    Calls Tryd.prog 43 #[.int .i64 n, .agg #[.int .i64 a, .int .i64 b]] w fun e w' => e = .returned (.bool (inB n a b)) ∧ Below w.heap.size w w' := by
  go_enter Tryd.func43, Tryd.ntmps43
  by_cases h1 : a ≤ n
  · by_cases h2 : n ≤ b
    · have H : Hid (inB n a b = true) := by show _ = _; simp [inB, h1, h2]
      go_wp2
      go_ret
      exact ⟨by rw [H.out]; rfl, (Below.refl _ _).alloc (Nat.le_refl _) _⟩
    · have H : Hid (inB n a b = false) := by show _ = _; simp [inB, h2]
      go_wp2
      go_ret
      exact ⟨by rw [H.out]; rfl, (Below.refl _ _).alloc (Nat.le_refl _) _⟩
  · have H : Hid (inB n a b = false) := by show _ = _; simp [inB, h1]
    go_wp2
    go_ret
    exact ⟨by rw [H.out]; rfl, (Below.refl _ _).alloc (Nat.le_refl _) _⟩

/-- the first place of a number, or -1 -/
def ixF (l : List Int) (n : Int) : Int := match l with
  | [] => -1
  | x :: l => if x = n then 0 else if ixF l n < 0 then -1 else ixF l n + 1
theorem ixF_ge (l : List Int) (n : Int) : -1 ≤ ixF l n := by
  induction l with
  | nil => simp [ixF]
  | cons x l ih => simp only [ixF]; split <;> (try split) <;> omega
theorem ixF_mem (l : List Int) (n : Int) : n ∈ l ↔ 0 ≤ ixF l n := by
  induction l with
  | nil => simp [ixF]
  | cons x l ih =>
    simp only [ixF, List.mem_cons]
    split
    · rename_i h; simp [h]
    · rename_i h
      have : ¬ n = x := fun e => h e.symm
      simp only [this, false_or, ih]
      split <;> omega
theorem ixF_none {l : List Int} {n : Int} (h : ∀ k, k < l.length → l.getD k 0 ≠ n) : ixF l n = -1 := by
  have := ixF_ge l n
  have hm := ixF_mem l n
  by_cases hn : n ∈ l
  · obtain ⟨k, hk, rfl⟩ := List.getElem_of_mem hn
    exact absurd (by rw [List.getD_eq_getElem?_getD, List.getElem?_eq_getElem hk]; rfl) (h k hk)
  · have := mt hm.2 hn; omega
theorem ixF_at {l : List Int} {n : Int} {k : Nat} (hk : k < l.length) (he : l.getD k 0 = n) (h : ∀ j, j < k → l.getD j 0 ≠ n) : ixF l n = k := by
  induction l generalizing k with
  | nil => simp at hk
  | cons x l ih =>
    cases k with
    | zero => simp at he; simp [ixF, he]
    | succ k =>
      have h0 : x ≠ n := by simpa using h 0 (by omega)
      have := ih (k := k) (by simpa using hk) (by simpa using he) (fun j hj => by simpa using h (j + 1) (by omega))
      simp only [ixF, h0, if_false, this]
      rw [if_neg (by omega)]
      simp

set_option maxHeartbeats 400000 in
theorem index_any (l : List Int) (A : Option Addr) (m : Nat) (n : Int) (w : World) (hA : Ints w A l) (hl : l.length ≤ 9223372036854775807) :
    Calls Tryd.prog 54 #[.slice A l.length m, .int .i64 n] w fun e w' => e = .returned (.int .i64 (ixF l n)) ∧ w = w' := by
  go_enter Tryd.func54, Tryd.ntmps54
  go_wp2
  go_loop [5, 8] (fun v i => ∃ k : Nat, k ≤ l.length ∧ i = .int .i64 k ∧ Hid (∀ j, j < k → l.getD j 0 ≠ n)) (fun _ i => l.length - (intOf i).toNat)
  case atStart => exact ⟨0, by omega, rfl, fun j hj => by omega⟩
  case round =>
    obtain ⟨k, hk, rfl, H⟩ := hrel
    by_cases hlt : k < l.length
    · obtain ⟨b, off, rfl, hb, hcell⟩ := hA.at hlt
      clear hA
      by_cases he : l.getD k 0 = n
      · have H2 : Hid (ixF l n = k) := ixF_at hlt he H.out
        rw [he] at hcell
        go_wp2
        go_ret
        exact ⟨by rw [H2.out]; rfl, rfl⟩
      · have H2 : Hid (∀ j, j < k + 1 → l.getD j 0 ≠ n) := fun j hj => by
          rcases Nat.lt_succ_iff_lt_or_eq.1 hj with h5 | rfl
          · exact H j h5
          · exact he
        generalize l.getD k 0 = z at hcell he
        have he' : ¬ n = z := fun e => he e.symm
        go_wp2
        go_round
        case rel => exact ⟨k + 1, by omega, by go_num, H2⟩
        case measure => simp [intOf]; omega
    · obtain rfl : k = l.length := by omega
      have H2 : Hid (ixF l n = -1) := ixF_none H.out
      go_wp2
      go_ret
      exact ⟨by rw [H2.out]; rfl, rfl⟩

theorem contains_any (l : List Int) (A : Option Addr) (m : Nat) (n : Int) (w : World) (hA : Ints w A l) (hl : l.length ≤ 9223372036854775807) :
    Calls Tryd.prog 44 #[.slice A l.length m, .int .i64 n] w fun e w' => e = .returned (.bool (decide (n ∈ l))) ∧ w = w' := by
  have H := hide (index_any l A m n w hA hl)
  have H2 : Hid (decide (n ∈ l) = decide (0 ≤ ixF l n)) := by show _ = _; simp only [ixF_mem l n]
  clear hA
  go_enter Tryd.func44, Tryd.ntmps44
  go_wp2_with (go_at_call 54; refine H.out.mono ?_; rintro e w' ⟨rfl, rfl⟩)
  go_ret
  refine ⟨?_, rfl⟩
  rw [H2.out]; rfl

/-- the configuration lies in a block of a function's own -/
structure Boxed (w : World) (b : Nat) (c : Conf) (d : Ad) : Prop where
  lt : b < w.heap.size
  c0 : w.cell? ⟨b, 0, none⟩ = some (.int .i64 c.nodes)
  c1 : w.cell? ⟨b, 1, none⟩ = some (.slice d.oA c.owners.length d.oC)
  c2 : w.cell? ⟨b, 2, none⟩ = some (.int .i64 c.drift)
  c3 : w.cell? ⟨b, 3, none⟩ = some (.int .i64 c.reading)
  c4 : w.cell? ⟨b, 4, none⟩ = some (.int .i64 c.margin)
  c5 : w.cell? ⟨b, 5, none⟩ = some (.int .i64 c.bound)
  c6 : w.cell? ⟨b, 6, none⟩ = some (.int .i64 c.rejoin)
  c7 : w.cell? ⟨b, 7, none⟩ = some (.int .i64 c.quota)
  c8 : w.cell? ⟨b, 8, none⟩ = some (.slice d.pA c.parts.length d.pC)
  c9 : w.cell? ⟨b, 9, none⟩ = some (.slice d.wA c.windows.length d.wC)
  c10 : w.cell? ⟨b, 10, none⟩ = some (.slice d.qA c.ports.length d.qC)
  c11 : w.cell? ⟨b, 11, none⟩ = some (.slice d.lA c.links.length d.lC)

theorem Boxed.below {w w' : World} {b B : Nat} {c : Conf} {d : Ad} (h : Boxed w b c d) (hb : Below B w w') (hB : w.heap.size ≤ B) : Boxed w' b c d :=
  ⟨Nat.lt_of_lt_of_le h.lt hb.size, cell_below hb hB h.lt h.c0, cell_below hb hB h.lt h.c1, cell_below hb hB h.lt h.c2, cell_below hb hB h.lt h.c3, cell_below hb hB h.lt h.c4, cell_below hb hB h.lt h.c5, cell_below hb hB h.lt h.c6, cell_below hb hB h.lt h.c7,
    cell_below hb hB h.lt h.c8, cell_below hb hB h.lt h.c9, cell_below hb hB h.lt h.c10, cell_below hb hB h.lt h.c11⟩
def Conf.cells (c : Conf) (d : Ad) : Array Value := #[.int .i64 c.nodes, .slice d.oA c.owners.length d.oC, .int .i64 c.drift, .int .i64 c.reading, .int .i64 c.margin, .int .i64 c.bound, .int .i64 c.rejoin, .int .i64 c.quota,
    .slice d.pA c.parts.length d.pC, .slice d.wA c.windows.length d.wC, .slice d.qA c.ports.length d.qC, .slice d.lA c.links.length d.lC]
theorem alloc_lt (w : World) (o : Obj) : w.heap.size < (w.alloc o).heap.size := by
  show w.heap.size < (w.heap.push o).size
  simp
theorem boxed_new (w : World) (c : Conf) (d : Ad) (t : TypeId) : Boxed (w.alloc (.cells (c.cells d) t)) w.heap.size c d := by
  have h : ∀ k v, (c.cells d)[k]? = some v → (w.alloc (.cells (c.cells d) t)).cell? ⟨w.heap.size, k, none⟩ = some v := fun k v hv => by
    unfold World.cell?
    rw [heap_alloc_new]
    exact hv
  exact ⟨alloc_lt w _, h 0 _ rfl, h 1 _ rfl, h 2 _ rfl, h 3 _ rfl, h 4 _ rfl, h 5 _ rfl, h 6 _ rfl, h 7 _ rfl, h 8 _ rfl, h 9 _ rfl, h 10 _ rfl, h 11 _ rfl⟩

/-- the first row -/
def NodesK (c : Conf) : Prop := 4 ≤ c.nodes ∧ c.nodes ≤ 16 ∧ (c.owners.length : Int) = c.nodes ∧ ∀ n : Nat, n < c.owners.length → (n : Int) ∈ c.owners
instance (c : Conf) : Decidable (NodesK c) := by unfold NodesK; infer_instance

set_option maxRecDepth 100000 in
set_option maxHeartbeats 1000000 in
theorem nodes_any (c : Conf) (d : Ad) (w : World) (h : ConfAt w c d) :
    Calls Tryd.prog 30 #[c.val d] w fun e w' => e = .returned (.bool (decide (NodesK c))) ∧ Below w.heap.size w w' := by
  have ha := (Below.refl w.heap.size w).alloc (Nat.le_refl _) (.cells (c.cells d) 34)
  have hx := boxed_new w c d 34
  have hC := h.of_below ha (Nat.le_refl _)
  clear h
  unfold Conf.val
  unfold Conf.cells at ha hx hC
  go_enter Tryd.func30, Tryd.ntmps30
  by_cases h1 : 4 ≤ c.nodes ∧ c.nodes ≤ 16
  · have H1 : Hid (inB c.nodes 4 16 = true) := by show _ = _; simp only [inB, Bool.and_eq_true, decide_eq_true_eq]; omega
    by_cases h3 : (c.owners.length : Int) = c.nodes
    · have hl : c.owners.length ≤ 16 := by omega
      obtain ⟨h1, h2⟩ := h1
      go_wp2_with (go_at_call 43; refine (within_any _ _ _ _).mono ?_; rintro e w1 ⟨rfl, hb1⟩; rw [H1.out]; have hx1 := hx.below hb1 (Nat.le_refl _); have hC1 := hide (hC.owners.of_below hb1 (Nat.le_refl _)); have hb := ha.trans (hb1.mono (Nat.le_of_lt (alloc_lt w _))); clear hC hx ha hb1; obtain ⟨hlt, e0, e1, e2, e3, e4, e5, e6, e7, e8, e9, e10, e11⟩ := hx1)
      go_loop [19] (fun i => ∃ k : Nat, k ≤ c.owners.length ∧ i = .int .i64 k ∧ Hid (∀ n : Nat, n < k → (n : Int) ∈ c.owners)) (fun i => c.owners.length - (intOf i).toNat)
      case atStart => exact ⟨0, by omega, rfl, fun n hn => by omega⟩
      case round =>
        obtain ⟨k, hk, rfl, H⟩ := hrel
        by_cases hlt : k < c.owners.length
        · by_cases he : (k : Int) ∈ c.owners
          · have H2 : Hid (∀ n : Nat, n < k + 1 → (n : Int) ∈ c.owners) := fun n hn => by
              rcases Nat.lt_succ_iff_lt_or_eq.1 hn with h5 | rfl
              · exact H n h5
              · exact he
            have H3 : Hid (decide ((k : Int) ∈ c.owners) = true) := decide_eq_true he
            go_wp2_with (go_at_call 44; refine (contains_any c.owners _ _ _ _ hC1.out (by omega)).mono ?_; rintro e w' ⟨rfl, rfl⟩; rw [H3.out])
            go_round
            case rel => exact ⟨k + 1, by omega, by go_num, H2⟩
            case measure => simp [intOf]; omega
          · have H2 : Hid (decide (NodesK c) = false) := by
              show _ = _
              rw [decide_eq_false_iff_not]
              rintro ⟨_, _, _, a⟩
              exact he (a k hlt)
            have H3 : Hid (decide ((k : Int) ∈ c.owners) = false) := decide_eq_false he
            go_wp2_with (go_at_call 44; refine (contains_any c.owners _ _ _ _ hC1.out (by omega)).mono ?_; rintro e w' ⟨rfl, rfl⟩; rw [H3.out])
            go_ret
            exact ⟨by rw [H2.out]; rfl, hb⟩
        · obtain rfl : k = c.owners.length := by omega
          have H2 : Hid (decide (NodesK c) = true) := by
            show _ = _
            rw [decide_eq_true_eq]
            exact ⟨h1, h2, h3, H.out⟩
          go_wp2
          go_ret
          exact ⟨by rw [H2.out]; rfl, hb⟩
    · have H : Hid (decide (NodesK c) = false) := by
        show _ = _
        rw [decide_eq_false_iff_not]
        rintro ⟨_, _, b, _⟩
        exact h3 b
      go_wp2_with (go_at_call 43; refine (within_any _ _ _ _).mono ?_; rintro e w1 ⟨rfl, hb1⟩; rw [H1.out]; have hx1 := hx.below hb1 (Nat.le_refl _); have hb := ha.trans (hb1.mono (Nat.le_of_lt (alloc_lt w _))); clear hC hx ha hb1; obtain ⟨hlt, e0, e1, e2, e3, e4, e5, e6, e7, e8, e9, e10, e11⟩ := hx1)
      go_ret
      exact ⟨by rw [H.out]; rfl, hb⟩
  · have H : Hid (decide (NodesK c) = false) := by
      show _ = _
      rw [decide_eq_false_iff_not]
      rintro ⟨a, b, _⟩
      exact h1 ⟨a, b⟩
    have H2 : Hid (inB c.nodes 4 16 = false) := by show _ = _; simp only [inB, Bool.and_eq_false_iff, decide_eq_false_iff_not]; omega
    go_wp2_with (go_at_call 43; refine (within_any _ _ _ _).mono ?_; rintro e w1 ⟨rfl, hb1⟩; rw [H2.out])
    go_ret
    exact ⟨by rw [H.out]; rfl, ha.trans (hb1.mono (Nat.le_of_lt (alloc_lt w _)))⟩
end Go.Proofs.YtdennekkbdlhdaaDoor
namespace Go.Proofs.YtdennekkbdlhdaaDoor
open Go.RowKit Go.Deep
set_option linter.unusedVariables false

def precF (c : Conf) : Int := 2 * (c.drift + c.reading) + 1
set_option maxRecDepth 100000 in
set_option maxHeartbeats 1000000 in
theorem precision_any (c : Conf) (d : Ad) (w : World) (h1 : 0 ≤ c.drift) (h2 : c.drift ≤ 1048576) (h3 : 0 ≤ c.reading) (h4 : c.reading ≤ 1048576) :
    Calls Tryd.prog 26 #[c.val d] w fun e w' => e = .returned (.int .i64 (precF c)) ∧ Below w.heap.size w w' := by
  have H : Hid (precF c = 2 * (c.drift + c.reading) + 1) := rfl
  unfold Conf.val
  go_enter Tryd.func26, Tryd.ntmps26
  go_wp2
  go_ret
  exact ⟨by rw [H.out]; rfl, (Below.refl _ _).alloc (Nat.le_refl _) _⟩

/-- the second row -/
def ClockK (c : Conf) : Bool := inB c.drift 0 1048576 && inB c.reading 0 1048576 && inB c.margin (2 * precF c + c.reading) 16777216 && inB c.bound (2 * precF c + c.reading) 16777216 && inB c.rejoin 1 8 && inB c.quota 1 16


/-- two numbers in a block of a function's own -/
structure Bd (w : World) (b : Nat) (x y : Int) : Prop where
  lt : b < w.heap.size
  c0 : w.cell? ⟨b, 0, none⟩ = some (.int .i64 x)
  c1 : w.cell? ⟨b, 1, none⟩ = some (.int .i64 y)
theorem Bd.below {w w' : World} {b B : Nat} {x y : Int} (h : Bd w b x y) (hb : Below B w w') (hB : w.heap.size ≤ B) : Bd w' b x y :=
  ⟨Nat.lt_of_lt_of_le h.lt hb.size, cell_below hb hB h.lt h.c0, cell_below hb hB h.lt h.c1⟩
theorem bd_new (w : World) (x y : Int) (t : TypeId) : Bd (w.alloc (.cells #[.int .i64 x, .int .i64 y] t)) w.heap.size x y := by
  have h : ∀ k v, (#[.int .i64 x, .int .i64 y] : Array Value)[k]? = some v → (w.alloc (.cells #[.int .i64 x, .int .i64 y] t)).cell? ⟨w.heap.size, k, none⟩ = some v := fun k v hv => by
    unfold World.cell?
    rw [heap_alloc_new]
    exact hv
  exact ⟨alloc_lt w _, h 0 _ rfl, h 1 _ rfl⟩

/-- what stands while clocks are looked at -/
structure ClkS (w W : World) (c : Conf) (d : Ad) : Prop where
  b : Below w.heap.size w W
  x : Boxed W w.heap.size c d
  m : Bd W (w.heap.size + 1) 0 1048576
theorem ClkS.below {w W W' : World} {c : Conf} {d : Ad} (h : ClkS w W c d) (hb : Below W.heap.size W W') : ClkS w W' c d :=
  ⟨h.b.trans (hb.mono h.b.size), h.x.below hb (Nat.le_refl _), h.m.below hb (Nat.le_refl _)⟩
theorem ClkS.first (w : World) (c : Conf) (d : Ad) (t u : TypeId) : ClkS w ((w.alloc (.cells (c.cells d) t)).alloc (.cells #[.int .i64 0, .int .i64 1048576] u)) c d := by
  have h1 := (Below.refl w.heap.size w).alloc (Nat.le_refl _) (.cells (c.cells d) t)
  have h2 := (Below.refl (w.alloc (.cells (c.cells d) t)).heap.size (w.alloc (.cells (c.cells d) t))).alloc (Nat.le_refl _) (.cells #[.int .i64 0, .int .i64 1048576] u)
  have hm := bd_new (w.alloc (.cells (c.cells d) t)) 0 1048576 u
  rw [show (w.alloc (.cells (c.cells d) t)).heap.size = w.heap.size + 1 from Array.size_push _] at hm
  exact ⟨h1.trans (h2.mono (Nat.le_of_lt (alloc_lt w _))), (boxed_new w c d t).below h2 (Nat.le_refl _), hm⟩

theorem zero_new (w1 w2 : World) (t : TypeId) (hb : Below (w1.drew.alloc (.cells #[.int .i64 0, .int .i64 0] t)).heap.size (w1.drew.alloc (.cells #[.int .i64 0, .int .i64 0] t)) w2) :
    w2.cell? ⟨w1.heap.size, 0, none⟩ = some (.int .i64 0) ∧ w2.cell? ⟨w1.heap.size, 1, none⟩ = some (.int .i64 0) ∧ w2.frozen? ⟨w1.heap.size, 0, none⟩ = false ∧ w2.frozen? ⟨w1.heap.size, 1, none⟩ = false ∧ w1.heap.size < w2.heap.size ∧ Below w1.heap.size w1 w2 := by
  have hlt := alloc_lt w1.drew (.cells #[.int .i64 0, .int .i64 0] t)
  have hbl := hb.block w1.heap.size hlt
  have hn : (w1.drew.alloc (.cells #[.int .i64 0, .int .i64 0] t)).heap[w1.heap.size]? = some (.cells #[.int .i64 0, .int .i64 0] t) := heap_alloc_new w1.drew _
  have hh := hbl.trans hn
  refine ⟨?_, ?_, ?_, ?_, Nat.lt_of_lt_of_le hlt hb.size, ((Below.refl _ _).drew.alloc (Nat.le_refl _) _).trans (hb.mono (Nat.le_of_lt hlt))⟩
  · simp [World.cell?, hh]
  · simp [World.cell?, hh]
  · simp [World.frozen?, hh]
  · simp [World.frozen?, hh]

theorem clk_newA {w w2 : World} {c : Conf} {d : Ad} {x y z : Int} {t : TypeId} (hS : ClkS w w2 c d) (hz : z = x) :
    ∃ b4, Value.pointer (some ⟨w2.heap.size, 0, none⟩) = .pointer (some ⟨b4, 0, none⟩) ∧ ClkS w (w2.alloc (.cells #[.int .i64 z, .int .i64 y] t)) c d ∧ Bd (w2.alloc (.cells #[.int .i64 z, .int .i64 y] t)) b4 x y := by
  subst hz
  exact ⟨_, rfl, hS.below ((Below.refl _ _).alloc (Nat.le_refl _) _), bd_new _ _ _ _⟩
theorem set_new {w : World} {b : Nat} {x y u v : Int} (hb : b < w.heap.size) (z0 : w.cell? ⟨b, 0, none⟩ = some (.int .i64 u)) (z1 : w.cell? ⟨b, 1, none⟩ = some (.int .i64 v)) :
    Bd ((w.setCell ⟨b, 0, none⟩ (.int .i64 x)).setCell ⟨b, 1, none⟩ (.int .i64 y)) b x y := by
  have hs : ∀ (w : World) (a : Addr) (v : Value), (w.setCell a v).heap.size = w.heap.size := fun w a v => by simp [World.setCell]
  refine ⟨by rw [hs, hs]; exact hb, ?_, ?_⟩
  · exact (World.cell?_setCell_other (w := w.setCell ⟨b, 0, none⟩ (.int .i64 x)) (a := ⟨b, 1, none⟩) (b := ⟨b, 0, none⟩) (v := .int .i64 y) (by simp)).trans (World.cell?_setCell_same _ _ _ (u := .int .i64 u) z0)
  · exact World.cell?_setCell_same _ _ _ (u := .int .i64 v) ((World.cell?_setCell_other (w := w) (a := ⟨b, 0, none⟩) (b := ⟨b, 1, none⟩) (v := .int .i64 x) (by simp)).trans z1)
theorem clk_newB {w w1 w2 : World} {c : Conf} {d : Ad} {x y z u v : Int} (hS : ClkS w w2 c d) (hk : w.heap.size + 1 < w1.heap.size) (hl : w1.heap.size < w2.heap.size) (z0 : w2.cell? ⟨w1.heap.size, 0, none⟩ = some (.int .i64 u)) (z1 : w2.cell? ⟨w1.heap.size, 1, none⟩ = some (.int .i64 v)) (hz : z = x) :
    ∃ b4, Value.pointer (some ⟨w1.heap.size, 0, none⟩) = .pointer (some ⟨b4, 0, none⟩) ∧ ClkS w ((w2.setCell ⟨w1.heap.size, 0, none⟩ (.int .i64 z)).setCell ⟨w1.heap.size, 1, none⟩ (.int .i64 y)) c d ∧
      Bd ((w2.setCell ⟨w1.heap.size, 0, none⟩ (.int .i64 z)).setCell ⟨w1.heap.size, 1, none⟩ (.int .i64 y)) b4 x y := by
  subst hz
  have hb : Below w1.heap.size w2 ((w2.setCell ⟨w1.heap.size, 0, none⟩ (.int .i64 z)).setCell ⟨w1.heap.size, 1, none⟩ (.int .i64 y)) := Below.setCell (p := ⟨w1.heap.size, 1, none⟩) (Below.setCell (p := ⟨w1.heap.size, 0, none⟩) (Below.refl _ _) (Nat.le_refl _) _) (Nat.le_refl _) _
  have old : ∀ {k o : Nat} {v : Value}, k < w1.heap.size → w2.cell? ⟨k, o, none⟩ = some v → ((w2.setCell ⟨w1.heap.size, 0, none⟩ (.int .i64 z)).setCell ⟨w1.heap.size, 1, none⟩ (.int .i64 y)).cell? ⟨k, o, none⟩ = some v := fun {k o v} hk h => (hb.cell (p := ⟨k, o, none⟩) hk).trans h
  obtain ⟨h1, h2, h3⟩ := hS
  refine ⟨_, rfl, ⟨h1.trans (hb.mono (by omega)), ?_, ?_⟩, set_new hl z0 z1⟩
  · exact ⟨Nat.lt_of_lt_of_le h2.lt hb.size, old (by omega) h2.c0, old (by omega) h2.c1, old (by omega) h2.c2, old (by omega) h2.c3, old (by omega) h2.c4, old (by omega) h2.c5, old (by omega) h2.c6, old (by omega) h2.c7, old (by omega) h2.c8, old (by omega) h2.c9, old (by omega) h2.c10, old (by omega) h2.c11⟩
  · exact ⟨Nat.lt_of_lt_of_le h3.lt hb.size, old (by omega) h3.c0, old (by omega) h3.c1⟩

set_option maxRecDepth 100000 in
set_option maxHeartbeats 1000000 in
theorem clock_any (c : Conf) (d : Ad) (w : World) :
    Calls Tryd.prog 31 #[c.val d] w fun e w' => e = .returned (.bool (ClockK c)) ∧ Below w.heap.size w w' := by
  have hS := ClkS.first w c d 34 94
  unfold Conf.val
  unfold Conf.cells at hS
  obtain ⟨hb, ⟨hl, e0, e1, e2, e3, e4, e5, e6, e7, e8, e9, e10, e11⟩, ⟨hlm, m0, m1⟩⟩ := id hS
  go_enter Tryd.func31, Tryd.ntmps31
  by_cases h1 : inB c.drift 0 1048576 = true
  · by_cases h2 : inB c.reading 0 1048576 = true
    · have H1 := hide h1
      have H2 := hide h2
      simp only [inB, Bool.and_eq_true, decide_eq_true_eq] at h1 h2
      obtain ⟨n1, n2⟩ := h1
      obtain ⟨n3, n4⟩ := h2
      have HP : Hid (precF c = 2 * (c.drift + c.reading) + 1) := rfl
      go_upto_region 4 with (go_at_call 43; refine (within_any _ _ _ _).mono ?_; rintro e w1 ⟨rfl, hb1⟩; clear hb hl e0 e1 e2 e3 e4 e5 e6 e7 e8 e9 e10 e11 hlm m0 m1; replace hS := hS.below hb1; clear hb1; obtain ⟨hb, ⟨hl, e0, e1, e2, e3, e4, e5, e6, e7, e8, e9, e10, e11⟩, ⟨hlm, m0, m1⟩⟩ := id hS; first | rw [H1.out] | rw [H2.out])
      have hk1 := hlm
      go_cut [4] (fun v wc => ∃ b4, v = .pointer (some ⟨b4, 0, none⟩) ∧ ClkS w wc c d ∧ Bd wc b4 (2 * precF c + c.reading) 16777216)
      case first =>
        have HW : Hid (IntKind.i64.wrap (IntKind.i64.wrap (2 * (2 * (c.drift + c.reading) + 1)) + c.reading) = 2 * precF c + c.reading) := by
          show _ = _
          unfold precF
          rw [IntWalk.i64_in (2 * (2 * (c.drift + c.reading) + 1)) (by omega), IntWalk.i64_in _ (by omega)]
        go_region_with (go_at_call 26; refine (precision_any c d _ n1 n2 n3 n4).mono ?_; rintro e w2 ⟨rfl, hb2⟩; (first
          | (have hq : Below w1.heap.size w1 w2 := (Below.refl _ _).drew.trans hb2)
          | (obtain ⟨z0, z1, f0, f1, hz, hq⟩ := zero_new w1 w2 _ hb2)); clear hb2; clear hb hl e0 e1 e2 e3 e4 e5 e6 e7 e8 e9 e10 e11 hlm m0 m1; replace hS := hS.below hq; clear hq; obtain ⟨hb, ⟨hl, e0, e1, e2, e3, e4, e5, e6, e7, e8, e9, e10, e11⟩, ⟨hlm, m0, m1⟩⟩ := id hS; rw [HP.out])
        all_goals (go_wp2_with fail; go_meet)
        all_goals first | exact clk_newA hS HW.out | exact clk_newB hS hk1 hz z0 z1 HW.out | trace_state
      case rest =>
        obtain ⟨b4, rfl, hS4, hB4⟩ := hcut
        have HK : Hid (ClockK c = (inB c.margin (2 * precF c + c.reading) 16777216 && inB c.bound (2 * precF c + c.reading) 16777216 && inB c.rejoin 1 8 && inB c.quota 1 16)) := by
          show _ = _
          unfold ClockK
          rw [H1.out, H2.out, Bool.true_and, Bool.true_and]
        clear hS hb hl e0 e1 e2 e3 e4 e5 e6 e7 e8 e9 e10 e11 hlm m0 m1 hk1 H1 H2 n1 n2 n3 n4 HP
        generalize 2 * precF c + c.reading = least at HK hB4
        obtain ⟨hb, ⟨hl, e0, e1, e2, e3, e4, e5, e6, e7, e8, e9, e10, e11⟩, ⟨hlm, m0, m1⟩⟩ := id hS4
        obtain ⟨hg, g0, g1⟩ := id hB4
        obtain ⟨q1, h1⟩ : ∃ q, inB c.margin least 16777216 = q := ⟨_, rfl⟩
        obtain ⟨q2, h2⟩ : ∃ q, inB c.bound least 16777216 = q := ⟨_, rfl⟩
        obtain ⟨q3, h3⟩ : ∃ q, inB c.rejoin 1 8 = q := ⟨_, rfl⟩
        obtain ⟨q4, h4⟩ : ∃ q, inB c.quota 1 16 = q := ⟨_, rfl⟩
        rw [h1, h2, h3, h4] at HK
        have h1 := hide h1
        have h2 := hide h2
        have h3 := hide h3
        have h4 := hide h4
        cases q1
        · go_wp2_with (go_at_call 43; refine (within_any _ _ _ _).mono ?_; rintro e w1 ⟨rfl, hb1⟩; clear hb hl e0 e1 e2 e3 e4 e5 e6 e7 e8 e9 e10 e11 hlm m0 m1 hg g0 g1; replace hS4 := hS4.below hb1; replace hB4 := hB4.below hb1 (Nat.le_refl _); clear hb1; obtain ⟨hb, ⟨hl, e0, e1, e2, e3, e4, e5, e6, e7, e8, e9, e10, e11⟩, ⟨hlm, m0, m1⟩⟩ := id hS4; obtain ⟨hg, g0, g1⟩ := id hB4; first | rw [h1.out] | rw [h2.out] | rw [h3.out] | rw [h4.out])
          go_ret
          exact ⟨by rw [HK.out]; rfl, hb⟩
        · cases q2
          · go_wp2_with (go_at_call 43; refine (within_any _ _ _ _).mono ?_; rintro e w1 ⟨rfl, hb1⟩; clear hb hl e0 e1 e2 e3 e4 e5 e6 e7 e8 e9 e10 e11 hlm m0 m1 hg g0 g1; replace hS4 := hS4.below hb1; replace hB4 := hB4.below hb1 (Nat.le_refl _); clear hb1; obtain ⟨hb, ⟨hl, e0, e1, e2, e3, e4, e5, e6, e7, e8, e9, e10, e11⟩, ⟨hlm, m0, m1⟩⟩ := id hS4; obtain ⟨hg, g0, g1⟩ := id hB4; first | rw [h1.out] | rw [h2.out] | rw [h3.out] | rw [h4.out])
            go_ret
            exact ⟨by rw [HK.out]; rfl, hb⟩
          · cases q3
            · go_wp2_with (go_at_call 43; refine (within_any _ _ _ _).mono ?_; rintro e w1 ⟨rfl, hb1⟩; clear hb hl e0 e1 e2 e3 e4 e5 e6 e7 e8 e9 e10 e11 hlm m0 m1 hg g0 g1; replace hS4 := hS4.below hb1; replace hB4 := hB4.below hb1 (Nat.le_refl _); clear hb1; obtain ⟨hb, ⟨hl, e0, e1, e2, e3, e4, e5, e6, e7, e8, e9, e10, e11⟩, ⟨hlm, m0, m1⟩⟩ := id hS4; obtain ⟨hg, g0, g1⟩ := id hB4; first | rw [h1.out] | rw [h2.out] | rw [h3.out] | rw [h4.out])
              go_ret
              exact ⟨by rw [HK.out]; rfl, hb⟩
            · go_wp2_with (go_at_call 43; refine (within_any _ _ _ _).mono ?_; rintro e w1 ⟨rfl, hb1⟩; clear hb hl e0 e1 e2 e3 e4 e5 e6 e7 e8 e9 e10 e11 hlm m0 m1 hg g0 g1; replace hS4 := hS4.below hb1; replace hB4 := hB4.below hb1 (Nat.le_refl _); clear hb1; obtain ⟨hb, ⟨hl, e0, e1, e2, e3, e4, e5, e6, e7, e8, e9, e10, e11⟩, ⟨hlm, m0, m1⟩⟩ := id hS4; obtain ⟨hg, g0, g1⟩ := id hB4; first | rw [h1.out] | rw [h2.out] | rw [h3.out] | rw [h4.out])
              go_ret
              exact ⟨by rw [HK.out]; rfl, hb⟩
    · have HK : Hid (ClockK c = false) := by
        show _ = _
        unfold ClockK
        rw [Bool.not_eq_true] at h2
        rw [h2]
        simp
      have H1 := hide h1
      have H2 : Hid (inB c.reading 0 1048576 = false) := Bool.not_eq_true _ ▸ h2
      clear h1 h2
      go_wp2_with (go_at_call 43; refine (within_any _ _ _ _).mono ?_; rintro e w1 ⟨rfl, hb1⟩; clear hb hl e0 e1 e2 e3 e4 e5 e6 e7 e8 e9 e10 e11 hlm m0 m1; replace hS := hS.below hb1; clear hb1; obtain ⟨hb, ⟨hl, e0, e1, e2, e3, e4, e5, e6, e7, e8, e9, e10, e11⟩, ⟨hlm, m0, m1⟩⟩ := id hS; first | rw [H1.out] | rw [H2.out])
      go_ret
      exact ⟨by rw [HK.out]; rfl, hb⟩
  · have HK : Hid (ClockK c = false) := by
      show _ = _
      unfold ClockK
      rw [Bool.not_eq_true] at h1
      rw [h1]
      simp
    have H1 : Hid (inB c.drift 0 1048576 = false) := Bool.not_eq_true _ ▸ h1
    clear h1
    go_wp2_with (go_at_call 43; refine (within_any _ _ _ _).mono ?_; rintro e w1 ⟨rfl, hb1⟩; clear hb hl e0 e1 e2 e3 e4 e5 e6 e7 e8 e9 e10 e11 hlm m0 m1; replace hS := hS.below hb1; clear hb1; obtain ⟨hb, ⟨hl, e0, e1, e2, e3, e4, e5, e6, e7, e8, e9, e10, e11⟩, ⟨hlm, m0, m1⟩⟩ := id hS; rw [H1.out])
    go_ret
    exact ⟨by rw [HK.out]; rfl, hb⟩
end Go.Proofs.YtdennekkbdlhdaaDoor
namespace Go.Proofs.YtdennekkbdlhdaaDoor
open Go.RowKit Go.Deep
set_option linter.unusedVariables false
set_option linter.unusedSimpArgs false

/-- the tables that stand from the beginning on -/
structure Glo (w : World) : Prop where
  lt : 1 < w.heap.size
  d : ∀ (k : Nat) (z : Int), ([0, 0, 0, 0, 1, 8] : List Int)[k]? = some z → w.cell? ⟨0, k, none⟩ = some (.int .i64 z)
  f : ∀ (k : Nat) (z : Int), ([0, 0, 0, 0, 0, 0, 0, 0, 0, 0, 1, 65535, 0, 0, 0, 0, 0, 0] : List Int)[k]? = some z → w.cell? ⟨1, k, none⟩ = some (.int .i64 z)
theorem Glo.below {w w' : World} {B : Nat} (h : Glo w) (hb : Below B w w') (hB : w.heap.size ≤ B) : Glo w' :=
  ⟨Nat.lt_of_lt_of_le h.lt hb.size, fun k z hz => cell_below hb hB (by have := h.lt; omega) (h.d k z hz), fun k z hz => cell_below hb hB h.lt (h.f k z hz)⟩

def Po.cells (p : Po) : Array Value := #[.int .i64 p.part, .int .i64 p.kind, .int .i64 p.dir, .int .i64 p.size, .int .i64 p.depth, .int .i64 p.fresh]
/-- a port in a block of a function's own -/
structure PoAt (W : World) (b : Nat) (p : Po) : Prop where
  lt : b < W.heap.size
  c0 : W.cell? ⟨b, 0, none⟩ = some (.int .i64 p.part)
  c1 : W.cell? ⟨b, 1, none⟩ = some (.int .i64 p.kind)
  c2 : W.cell? ⟨b, 2, none⟩ = some (.int .i64 p.dir)
  c3 : W.cell? ⟨b, 3, none⟩ = some (.int .i64 p.size)
  c4 : W.cell? ⟨b, 4, none⟩ = some (.int .i64 p.depth)
  c5 : W.cell? ⟨b, 5, none⟩ = some (.int .i64 p.fresh)
theorem PoAt.below {w w' : World} {b B : Nat} {p : Po} (h : PoAt w b p) (hb : Below B w w') (hB : w.heap.size ≤ B) : PoAt w' b p :=
  ⟨Nat.lt_of_lt_of_le h.lt hb.size, cell_below hb hB h.lt h.c0, cell_below hb hB h.lt h.c1, cell_below hb hB h.lt h.c2, cell_below hb hB h.lt h.c3, cell_below hb hB h.lt h.c4, cell_below hb hB h.lt h.c5⟩
theorem po_new (w : World) (p : Po) (t : TypeId) : PoAt (w.alloc (.cells p.cells t)) w.heap.size p := by
  have h : ∀ k v, p.cells[k]? = some v → (w.alloc (.cells p.cells t)).cell? ⟨w.heap.size, k, none⟩ = some v := fun k v hv => by
    unfold World.cell?
    rw [heap_alloc_new]
    exact hv
  exact ⟨alloc_lt w _, h 0 _ rfl, h 1 _ rfl, h 2 _ rfl, h 3 _ rfl, h 4 _ rfl, h 5 _ rfl⟩

/-- what stands while a port is looked at -/
structure PoS (w W : World) (b : Nat) (p : Po) : Prop where
  bel : Below w.heap.size w W
  p : PoAt W b p
  g : Glo W
theorem PoS.below {w W W' : World} {b : Nat} {p : Po} (h : PoS w W b p) (hb : Below W.heap.size W W') : PoS w W' b p :=
  ⟨h.bel.trans (hb.mono h.bel.size), h.p.below hb (Nat.le_refl _), h.g.below hb (Nat.le_refl _)⟩
theorem PoS.drew {w W : World} {b : Nat} {p : Po} (h : PoS w W b p) : PoS w W.drew b p := h.below (Below.refl _ _).drew

/-- may a port be, but for its partition? -/
def PortB (p : Po) : Bool := (decide (p.kind = 1) || decide (p.kind = 2)) && (decide (p.dir = 1) || decide (p.dir = 2)) && inB p.size 1 32 &&
  (if p.kind = 1 then inB p.depth 0 0 else inB p.depth 1 8) && (if p.kind = 1 ∧ p.dir = 2 then inB p.fresh 1 65535 else inB p.fresh 0 0)

theorem sA {α : Type} (l : List α) (i : Nat) (a : α) : l.toArray.setIfInBounds i a = (l.set i a).toArray := List.setIfInBounds_toArray l i a
theorem sZ {α : Type} (a b : α) (l : List α) : (a :: l).set 0 b = b :: l := rfl
theorem sS {α : Type} (a b : α) (l : List α) (n : Nat) : (a :: l).set (n + 1) b = a :: l.set n b := rfl
section
variable {P : Program} {ops : Array Oper} {Q : Exit → Act → World → Prop} {md : Region.Mode} {S : World → Prop} {i : Nat} {oi : Oper} {v : Value} {fuel : Nat} {listed : Array Bool} {a : Act} {w : World}
/-- the next operation, which yields v into d -/
theorem tkW (d : Nat) (hi : ops[i]? = some oi) (hd : oi.dst = some d) (hb : (Region.noSelect ops && (Region.free md ops listed i && ((Region.ready md ops listed).contains i && Region.wanted oi (yielded ops a.tmps)))) = true)
    (hQ : ∀ c a w, Q (.panic c) (a.put (some d) v) w → Q (.panic c) a w) (hy : ∀ w, S w → (execOp a.eval oi).run P w = .ok (.value v) w) (hS : S w)
    (h : wpAnyH P md ops Q S fuel (listed.setIfInBounds i true) (a.put (some d) v) w) : wpAnyH P md ops Q S (fuel + 1) listed a w := by
  simp only [Bool.and_eq_true] at hb
  rw [← hd] at h hQ
  exact wpAnyH_take hi hb.1 hb.2.1 hb.2.2.1 hQ (.inl ⟨hb.2.2.2, hy⟩) hS h
/-- the next operation, which nobody asks for -/
theorem tkU (d : Nat) (hi : ops[i]? = some oi) (hd : oi.dst = some d) (hb : (Region.noSelect ops && (Region.free md ops listed i && ((Region.ready md ops listed).contains i && !Region.wanted oi (yielded ops a.tmps)))) = true)
    (hQ : ∀ c a w, Q (.panic c) (a.put (some d) undef) w → Q (.panic c) a w) (hS : S w)
    (h : wpAnyH P md ops Q S fuel (listed.setIfInBounds i true) (a.put (some d) undef) w) : wpAnyH P md ops Q S (fuel + 1) listed a w := by
  simp only [Bool.and_eq_true, Bool.not_eq_true'] at hb
  rw [← hd] at h hQ
  exact wpAnyH_take hi hb.1 hb.2.1 hb.2.2.1 hQ (.inr ⟨hb.2.2.2, rfl⟩) hS h
end

set_option maxRecDepth 100000 in
set_option maxHeartbeats 8000000 in
theorem port_any (p : Po) (w : World) (hg : Glo w) :
    Calls Tryd.prog 48 #[.agg p.cells] w fun e w' => e = .returned (.bool (PortB p)) ∧ Below w.heap.size w w' := by
  have ha := (Below.refl w.heap.size w).alloc (Nat.le_refl _) (.cells p.cells 49)
  have hS : PoS w (w.alloc (.cells p.cells 49)) w.heap.size p := ⟨ha, po_new w p _, hg.below ha (Nat.le_refl _)⟩
  clear hg ha
  obtain ⟨part, kind, dir, size, depth, fresh⟩ := p
  unfold Po.cells at hS ⊢
  dsimp only at hS ⊢
  go_enter Tryd.func48, Tryd.ntmps48
  by_cases hk : kind = 1 ∨ kind = 2
  · by_cases hd : dir = 1 ∨ dir = 2
    · rcases hk with rfl | rfl <;> rcases hd with rfl | rfl <;> (obtain ⟨hb, ⟨hl, c0, c1, c2, c3, c4, c5⟩, hg⟩ := id hS) <;> dsimp only at c0 c1 c2 c3 c4 c5
      · have d0 := hg.d 2 0 rfl
        have d1 := hg.d 3 0 rfl
        have f0 := hg.f 8 0 rfl
        have f1 := hg.f 9 0 rfl
        obtain ⟨q1, h1⟩ : ∃ q, inB size 1 32 = q := ⟨_, rfl⟩
        obtain ⟨q2, h2⟩ : ∃ q, inB depth 0 0 = q := ⟨_, rfl⟩
        obtain ⟨q3, h3⟩ : ∃ q, inB fresh 0 0 = q := ⟨_, rfl⟩
        have HK : Hid (PortB ⟨part, 1, 1, size, depth, fresh⟩ = (q1 && q2 && q3)) := by
          show _ = _
          unfold PortB
          simp [h1, h2, h3]
        replace h1 := hide h1
        replace h2 := hide h2
        replace h3 := hide h3
        cases q1
        · go_upto_region 3 with fail
          replace hS := hS.drew
          refine wp_region_held_drew (S := fun w' => w'.cell? ⟨w.heap.size, 1, none⟩ = some (.int .i64 1) ∧ w'.cell? ⟨w.heap.size, 2, none⟩ = some (.int .i64 1) ∧ w'.cell? ⟨w.heap.size, 3, none⟩ = some (.int .i64 size) ∧ w'.cell? ⟨w.heap.size, 4, none⟩ = some (.int .i64 depth) ∧ w'.cell? ⟨w.heap.size, 5, none⟩ = some (.int .i64 fresh) ∧ w'.cell? ⟨0, 2, none⟩ = some (.int .i64 0) ∧ w'.cell? ⟨0, 3, none⟩ = some (.int .i64 0) ∧ w'.cell? ⟨1, 8, none⟩ = some (.int .i64 0) ∧ w'.cell? ⟨1, 9, none⟩ = some (.int .i64 0)) (by kernel_rfl) (⟨c1, c2, c3, c4, c5, d0, d1, f0, f1⟩) (fun hHeld => ?_)
          refine tkW 21 (i := 0) (v := ?v1_0) rfl rfl (by kernel_rfl) (fun _ _ _ h => h) ?y1_0 (by assumption) ?r1_0
          case y1_0 => (intro W hSW; (try dsimp only at hSW); go_simp; (try with_reducible rfl))
          (try simp only [Act.put, sA, sZ, sS])
          refine tkW 22 (i := 1) (v := ?v1_1) rfl rfl (by kernel_rfl) (fun _ _ _ h => h) ?y1_1 (by assumption) ?r1_1
          case y1_1 => (intro W hSW; (try dsimp only at hSW); go_simp; (try with_reducible rfl))
          (try simp only [Act.put, sA, sZ, sS])
          refine tkW 23 (i := 2) (v := ?v1_2) rfl rfl (by kernel_rfl) (fun _ _ _ h => h) ?y1_2 (by assumption) ?r1_2
          case y1_2 => (intro W hSW; (try dsimp only at hSW); go_simp; (try with_reducible rfl))
          (try simp only [Act.put, sA, sZ, sS])
          refine wpAnyH_ready (rs := [3]) (by kernel_rfl) (by simp) ?_
          refine AllReadyH.cons rfl (fun K hK => ?_) AllReadyH.nil
          rw [if_pos (by rfl)]
          go_simp
          refine (within_any _ _ _ _).mono ?_
          rintro e w1 ⟨rfl, hb1⟩
          clear hb hl c0 c1 c2 c3 c4 c5 d0 d1 f0 f1 hg hHeld
          replace hS := hS.below hb1
          clear hb1
          obtain ⟨hb, ⟨hl, c0, c1, c2, c3, c4, c5⟩, hg⟩ := id hS
          dsimp only at c0 c1 c2 c3 c4 c5
          have d0 := hg.d 2 0 rfl
          have d1 := hg.d 3 0 rfl
          have f0 := hg.f 8 0 rfl
          have f1 := hg.f 9 0 rfl
          (first | rw [h1.out] | rw [h2.out] | rw [h3.out])
          go_wp2_with fail
          refine hK.out _ _ (⟨c1, c2, c3, c4, c5, d0, d1, f0, f1⟩) (fun hHeld => ?_)
          clear hK K
          (try simp only [Act.put, sA, sZ, sS])
          refine tkW 25 (i := 4) (v := ?v1_4) rfl rfl (by kernel_rfl) (fun _ _ _ h => h) ?y1_4 (by assumption) ?r1_4
          case y1_4 => (intro W hSW; (try dsimp only at hSW); go_simp; (try with_reducible rfl))
          (try simp only [Act.put, sA, sZ, sS])
          refine tkU 26 (i := 5) rfl rfl (by kernel_rfl) (fun _ _ _ h => h) (by assumption) ?_
          (try simp only [Act.put, sA, sZ, sS])
          refine tkU 27 (i := 6) rfl rfl (by kernel_rfl) (fun _ _ _ h => h) (by assumption) ?_
          (try simp only [Act.put, sA, sZ, sS])
          refine tkU 28 (i := 7) rfl rfl (by kernel_rfl) (fun _ _ _ h => h) (by assumption) ?_
          (try simp only [Act.put, sA, sZ, sS])
          refine tkU 29 (i := 8) rfl rfl (by kernel_rfl) (fun _ _ _ h => h) (by assumption) ?_
          (try simp only [Act.put, sA, sZ, sS])
          refine tkU 30 (i := 9) rfl rfl (by kernel_rfl) (fun _ _ _ h => h) (by assumption) ?_
          (try simp only [Act.put, sA, sZ, sS])
          refine tkU 31 (i := 10) rfl rfl (by kernel_rfl) (fun _ _ _ h => h) (by assumption) ?_
          (try simp only [Act.put, sA, sZ, sS])
          refine tkU 32 (i := 11) rfl rfl (by kernel_rfl) (fun _ _ _ h => h) (by assumption) ?_
          (try simp only [Act.put, sA, sZ, sS])
          refine tkW 33 (i := 12) (v := ?v1_12) rfl rfl (by kernel_rfl) (fun _ _ _ h => h) ?y1_12 (by assumption) ?r1_12
          case y1_12 => (intro W hSW; (try dsimp only at hSW); go_simp; (try with_reducible rfl))
          (try simp only [Act.put, sA, sZ, sS])
          refine tkW 34 (i := 13) (v := ?v1_13) rfl rfl (by kernel_rfl) (fun _ _ _ h => h) ?y1_13 (by assumption) ?r1_13
          case y1_13 => (intro W hSW; (try dsimp only at hSW); go_simp; (try with_reducible rfl))
          (try simp only [Act.put, sA, sZ, sS])
          refine tkU 35 (i := 14) rfl rfl (by kernel_rfl) (fun _ _ _ h => h) (by assumption) ?_
          (try simp only [Act.put, sA, sZ, sS])
          refine tkU 36 (i := 15) rfl rfl (by kernel_rfl) (fun _ _ _ h => h) (by assumption) ?_
          (try simp only [Act.put, sA, sZ, sS])
          refine tkU 37 (i := 16) rfl rfl (by kernel_rfl) (fun _ _ _ h => h) (by assumption) ?_
          (try simp only [Act.put, sA, sZ, sS])
          refine tkU 38 (i := 17) rfl rfl (by kernel_rfl) (fun _ _ _ h => h) (by assumption) ?_
          (try simp only [Act.put, sA, sZ, sS])
          refine tkU 39 (i := 18) rfl rfl (by kernel_rfl) (fun _ _ _ h => h) (by assumption) ?_
          (try simp only [Act.put, sA, sZ, sS])
          refine tkU 40 (i := 19) rfl rfl (by kernel_rfl) (fun _ _ _ h => h) (by assumption) ?_
          (try simp only [Act.put, sA, sZ, sS])
          refine tkU 41 (i := 20) rfl rfl (by kernel_rfl) (fun _ _ _ h => h) (by assumption) ?_
          (try simp only [Act.put, sA, sZ, sS])
          refine tkU 42 (i := 21) rfl rfl (by kernel_rfl) (fun _ _ _ h => h) (by assumption) ?_
          (try simp only [Act.put, sA, sZ, sS])
          refine tkU 43 (i := 22) rfl rfl (by kernel_rfl) (fun _ _ _ h => h) (by assumption) ?_
          (try simp only [Act.put, sA, sZ, sS])
          refine tkU 44 (i := 23) rfl rfl (by kernel_rfl) (fun _ _ _ h => h) (by assumption) ?_
          (try simp only [Act.put, sA, sZ, sS])
          refine tkW 45 (i := 24) (v := ?v1_24) rfl rfl (by kernel_rfl) (fun _ _ _ h => h) ?y1_24 (by assumption) ?r1_24
          case y1_24 => (intro W hSW; (try dsimp only at hSW); go_simp; (try with_reducible rfl))
          (try simp only [Act.put, sA, sZ, sS])
          refine tkW 2 (i := 25) (v := ?v1_25) rfl rfl (by kernel_rfl) (fun _ _ _ h => h) ?y1_25 (by assumption) ?r1_25
          case y1_25 => (intro W hSW; (try dsimp only at hSW); go_simp; (try with_reducible rfl))
          (try simp only [Act.put, sA, sZ, sS])
          refine wpAnyH_done (by kernel_rfl) ?_ _
          go_wp2_with fail
          go_ret
          exact ⟨by rw [HK.out]; rfl, hb⟩
        · cases q2
          · go_upto_region 3 with fail
            replace hS := hS.drew
            refine wp_region_held_drew (S := fun w' => w'.cell? ⟨w.heap.size, 1, none⟩ = some (.int .i64 1) ∧ w'.cell? ⟨w.heap.size, 2, none⟩ = some (.int .i64 1) ∧ w'.cell? ⟨w.heap.size, 3, none⟩ = some (.int .i64 size) ∧ w'.cell? ⟨w.heap.size, 4, none⟩ = some (.int .i64 depth) ∧ w'.cell? ⟨w.heap.size, 5, none⟩ = some (.int .i64 fresh) ∧ w'.cell? ⟨0, 2, none⟩ = some (.int .i64 0) ∧ w'.cell? ⟨0, 3, none⟩ = some (.int .i64 0) ∧ w'.cell? ⟨1, 8, none⟩ = some (.int .i64 0) ∧ w'.cell? ⟨1, 9, none⟩ = some (.int .i64 0)) (by kernel_rfl) (⟨c1, c2, c3, c4, c5, d0, d1, f0, f1⟩) (fun hHeld => ?_)
            refine tkW 21 (i := 0) (v := ?v2_0) rfl rfl (by kernel_rfl) (fun _ _ _ h => h) ?y2_0 (by assumption) ?r2_0
            case y2_0 => (intro W hSW; (try dsimp only at hSW); go_simp; (try with_reducible rfl))
            (try simp only [Act.put, sA, sZ, sS])
            refine tkW 22 (i := 1) (v := ?v2_1) rfl rfl (by kernel_rfl) (fun _ _ _ h => h) ?y2_1 (by assumption) ?r2_1
            case y2_1 => (intro W hSW; (try dsimp only at hSW); go_simp; (try with_reducible rfl))
            (try simp only [Act.put, sA, sZ, sS])
            refine tkW 23 (i := 2) (v := ?v2_2) rfl rfl (by kernel_rfl) (fun _ _ _ h => h) ?y2_2 (by assumption) ?r2_2
            case y2_2 => (intro W hSW; (try dsimp only at hSW); go_simp; (try with_reducible rfl))
            (try simp only [Act.put, sA, sZ, sS])
            refine wpAnyH_ready (rs := [3]) (by kernel_rfl) (by simp) ?_
            refine AllReadyH.cons rfl (fun K hK => ?_) AllReadyH.nil
            rw [if_pos (by rfl)]
            go_simp
            refine (within_any _ _ _ _).mono ?_
            rintro e w1 ⟨rfl, hb1⟩
            clear hb hl c0 c1 c2 c3 c4 c5 d0 d1 f0 f1 hg hHeld
            replace hS := hS.below hb1
            clear hb1
            obtain ⟨hb, ⟨hl, c0, c1, c2, c3, c4, c5⟩, hg⟩ := id hS
            dsimp only at c0 c1 c2 c3 c4 c5
            have d0 := hg.d 2 0 rfl
            have d1 := hg.d 3 0 rfl
            have f0 := hg.f 8 0 rfl
            have f1 := hg.f 9 0 rfl
            (first | rw [h1.out] | rw [h2.out] | rw [h3.out])
            go_wp2_with fail
            refine hK.out _ _ (⟨c1, c2, c3, c4, c5, d0, d1, f0, f1⟩) (fun hHeld => ?_)
            clear hK K
            (try simp only [Act.put, sA, sZ, sS])
            refine tkW 25 (i := 4) (v := ?v2_4) rfl rfl (by kernel_rfl) (fun _ _ _ h => h) ?y2_4 (by assumption) ?r2_4
            case y2_4 => (intro W hSW; (try dsimp only at hSW); go_simp; (try with_reducible rfl))
            (try simp only [Act.put, sA, sZ, sS])
            refine tkW 26 (i := 5) (v := ?v2_5) rfl rfl (by kernel_rfl) (fun _ _ _ h => h) ?y2_5 (by assumption) ?r2_5
            case y2_5 => (intro W hSW; (try dsimp only at hSW); go_simp; (try with_reducible rfl))
            (try simp only [Act.put, sA, sZ, sS])
            refine tkW 27 (i := 6) (v := ?v2_6) rfl rfl (by kernel_rfl) (fun _ _ _ h => h) ?y2_6 (by assumption) ?r2_6
            case y2_6 => (intro W hSW; (try dsimp only at hSW); go_simp; (try with_reducible rfl))
            (try simp only [Act.put, sA, sZ, sS])
            refine tkW 28 (i := 7) (v := ?v2_7) rfl rfl (by kernel_rfl) (fun _ _ _ h => h) ?y2_7 (by assumption) ?r2_7
            case y2_7 => (intro W hSW; (try dsimp only at hSW); go_simp; (try with_reducible rfl))
            (try simp only [Act.put, sA, sZ, sS])
            refine tkW 29 (i := 8) (v := ?v2_8) rfl rfl (by kernel_rfl) (fun _ _ _ h => h) ?y2_8 (by assumption) ?r2_8
            case y2_8 => (intro W hSW; (try dsimp only at hSW); go_simp; (try with_reducible rfl))
            (try simp only [Act.put, sA, sZ, sS])
            refine tkW 30 (i := 9) (v := ?v2_9) rfl rfl (by kernel_rfl) (fun _ _ _ h => h) ?y2_9 (by assumption) ?r2_9
            case y2_9 => (intro W hSW; (try dsimp only at hSW); go_simp; (try with_reducible rfl))
            (try simp only [Act.put, sA, sZ, sS])
            refine tkW 31 (i := 10) (v := ?v2_10) rfl rfl (by kernel_rfl) (fun _ _ _ h => h) ?y2_10 (by assumption) ?r2_10
            case y2_10 => (intro W hSW; (try dsimp only at hSW); go_simp; (try with_reducible rfl))
            (try simp only [Act.put, sA, sZ, sS])
            refine wpAnyH_ready (rs := [11]) (by kernel_rfl) (by simp) ?_
            refine AllReadyH.cons rfl (fun K hK => ?_) AllReadyH.nil
            rw [if_pos (by rfl)]
            go_simp
            refine (within_any _ _ _ _).mono ?_
            rintro e w1 ⟨rfl, hb1⟩
            clear hb hl c0 c1 c2 c3 c4 c5 d0 d1 f0 f1 hg hHeld
            replace hS := hS.below hb1
            clear hb1
            obtain ⟨hb, ⟨hl, c0, c1, c2, c3, c4, c5⟩, hg⟩ := id hS
            dsimp only at c0 c1 c2 c3 c4 c5
            have d0 := hg.d 2 0 rfl
            have d1 := hg.d 3 0 rfl
            have f0 := hg.f 8 0 rfl
            have f1 := hg.f 9 0 rfl
            (first | rw [h1.out] | rw [h2.out] | rw [h3.out])
            go_wp2_with fail
            refine hK.out _ _ (⟨c1, c2, c3, c4, c5, d0, d1, f0, f1⟩) (fun hHeld => ?_)
            clear hK K
            (try simp only [Act.put, sA, sZ, sS])
            refine tkW 33 (i := 12) (v := ?v2_12) rfl rfl (by kernel_rfl) (fun _ _ _ h => h) ?y2_12 (by assumption) ?r2_12
            case y2_12 => (intro W hSW; (try dsimp only at hSW); go_simp; (try with_reducible rfl))
            (try simp only [Act.put, sA, sZ, sS])
            refine tkW 34 (i := 13) (v := ?v2_13) rfl rfl (by kernel_rfl) (fun _ _ _ h => h) ?y2_13 (by assumption) ?r2_13
            case y2_13 => (intro W hSW; (try dsimp only at hSW); go_simp; (try with_reducible rfl))
            (try simp only [Act.put, sA, sZ, sS])
            refine tkU 35 (i := 14) rfl rfl (by kernel_rfl) (fun _ _ _ h => h) (by assumption) ?_
            (try simp only [Act.put, sA, sZ, sS])
            refine tkU 36 (i := 15) rfl rfl (by kernel_rfl) (fun _ _ _ h => h) (by assumption) ?_
            (try simp only [Act.put, sA, sZ, sS])
            refine tkU 37 (i := 16) rfl rfl (by kernel_rfl) (fun _ _ _ h => h) (by assumption) ?_
            (try simp only [Act.put, sA, sZ, sS])
            refine tkU 38 (i := 17) rfl rfl (by kernel_rfl) (fun _ _ _ h => h) (by assumption) ?_
            (try simp only [Act.put, sA, sZ, sS])
            refine tkU 39 (i := 18) rfl rfl (by kernel_rfl) (fun _ _ _ h => h) (by assumption) ?_
            (try simp only [Act.put, sA, sZ, sS])
            refine tkU 40 (i := 19) rfl rfl (by kernel_rfl) (fun _ _ _ h => h) (by assumption) ?_
            (try simp only [Act.put, sA, sZ, sS])
            refine tkU 41 (i := 20) rfl rfl (by kernel_rfl) (fun _ _ _ h => h) (by assumption) ?_
            (try simp only [Act.put, sA, sZ, sS])
            refine tkU 42 (i := 21) rfl rfl (by kernel_rfl) (fun _ _ _ h => h) (by assumption) ?_
            (try simp only [Act.put, sA, sZ, sS])
            refine tkU 43 (i := 22) rfl rfl (by kernel_rfl) (fun _ _ _ h => h) (by assumption) ?_
            (try simp only [Act.put, sA, sZ, sS])
            refine tkU 44 (i := 23) rfl rfl (by kernel_rfl) (fun _ _ _ h => h) (by assumption) ?_
            (try simp only [Act.put, sA, sZ, sS])
            refine tkW 45 (i := 24) (v := ?v2_24) rfl rfl (by kernel_rfl) (fun _ _ _ h => h) ?y2_24 (by assumption) ?r2_24
            case y2_24 => (intro W hSW; (try dsimp only at hSW); go_simp; (try with_reducible rfl))
            (try simp only [Act.put, sA, sZ, sS])
            refine tkW 2 (i := 25) (v := ?v2_25) rfl rfl (by kernel_rfl) (fun _ _ _ h => h) ?y2_25 (by assumption) ?r2_25
            case y2_25 => (intro W hSW; (try dsimp only at hSW); go_simp; (try with_reducible rfl))
            (try simp only [Act.put, sA, sZ, sS])
            refine wpAnyH_done (by kernel_rfl) ?_ _
            go_wp2_with fail
            go_ret
            exact ⟨by rw [HK.out]; rfl, hb⟩
          · go_upto_region 3 with fail
            replace hS := hS.drew
            refine wp_region_held_drew (S := fun w' => w'.cell? ⟨w.heap.size, 1, none⟩ = some (.int .i64 1) ∧ w'.cell? ⟨w.heap.size, 2, none⟩ = some (.int .i64 1) ∧ w'.cell? ⟨w.heap.size, 3, none⟩ = some (.int .i64 size) ∧ w'.cell? ⟨w.heap.size, 4, none⟩ = some (.int .i64 depth) ∧ w'.cell? ⟨w.heap.size, 5, none⟩ = some (.int .i64 fresh) ∧ w'.cell? ⟨0, 2, none⟩ = some (.int .i64 0) ∧ w'.cell? ⟨0, 3, none⟩ = some (.int .i64 0) ∧ w'.cell? ⟨1, 8, none⟩ = some (.int .i64 0) ∧ w'.cell? ⟨1, 9, none⟩ = some (.int .i64 0)) (by kernel_rfl) (⟨c1, c2, c3, c4, c5, d0, d1, f0, f1⟩) (fun hHeld => ?_)
            refine tkW 21 (i := 0) (v := ?v3_0) rfl rfl (by kernel_rfl) (fun _ _ _ h => h) ?y3_0 (by assumption) ?r3_0
            case y3_0 => (intro W hSW; (try dsimp only at hSW); go_simp; (try with_reducible rfl))
            (try simp only [Act.put, sA, sZ, sS])
            refine tkW 22 (i := 1) (v := ?v3_1) rfl rfl (by kernel_rfl) (fun _ _ _ h => h) ?y3_1 (by assumption) ?r3_1
            case y3_1 => (intro W hSW; (try dsimp only at hSW); go_simp; (try with_reducible rfl))
            (try simp only [Act.put, sA, sZ, sS])
            refine tkW 23 (i := 2) (v := ?v3_2) rfl rfl (by kernel_rfl) (fun _ _ _ h => h) ?y3_2 (by assumption) ?r3_2
            case y3_2 => (intro W hSW; (try dsimp only at hSW); go_simp; (try with_reducible rfl))
            (try simp only [Act.put, sA, sZ, sS])
            refine wpAnyH_ready (rs := [3]) (by kernel_rfl) (by simp) ?_
            refine AllReadyH.cons rfl (fun K hK => ?_) AllReadyH.nil
            rw [if_pos (by rfl)]
            go_simp
            refine (within_any _ _ _ _).mono ?_
            rintro e w1 ⟨rfl, hb1⟩
            clear hb hl c0 c1 c2 c3 c4 c5 d0 d1 f0 f1 hg hHeld
            replace hS := hS.below hb1
            clear hb1
            obtain ⟨hb, ⟨hl, c0, c1, c2, c3, c4, c5⟩, hg⟩ := id hS
            dsimp only at c0 c1 c2 c3 c4 c5
            have d0 := hg.d 2 0 rfl
            have d1 := hg.d 3 0 rfl
            have f0 := hg.f 8 0 rfl
            have f1 := hg.f 9 0 rfl
            (first | rw [h1.out] | rw [h2.out] | rw [h3.out])
            go_wp2_with fail
            refine hK.out _ _ (⟨c1, c2, c3, c4, c5, d0, d1, f0, f1⟩) (fun hHeld => ?_)
            clear hK K
            (try simp only [Act.put, sA, sZ, sS])
            refine tkW 25 (i := 4) (v := ?v3_4) rfl rfl (by kernel_rfl) (fun _ _ _ h => h) ?y3_4 (by assumption) ?r3_4
            case y3_4 => (intro W hSW; (try dsimp only at hSW); go_simp; (try with_reducible rfl))
            (try simp only [Act.put, sA, sZ, sS])
            refine tkW 26 (i := 5) (v := ?v3_5) rfl rfl (by kernel_rfl) (fun _ _ _ h => h) ?y3_5 (by assumption) ?r3_5
            case y3_5 => (intro W hSW; (try dsimp only at hSW); go_simp; (try with_reducible rfl))
            (try simp only [Act.put, sA, sZ, sS])
            refine tkW 27 (i := 6) (v := ?v3_6) rfl rfl (by kernel_rfl) (fun _ _ _ h => h) ?y3_6 (by assumption) ?r3_6
            case y3_6 => (intro W hSW; (try dsimp only at hSW); go_simp; (try with_reducible rfl))
            (try simp only [Act.put, sA, sZ, sS])
            refine tkW 28 (i := 7) (v := ?v3_7) rfl rfl (by kernel_rfl) (fun _ _ _ h => h) ?y3_7 (by assumption) ?r3_7
            case y3_7 => (intro W hSW; (try dsimp only at hSW); go_simp; (try with_reducible rfl))
            (try simp only [Act.put, sA, sZ, sS])
            refine tkW 29 (i := 8) (v := ?v3_8) rfl rfl (by kernel_rfl) (fun _ _ _ h => h) ?y3_8 (by assumption) ?r3_8
            case y3_8 => (intro W hSW; (try dsimp only at hSW); go_simp; (try with_reducible rfl))
            (try simp only [Act.put, sA, sZ, sS])
            refine tkW 30 (i := 9) (v := ?v3_9) rfl rfl (by kernel_rfl) (fun _ _ _ h => h) ?y3_9 (by assumption) ?r3_9
            case y3_9 => (intro W hSW; (try dsimp only at hSW); go_simp; (try with_reducible rfl))
            (try simp only [Act.put, sA, sZ, sS])
            refine tkW 31 (i := 10) (v := ?v3_10) rfl rfl (by kernel_rfl) (fun _ _ _ h => h) ?y3_10 (by assumption) ?r3_10
            case y3_10 => (intro W hSW; (try dsimp only at hSW); go_simp; (try with_reducible rfl))
            (try simp only [Act.put, sA, sZ, sS])
            refine wpAnyH_ready (rs := [11]) (by kernel_rfl) (by simp) ?_
            refine AllReadyH.cons rfl (fun K hK => ?_) AllReadyH.nil
            rw [if_pos (by rfl)]
            go_simp
            refine (within_any _ _ _ _).mono ?_
            rintro e w1 ⟨rfl, hb1⟩
            clear hb hl c0 c1 c2 c3 c4 c5 d0 d1 f0 f1 hg hHeld
            replace hS := hS.below hb1
            clear hb1
            obtain ⟨hb, ⟨hl, c0, c1, c2, c3, c4, c5⟩, hg⟩ := id hS
            dsimp only at c0 c1 c2 c3 c4 c5
            have d0 := hg.d 2 0 rfl
            have d1 := hg.d 3 0 rfl
            have f0 := hg.f 8 0 rfl
            have f1 := hg.f 9 0 rfl
            (first | rw [h1.out] | rw [h2.out] | rw [h3.out])
            go_wp2_with fail
            refine hK.out _ _ (⟨c1, c2, c3, c4, c5, d0, d1, f0, f1⟩) (fun hHeld => ?_)
            clear hK K
            (try simp only [Act.put, sA, sZ, sS])
            refine tkW 33 (i := 12) (v := ?v3_12) rfl rfl (by kernel_rfl) (fun _ _ _ h => h) ?y3_12 (by assumption) ?r3_12
            case y3_12 => (intro W hSW; (try dsimp only at hSW); go_simp; (try with_reducible rfl))
            (try simp only [Act.put, sA, sZ, sS])
            refine tkW 34 (i := 13) (v := ?v3_13) rfl rfl (by kernel_rfl) (fun _ _ _ h => h) ?y3_13 (by assumption) ?r3_13
            case y3_13 => (intro W hSW; (try dsimp only at hSW); go_simp; (try with_reducible rfl))
            (try simp only [Act.put, sA, sZ, sS])
            refine tkW 35 (i := 14) (v := ?v3_14) rfl rfl (by kernel_rfl) (fun _ _ _ h => h) ?y3_14 (by assumption) ?r3_14
            case y3_14 => (intro W hSW; (try dsimp only at hSW); go_simp; (try with_reducible rfl))
            (try simp only [Act.put, sA, sZ, sS])
            refine tkW 36 (i := 15) (v := ?v3_15) rfl rfl (by kernel_rfl) (fun _ _ _ h => h) ?y3_15 (by assumption) ?r3_15
            case y3_15 => (intro W hSW; (try dsimp only at hSW); go_simp; (try with_reducible rfl))
            (try simp only [Act.put, sA, sZ, sS])
            refine tkW 37 (i := 16) (v := ?v3_16) rfl rfl (by kernel_rfl) (fun _ _ _ h => h) ?y3_16 (by assumption) ?r3_16
            case y3_16 => (intro W hSW; (try dsimp only at hSW); go_simp; (try with_reducible rfl))
            (try simp only [Act.put, sA, sZ, sS])
            refine tkW 38 (i := 17) (v := ?v3_17) rfl rfl (by kernel_rfl) (fun _ _ _ h => h) ?y3_17 (by assumption) ?r3_17
            case y3_17 => (intro W hSW; (try dsimp only at hSW); go_simp; (try with_reducible rfl))
            (try simp only [Act.put, sA, sZ, sS])
            refine tkW 39 (i := 18) (v := ?v3_18) rfl rfl (by kernel_rfl) (fun _ _ _ h => h) ?y3_18 (by assumption) ?r3_18
            case y3_18 => (intro W hSW; (try dsimp only at hSW); go_simp; (try with_reducible rfl))
            (try simp only [Act.put, sA, sZ, sS])
            refine tkW 40 (i := 19) (v := ?v3_19) rfl rfl (by kernel_rfl) (fun _ _ _ h => h) ?y3_19 (by assumption) ?r3_19
            case y3_19 => (intro W hSW; (try dsimp only at hSW); go_simp; (try with_reducible rfl))
            (try simp only [Act.put, sA, sZ, sS])
            refine tkW 41 (i := 20) (v := ?v3_20) rfl rfl (by kernel_rfl) (fun _ _ _ h => h) ?y3_20 (by assumption) ?r3_20
            case y3_20 => (intro W hSW; (try dsimp only at hSW); go_simp; (try with_reducible rfl))
            (try simp only [Act.put, sA, sZ, sS])
            refine tkW 42 (i := 21) (v := ?v3_21) rfl rfl (by kernel_rfl) (fun _ _ _ h => h) ?y3_21 (by assumption) ?r3_21
            case y3_21 => (intro W hSW; (try dsimp only at hSW); go_simp; (try with_reducible rfl))
            (try simp only [Act.put, sA, sZ, sS])
            refine tkW 43 (i := 22) (v := ?v3_22) rfl rfl (by kernel_rfl) (fun _ _ _ h => h) ?y3_22 (by assumption) ?r3_22
            case y3_22 => (intro W hSW; (try dsimp only at hSW); go_simp; (try with_reducible rfl))
            (try simp only [Act.put, sA, sZ, sS])
            refine wpAnyH_ready (rs := [23]) (by kernel_rfl) (by simp) ?_
            refine AllReadyH.cons rfl (fun K hK => ?_) AllReadyH.nil
            rw [if_pos (by rfl)]
            go_simp
            refine (within_any _ _ _ _).mono ?_
            rintro e w1 ⟨rfl, hb1⟩
            clear hb hl c0 c1 c2 c3 c4 c5 d0 d1 f0 f1 hg hHeld
            replace hS := hS.below hb1
            clear hb1
            obtain ⟨hb, ⟨hl, c0, c1, c2, c3, c4, c5⟩, hg⟩ := id hS
            dsimp only at c0 c1 c2 c3 c4 c5
            have d0 := hg.d 2 0 rfl
            have d1 := hg.d 3 0 rfl
            have f0 := hg.f 8 0 rfl
            have f1 := hg.f 9 0 rfl
            (first | rw [h1.out] | rw [h2.out] | rw [h3.out])
            go_wp2_with fail
            refine hK.out _ _ (⟨c1, c2, c3, c4, c5, d0, d1, f0, f1⟩) (fun hHeld => ?_)
            clear hK K
            (try simp only [Act.put, sA, sZ, sS])
            refine tkW 45 (i := 24) (v := ?v3_24) rfl rfl (by kernel_rfl) (fun _ _ _ h => h) ?y3_24 (by assumption) ?r3_24
            case y3_24 => (intro W hSW; (try dsimp only at hSW); go_simp; (try with_reducible rfl))
            (try simp only [Act.put, sA, sZ, sS])
            refine tkW 2 (i := 25) (v := ?v3_25) rfl rfl (by kernel_rfl) (fun _ _ _ h => h) ?y3_25 (by assumption) ?r3_25
            case y3_25 => (intro W hSW; (try dsimp only at hSW); go_simp; (try with_reducible rfl))
            (try simp only [Act.put, sA, sZ, sS])
            refine wpAnyH_done (by kernel_rfl) ?_ _
            go_wp2_with fail
            go_ret
            exact ⟨by rw [HK.out]; rfl, hb⟩
      · have d0 := hg.d 2 0 rfl
        have d1 := hg.d 3 0 rfl
        have f0 := hg.f 10 1 rfl
        have f1 := hg.f 11 65535 rfl
        obtain ⟨q1, h1⟩ : ∃ q, inB size 1 32 = q := ⟨_, rfl⟩
        obtain ⟨q2, h2⟩ : ∃ q, inB depth 0 0 = q := ⟨_, rfl⟩
        obtain ⟨q3, h3⟩ : ∃ q, inB fresh 1 65535 = q := ⟨_, rfl⟩
        have HK : Hid (PortB ⟨part, 1, 2, size, depth, fresh⟩ = (q1 && q2 && q3)) := by
          show _ = _
          unfold PortB
          simp [h1, h2, h3]
        replace h1 := hide h1
        replace h2 := hide h2
        replace h3 := hide h3
        cases q1
        · go_upto_region 3 with fail
          replace hS := hS.drew
          refine wp_region_held_drew (S := fun w' => w'.cell? ⟨w.heap.size, 1, none⟩ = some (.int .i64 1) ∧ w'.cell? ⟨w.heap.size, 2, none⟩ = some (.int .i64 2) ∧ w'.cell? ⟨w.heap.size, 3, none⟩ = some (.int .i64 size) ∧ w'.cell? ⟨w.heap.size, 4, none⟩ = some (.int .i64 depth) ∧ w'.cell? ⟨w.heap.size, 5, none⟩ = some (.int .i64 fresh) ∧ w'.cell? ⟨0, 2, none⟩ = some (.int .i64 0) ∧ w'.cell? ⟨0, 3, none⟩ = some (.int .i64 0) ∧ w'.cell? ⟨1, 10, none⟩ = some (.int .i64 1) ∧ w'.cell? ⟨1, 11, none⟩ = some (.int .i64 65535)) (by kernel_rfl) (⟨c1, c2, c3, c4, c5, d0, d1, f0, f1⟩) (fun hHeld => ?_)
          refine tkW 21 (i := 0) (v := ?v4_0) rfl rfl (by kernel_rfl) (fun _ _ _ h => h) ?y4_0 (by assumption) ?r4_0
          case y4_0 => (intro W hSW; (try dsimp only at hSW); go_simp; (try with_reducible rfl))
          (try simp only [Act.put, sA, sZ, sS])
          refine tkW 22 (i := 1) (v := ?v4_1) rfl rfl (by kernel_rfl) (fun _ _ _ h => h) ?y4_1 (by assumption) ?r4_1
          case y4_1 => (intro W hSW; (try dsimp only at hSW); go_simp; (try with_reducible rfl))
          (try simp only [Act.put, sA, sZ, sS])
          refine tkW 23 (i := 2) (v := ?v4_2) rfl rfl (by kernel_rfl) (fun _ _ _ h => h) ?y4_2 (by assumption) ?r4_2
          case y4_2 => (intro W hSW; (try dsimp only at hSW); go_simp; (try with_reducible rfl))
          (try simp only [Act.put, sA, sZ, sS])
          refine wpAnyH_ready (rs := [3]) (by kernel_rfl) (by simp) ?_
          refine AllReadyH.cons rfl (fun K hK => ?_) AllReadyH.nil
          rw [if_pos (by rfl)]
          go_simp
          refine (within_any _ _ _ _).mono ?_
          rintro e w1 ⟨rfl, hb1⟩
          clear hb hl c0 c1 c2 c3 c4 c5 d0 d1 f0 f1 hg hHeld
          replace hS := hS.below hb1
          clear hb1
          obtain ⟨hb, ⟨hl, c0, c1, c2, c3, c4, c5⟩, hg⟩ := id hS
          dsimp only at c0 c1 c2 c3 c4 c5
          have d0 := hg.d 2 0 rfl
          have d1 := hg.d 3 0 rfl
          have f0 := hg.f 10 1 rfl
          have f1 := hg.f 11 65535 rfl
          (first | rw [h1.out] | rw [h2.out] | rw [h3.out])
          go_wp2_with fail
          refine hK.out _ _ (⟨c1, c2, c3, c4, c5, d0, d1, f0, f1⟩) (fun hHeld => ?_)
          clear hK K
          (try simp only [Act.put, sA, sZ, sS])
          refine tkW 25 (i := 4) (v := ?v4_4) rfl rfl (by kernel_rfl) (fun _ _ _ h => h) ?y4_4 (by assumption) ?r4_4
          case y4_4 => (intro W hSW; (try dsimp only at hSW); go_simp; (try with_reducible rfl))
          (try simp only [Act.put, sA, sZ, sS])
          refine tkU 26 (i := 5) rfl rfl (by kernel_rfl) (fun _ _ _ h => h) (by assumption) ?_
          (try simp only [Act.put, sA, sZ, sS])
          refine tkU 27 (i := 6) rfl rfl (by kernel_rfl) (fun _ _ _ h => h) (by assumption) ?_
          (try simp only [Act.put, sA, sZ, sS])
          refine tkU 28 (i := 7) rfl rfl (by kernel_rfl) (fun _ _ _ h => h) (by assumption) ?_
          (try simp only [Act.put, sA, sZ, sS])
          refine tkU 29 (i := 8) rfl rfl (by kernel_rfl) (fun _ _ _ h => h) (by assumption) ?_
          (try simp only [Act.put, sA, sZ, sS])
          refine tkU 30 (i := 9) rfl rfl (by kernel_rfl) (fun _ _ _ h => h) (by assumption) ?_
          (try simp only [Act.put, sA, sZ, sS])
          refine tkU 31 (i := 10) rfl rfl (by kernel_rfl) (fun _ _ _ h => h) (by assumption) ?_
          (try simp only [Act.put, sA, sZ, sS])
          refine tkU 32 (i := 11) rfl rfl (by kernel_rfl) (fun _ _ _ h => h) (by assumption) ?_
          (try simp only [Act.put, sA, sZ, sS])
          refine tkW 33 (i := 12) (v := ?v4_12) rfl rfl (by kernel_rfl) (fun _ _ _ h => h) ?y4_12 (by assumption) ?r4_12
          case y4_12 => (intro W hSW; (try dsimp only at hSW); go_simp; (try with_reducible rfl))
          (try simp only [Act.put, sA, sZ, sS])
          refine tkW 34 (i := 13) (v := ?v4_13) rfl rfl (by kernel_rfl) (fun _ _ _ h => h) ?y4_13 (by assumption) ?r4_13
          case y4_13 => (intro W hSW; (try dsimp only at hSW); go_simp; (try with_reducible rfl))
          (try simp only [Act.put, sA, sZ, sS])
          refine tkU 35 (i := 14) rfl rfl (by kernel_rfl) (fun _ _ _ h => h) (by assumption) ?_
          (try simp only [Act.put, sA, sZ, sS])
          refine tkU 36 (i := 15) rfl rfl (by kernel_rfl) (fun _ _ _ h => h) (by assumption) ?_
          (try simp only [Act.put, sA, sZ, sS])
          refine tkU 37 (i := 16) rfl rfl (by kernel_rfl) (fun _ _ _ h => h) (by assumption) ?_
          (try simp only [Act.put, sA, sZ, sS])
          refine tkU 38 (i := 17) rfl rfl (by kernel_rfl) (fun _ _ _ h => h) (by assumption) ?_
          (try simp only [Act.put, sA, sZ, sS])
          refine tkU 39 (i := 18) rfl rfl (by kernel_rfl) (fun _ _ _ h => h) (by assumption) ?_
          (try simp only [Act.put, sA, sZ, sS])
          refine tkU 40 (i := 19) rfl rfl (by kernel_rfl) (fun _ _ _ h => h) (by assumption) ?_
          (try simp only [Act.put, sA, sZ, sS])
          refine tkU 41 (i := 20) rfl rfl (by kernel_rfl) (fun _ _ _ h => h) (by assumption) ?_
          (try simp only [Act.put, sA, sZ, sS])
          refine tkU 42 (i := 21) rfl rfl (by kernel_rfl) (fun _ _ _ h => h) (by assumption) ?_
          (try simp only [Act.put, sA, sZ, sS])
          refine tkU 43 (i := 22) rfl rfl (by kernel_rfl) (fun _ _ _ h => h) (by assumption) ?_
          (try simp only [Act.put, sA, sZ, sS])
          refine tkU 44 (i := 23) rfl rfl (by kernel_rfl) (fun _ _ _ h => h) (by assumption) ?_
          (try simp only [Act.put, sA, sZ, sS])
          refine tkW 45 (i := 24) (v := ?v4_24) rfl rfl (by kernel_rfl) (fun _ _ _ h => h) ?y4_24 (by assumption) ?r4_24
          case y4_24 => (intro W hSW; (try dsimp only at hSW); go_simp; (try with_reducible rfl))
          (try simp only [Act.put, sA, sZ, sS])
          refine tkW 2 (i := 25) (v := ?v4_25) rfl rfl (by kernel_rfl) (fun _ _ _ h => h) ?y4_25 (by assumption) ?r4_25
          case y4_25 => (intro W hSW; (try dsimp only at hSW); go_simp; (try with_reducible rfl))
          (try simp only [Act.put, sA, sZ, sS])
          refine wpAnyH_done (by kernel_rfl) ?_ _
          go_wp2_with fail
          go_ret
          exact ⟨by rw [HK.out]; rfl, hb⟩
        · cases q2
          · go_upto_region 3 with fail
            replace hS := hS.drew
            refine wp_region_held_drew (S := fun w' => w'.cell? ⟨w.heap.size, 1, none⟩ = some (.int .i64 1) ∧ w'.cell? ⟨w.heap.size, 2, none⟩ = some (.int .i64 2) ∧ w'.cell? ⟨w.heap.size, 3, none⟩ = some (.int .i64 size) ∧ w'.cell? ⟨w.heap.size, 4, none⟩ = some (.int .i64 depth) ∧ w'.cell? ⟨w.heap.size, 5, none⟩ = some (.int .i64 fresh) ∧ w'.cell? ⟨0, 2, none⟩ = some (.int .i64 0) ∧ w'.cell? ⟨0, 3, none⟩ = some (.int .i64 0) ∧ w'.cell? ⟨1, 10, none⟩ = some (.int .i64 1) ∧ w'.cell? ⟨1, 11, none⟩ = some (.int .i64 65535)) (by kernel_rfl) (⟨c1, c2, c3, c4, c5, d0, d1, f0, f1⟩) (fun hHeld => ?_)
            refine tkW 21 (i := 0) (v := ?v5_0) rfl rfl (by kernel_rfl) (fun _ _ _ h => h) ?y5_0 (by assumption) ?r5_0
            case y5_0 => (intro W hSW; (try dsimp only at hSW); go_simp; (try with_reducible rfl))
            (try simp only [Act.put, sA, sZ, sS])
            refine tkW 22 (i := 1) (v := ?v5_1) rfl rfl (by kernel_rfl) (fun _ _ _ h => h) ?y5_1 (by assumption) ?r5_1
            case y5_1 => (intro W hSW; (try dsimp only at hSW); go_simp; (try with_reducible rfl))
            (try simp only [Act.put, sA, sZ, sS])
            refine tkW 23 (i := 2) (v := ?v5_2) rfl rfl (by kernel_rfl) (fun _ _ _ h => h) ?y5_2 (by assumption) ?r5_2
            case y5_2 => (intro W hSW; (try dsimp only at hSW); go_simp; (try with_reducible rfl))
            (try simp only [Act.put, sA, sZ, sS])
            refine wpAnyH_ready (rs := [3]) (by kernel_rfl) (by simp) ?_
            refine AllReadyH.cons rfl (fun K hK => ?_) AllReadyH.nil
            rw [if_pos (by rfl)]
            go_simp
            refine (within_any _ _ _ _).mono ?_
            rintro e w1 ⟨rfl, hb1⟩
            clear hb hl c0 c1 c2 c3 c4 c5 d0 d1 f0 f1 hg hHeld
            replace hS := hS.below hb1
            clear hb1
            obtain ⟨hb, ⟨hl, c0, c1, c2, c3, c4, c5⟩, hg⟩ := id hS
            dsimp only at c0 c1 c2 c3 c4 c5
            have d0 := hg.d 2 0 rfl
            have d1 := hg.d 3 0 rfl
            have f0 := hg.f 10 1 rfl
            have f1 := hg.f 11 65535 rfl
            (first | rw [h1.out] | rw [h2.out] | rw [h3.out])
            go_wp2_with fail
            refine hK.out _ _ (⟨c1, c2, c3, c4, c5, d0, d1, f0, f1⟩) (fun hHeld => ?_)
            clear hK K
            (try simp only [Act.put, sA, sZ, sS])
            refine tkW 25 (i := 4) (v := ?v5_4) rfl rfl (by kernel_rfl) (fun _ _ _ h => h) ?y5_4 (by assumption) ?r5_4
            case y5_4 => (intro W hSW; (try dsimp only at hSW); go_simp; (try with_reducible rfl))
            (try simp only [Act.put, sA, sZ, sS])
            refine tkW 26 (i := 5) (v := ?v5_5) rfl rfl (by kernel_rfl) (fun _ _ _ h => h) ?y5_5 (by assumption) ?r5_5
            case y5_5 => (intro W hSW; (try dsimp only at hSW); go_simp; (try with_reducible rfl))
            (try simp only [Act.put, sA, sZ, sS])
            refine tkW 27 (i := 6) (v := ?v5_6) rfl rfl (by kernel_rfl) (fun _ _ _ h => h) ?y5_6 (by assumption) ?r5_6
            case y5_6 => (intro W hSW; (try dsimp only at hSW); go_simp; (try with_reducible rfl))
            (try simp only [Act.put, sA, sZ, sS])
            refine tkW 28 (i := 7) (v := ?v5_7) rfl rfl (by kernel_rfl) (fun _ _ _ h => h) ?y5_7 (by assumption) ?r5_7
            case y5_7 => (intro W hSW; (try dsimp only at hSW); go_simp; (try with_reducible rfl))
            (try simp only [Act.put, sA, sZ, sS])
            refine tkW 29 (i := 8) (v := ?v5_8) rfl rfl (by kernel_rfl) (fun _ _ _ h => h) ?y5_8 (by assumption) ?r5_8
            case y5_8 => (intro W hSW; (try dsimp only at hSW); go_simp; (try with_reducible rfl))
            (try simp only [Act.put, sA, sZ, sS])
            refine tkW 30 (i := 9) (v := ?v5_9) rfl rfl (by kernel_rfl) (fun _ _ _ h => h) ?y5_9 (by assumption) ?r5_9
            case y5_9 => (intro W hSW; (try dsimp only at hSW); go_simp; (try with_reducible rfl))
            (try simp only [Act.put, sA, sZ, sS])
            refine tkW 31 (i := 10) (v := ?v5_10) rfl rfl (by kernel_rfl) (fun _ _ _ h => h) ?y5_10 (by assumption) ?r5_10
            case y5_10 => (intro W hSW; (try dsimp only at hSW); go_simp; (try with_reducible rfl))
            (try simp only [Act.put, sA, sZ, sS])
            refine wpAnyH_ready (rs := [11]) (by kernel_rfl) (by simp) ?_
            refine AllReadyH.cons rfl (fun K hK => ?_) AllReadyH.nil
            rw [if_pos (by rfl)]
            go_simp
            refine (within_any _ _ _ _).mono ?_
            rintro e w1 ⟨rfl, hb1⟩
            clear hb hl c0 c1 c2 c3 c4 c5 d0 d1 f0 f1 hg hHeld
            replace hS := hS.below hb1
            clear hb1
            obtain ⟨hb, ⟨hl, c0, c1, c2, c3, c4, c5⟩, hg⟩ := id hS
            dsimp only at c0 c1 c2 c3 c4 c5
            have d0 := hg.d 2 0 rfl
            have d1 := hg.d 3 0 rfl
            have f0 := hg.f 10 1 rfl
            have f1 := hg.f 11 65535 rfl
            (first | rw [h1.out] | rw [h2.out] | rw [h3.out])
            go_wp2_with fail
            refine hK.out _ _ (⟨c1, c2, c3, c4, c5, d0, d1, f0, f1⟩) (fun hHeld => ?_)
            clear hK K
            (try simp only [Act.put, sA, sZ, sS])
            refine tkW 33 (i := 12) (v := ?v5_12) rfl rfl (by kernel_rfl) (fun _ _ _ h => h) ?y5_12 (by assumption) ?r5_12
            case y5_12 => (intro W hSW; (try dsimp only at hSW); go_simp; (try with_reducible rfl))
            (try simp only [Act.put, sA, sZ, sS])
            refine tkW 34 (i := 13) (v := ?v5_13) rfl rfl (by kernel_rfl) (fun _ _ _ h => h) ?y5_13 (by assumption) ?r5_13
            case y5_13 => (intro W hSW; (try dsimp only at hSW); go_simp; (try with_reducible rfl))
            (try simp only [Act.put, sA, sZ, sS])
            refine tkU 35 (i := 14) rfl rfl (by kernel_rfl) (fun _ _ _ h => h) (by assumption) ?_
            (try simp only [Act.put, sA, sZ, sS])
            refine tkU 36 (i := 15) rfl rfl (by kernel_rfl) (fun _ _ _ h => h) (by assumption) ?_
            (try simp only [Act.put, sA, sZ, sS])
            refine tkU 37 (i := 16) rfl rfl (by kernel_rfl) (fun _ _ _ h => h) (by assumption) ?_
            (try simp only [Act.put, sA, sZ, sS])
            refine tkU 38 (i := 17) rfl rfl (by kernel_rfl) (fun _ _ _ h => h) (by assumption) ?_
            (try simp only [Act.put, sA, sZ, sS])
            refine tkU 39 (i := 18) rfl rfl (by kernel_rfl) (fun _ _ _ h => h) (by assumption) ?_
            (try simp only [Act.put, sA, sZ, sS])
            refine tkU 40 (i := 19) rfl rfl (by kernel_rfl) (fun _ _ _ h => h) (by assumption) ?_
            (try simp only [Act.put, sA, sZ, sS])
            refine tkU 41 (i := 20) rfl rfl (by kernel_rfl) (fun _ _ _ h => h) (by assumption) ?_
            (try simp only [Act.put, sA, sZ, sS])
            refine tkU 42 (i := 21) rfl rfl (by kernel_rfl) (fun _ _ _ h => h) (by assumption) ?_
            (try simp only [Act.put, sA, sZ, sS])
            refine tkU 43 (i := 22) rfl rfl (by kernel_rfl) (fun _ _ _ h => h) (by assumption) ?_
            (try simp only [Act.put, sA, sZ, sS])
            refine tkU 44 (i := 23) rfl rfl (by kernel_rfl) (fun _ _ _ h => h) (by assumption) ?_
            (try simp only [Act.put, sA, sZ, sS])
            refine tkW 45 (i := 24) (v := ?v5_24) rfl rfl (by kernel_rfl) (fun _ _ _ h => h) ?y5_24 (by assumption) ?r5_24
            case y5_24 => (intro W hSW; (try dsimp only at hSW); go_simp; (try with_reducible rfl))
            (try simp only [Act.put, sA, sZ, sS])
            refine tkW 2 (i := 25) (v := ?v5_25) rfl rfl (by kernel_rfl) (fun _ _ _ h => h) ?y5_25 (by assumption) ?r5_25
            case y5_25 => (intro W hSW; (try dsimp only at hSW); go_simp; (try with_reducible rfl))
            (try simp only [Act.put, sA, sZ, sS])
            refine wpAnyH_done (by kernel_rfl) ?_ _
            go_wp2_with fail
            go_ret
            exact ⟨by rw [HK.out]; rfl, hb⟩
          · go_upto_region 3 with fail
            replace hS := hS.drew
            refine wp_region_held_drew (S := fun w' => w'.cell? ⟨w.heap.size, 1, none⟩ = some (.int .i64 1) ∧ w'.cell? ⟨w.heap.size, 2, none⟩ = some (.int .i64 2) ∧ w'.cell? ⟨w.heap.size, 3, none⟩ = some (.int .i64 size) ∧ w'.cell? ⟨w.heap.size, 4, none⟩ = some (.int .i64 depth) ∧ w'.cell? ⟨w.heap.size, 5, none⟩ = some (.int .i64 fresh) ∧ w'.cell? ⟨0, 2, none⟩ = some (.int .i64 0) ∧ w'.cell? ⟨0, 3, none⟩ = some (.int .i64 0) ∧ w'.cell? ⟨1, 10, none⟩ = some (.int .i64 1) ∧ w'.cell? ⟨1, 11, none⟩ = some (.int .i64 65535)) (by kernel_rfl) (⟨c1, c2, c3, c4, c5, d0, d1, f0, f1⟩) (fun hHeld => ?_)
            refine tkW 21 (i := 0) (v := ?v6_0) rfl rfl (by kernel_rfl) (fun _ _ _ h => h) ?y6_0 (by assumption) ?r6_0
            case y6_0 => (intro W hSW; (try dsimp only at hSW); go_simp; (try with_reducible rfl))
            (try simp only [Act.put, sA, sZ, sS])
            refine tkW 22 (i := 1) (v := ?v6_1) rfl rfl (by kernel_rfl) (fun _ _ _ h => h) ?y6_1 (by assumption) ?r6_1
            case y6_1 => (intro W hSW; (try dsimp only at hSW); go_simp; (try with_reducible rfl))
            (try simp only [Act.put, sA, sZ, sS])
            refine tkW 23 (i := 2) (v := ?v6_2) rfl rfl (by kernel_rfl) (fun _ _ _ h => h) ?y6_2 (by assumption) ?r6_2
            case y6_2 => (intro W hSW; (try dsimp only at hSW); go_simp; (try with_reducible rfl))
            (try simp only [Act.put, sA, sZ, sS])
            refine wpAnyH_ready (rs := [3]) (by kernel_rfl) (by simp) ?_
            refine AllReadyH.cons rfl (fun K hK => ?_) AllReadyH.nil
            rw [if_pos (by rfl)]
            go_simp
            refine (within_any _ _ _ _).mono ?_
            rintro e w1 ⟨rfl, hb1⟩
            clear hb hl c0 c1 c2 c3 c4 c5 d0 d1 f0 f1 hg hHeld
            replace hS := hS.below hb1
            clear hb1
            obtain ⟨hb, ⟨hl, c0, c1, c2, c3, c4, c5⟩, hg⟩ := id hS
            dsimp only at c0 c1 c2 c3 c4 c5
            have d0 := hg.d 2 0 rfl
            have d1 := hg.d 3 0 rfl
            have f0 := hg.f 10 1 rfl
            have f1 := hg.f 11 65535 rfl
            (first | rw [h1.out] | rw [h2.out] | rw [h3.out])
            go_wp2_with fail
            refine hK.out _ _ (⟨c1, c2, c3, c4, c5, d0, d1, f0, f1⟩) (fun hHeld => ?_)
            clear hK K
            (try simp only [Act.put, sA, sZ, sS])
            refine tkW 25 (i := 4) (v := ?v6_4) rfl rfl (by kernel_rfl) (fun _ _ _ h => h) ?y6_4 (by assumption) ?r6_4
            case y6_4 => (intro W hSW; (try dsimp only at hSW); go_simp; (try with_reducible rfl))
            (try simp only [Act.put, sA, sZ, sS])
            refine tkW 26 (i := 5) (v := ?v6_5) rfl rfl (by kernel_rfl) (fun _ _ _ h => h) ?y6_5 (by assumption) ?r6_5
            case y6_5 => (intro W hSW; (try dsimp only at hSW); go_simp; (try with_reducible rfl))
            (try simp only [Act.put, sA, sZ, sS])
            refine tkW 27 (i := 6) (v := ?v6_6) rfl rfl (by kernel_rfl) (fun _ _ _ h => h) ?y6_6 (by assumption) ?r6_6
            case y6_6 => (intro W hSW; (try dsimp only at hSW); go_simp; (try with_reducible rfl))
            (try simp only [Act.put, sA, sZ, sS])
            refine tkW 28 (i := 7) (v := ?v6_7) rfl rfl (by kernel_rfl) (fun _ _ _ h => h) ?y6_7 (by assumption) ?r6_7
            case y6_7 => (intro W hSW; (try dsimp only at hSW); go_simp; (try with_reducible rfl))
            (try simp only [Act.put, sA, sZ, sS])
            refine tkW 29 (i := 8) (v := ?v6_8) rfl rfl (by kernel_rfl) (fun _ _ _ h => h) ?y6_8 (by assumption) ?r6_8
            case y6_8 => (intro W hSW; (try dsimp only at hSW); go_simp; (try with_reducible rfl))
            (try simp only [Act.put, sA, sZ, sS])
            refine tkW 30 (i := 9) (v := ?v6_9) rfl rfl (by kernel_rfl) (fun _ _ _ h => h) ?y6_9 (by assumption) ?r6_9
            case y6_9 => (intro W hSW; (try dsimp only at hSW); go_simp; (try with_reducible rfl))
            (try simp only [Act.put, sA, sZ, sS])
            refine tkW 31 (i := 10) (v := ?v6_10) rfl rfl (by kernel_rfl) (fun _ _ _ h => h) ?y6_10 (by assumption) ?r6_10
            case y6_10 => (intro W hSW; (try dsimp only at hSW); go_simp; (try with_reducible rfl))
            (try simp only [Act.put, sA, sZ, sS])
            refine wpAnyH_ready (rs := [11]) (by kernel_rfl) (by simp) ?_
            refine AllReadyH.cons rfl (fun K hK => ?_) AllReadyH.nil
            rw [if_pos (by rfl)]
            go_simp
            refine (within_any _ _ _ _).mono ?_
            rintro e w1 ⟨rfl, hb1⟩
            clear hb hl c0 c1 c2 c3 c4 c5 d0 d1 f0 f1 hg hHeld
            replace hS := hS.below hb1
            clear hb1
            obtain ⟨hb, ⟨hl, c0, c1, c2, c3, c4, c5⟩, hg⟩ := id hS
            dsimp only at c0 c1 c2 c3 c4 c5
            have d0 := hg.d 2 0 rfl
            have d1 := hg.d 3 0 rfl
            have f0 := hg.f 10 1 rfl
            have f1 := hg.f 11 65535 rfl
            (first | rw [h1.out] | rw [h2.out] | rw [h3.out])
            go_wp2_with fail
            refine hK.out _ _ (⟨c1, c2, c3, c4, c5, d0, d1, f0, f1⟩) (fun hHeld => ?_)
            clear hK K
            (try simp only [Act.put, sA, sZ, sS])
            refine tkW 33 (i := 12) (v := ?v6_12) rfl rfl (by kernel_rfl) (fun _ _ _ h => h) ?y6_12 (by assumption) ?r6_12
            case y6_12 => (intro W hSW; (try dsimp only at hSW); go_simp; (try with_reducible rfl))
            (try simp only [Act.put, sA, sZ, sS])
            refine tkW 34 (i := 13) (v := ?v6_13) rfl rfl (by kernel_rfl) (fun _ _ _ h => h) ?y6_13 (by assumption) ?r6_13
            case y6_13 => (intro W hSW; (try dsimp only at hSW); go_simp; (try with_reducible rfl))
            (try simp only [Act.put, sA, sZ, sS])
            refine tkW 35 (i := 14) (v := ?v6_14) rfl rfl (by kernel_rfl) (fun _ _ _ h => h) ?y6_14 (by assumption) ?r6_14
            case y6_14 => (intro W hSW; (try dsimp only at hSW); go_simp; (try with_reducible rfl))
            (try simp only [Act.put, sA, sZ, sS])
            refine tkW 36 (i := 15) (v := ?v6_15) rfl rfl (by kernel_rfl) (fun _ _ _ h => h) ?y6_15 (by assumption) ?r6_15
            case y6_15 => (intro W hSW; (try dsimp only at hSW); go_simp; (try with_reducible rfl))
            (try simp only [Act.put, sA, sZ, sS])
            refine tkW 37 (i := 16) (v := ?v6_16) rfl rfl (by kernel_rfl) (fun _ _ _ h => h) ?y6_16 (by assumption) ?r6_16
            case y6_16 => (intro W hSW; (try dsimp only at hSW); go_simp; (try with_reducible rfl))
            (try simp only [Act.put, sA, sZ, sS])
            refine tkW 38 (i := 17) (v := ?v6_17) rfl rfl (by kernel_rfl) (fun _ _ _ h => h) ?y6_17 (by assumption) ?r6_17
            case y6_17 => (intro W hSW; (try dsimp only at hSW); go_simp; (try with_reducible rfl))
            (try simp only [Act.put, sA, sZ, sS])
            refine tkW 39 (i := 18) (v := ?v6_18) rfl rfl (by kernel_rfl) (fun _ _ _ h => h) ?y6_18 (by assumption) ?r6_18
            case y6_18 => (intro W hSW; (try dsimp only at hSW); go_simp; (try with_reducible rfl))
            (try simp only [Act.put, sA, sZ, sS])
            refine tkW 40 (i := 19) (v := ?v6_19) rfl rfl (by kernel_rfl) (fun _ _ _ h => h) ?y6_19 (by assumption) ?r6_19
            case y6_19 => (intro W hSW; (try dsimp only at hSW); go_simp; (try with_reducible rfl))
            (try simp only [Act.put, sA, sZ, sS])
            refine tkW 41 (i := 20) (v := ?v6_20) rfl rfl (by kernel_rfl) (fun _ _ _ h => h) ?y6_20 (by assumption) ?r6_20
            case y6_20 => (intro W hSW; (try dsimp only at hSW); go_simp; (try with_reducible rfl))
            (try simp only [Act.put, sA, sZ, sS])
            refine tkW 42 (i := 21) (v := ?v6_21) rfl rfl (by kernel_rfl) (fun _ _ _ h => h) ?y6_21 (by assumption) ?r6_21
            case y6_21 => (intro W hSW; (try dsimp only at hSW); go_simp; (try with_reducible rfl))
            (try simp only [Act.put, sA, sZ, sS])
            refine tkW 43 (i := 22) (v := ?v6_22) rfl rfl (by kernel_rfl) (fun _ _ _ h => h) ?y6_22 (by assumption) ?r6_22
            case y6_22 => (intro W hSW; (try dsimp only at hSW); go_simp; (try with_reducible rfl))
            (try simp only [Act.put, sA, sZ, sS])
            refine wpAnyH_ready (rs := [23]) (by kernel_rfl) (by simp) ?_
            refine AllReadyH.cons rfl (fun K hK => ?_) AllReadyH.nil
            rw [if_pos (by rfl)]
            go_simp
            refine (within_any _ _ _ _).mono ?_
            rintro e w1 ⟨rfl, hb1⟩
            clear hb hl c0 c1 c2 c3 c4 c5 d0 d1 f0 f1 hg hHeld
            replace hS := hS.below hb1
            clear hb1
            obtain ⟨hb, ⟨hl, c0, c1, c2, c3, c4, c5⟩, hg⟩ := id hS
            dsimp only at c0 c1 c2 c3 c4 c5
            have d0 := hg.d 2 0 rfl
            have d1 := hg.d 3 0 rfl
            have f0 := hg.f 10 1 rfl
            have f1 := hg.f 11 65535 rfl
            (first | rw [h1.out] | rw [h2.out] | rw [h3.out])
            go_wp2_with fail
            refine hK.out _ _ (⟨c1, c2, c3, c4, c5, d0, d1, f0, f1⟩) (fun hHeld => ?_)
            clear hK K
            (try simp only [Act.put, sA, sZ, sS])
            refine tkW 45 (i := 24) (v := ?v6_24) rfl rfl (by kernel_rfl) (fun _ _ _ h => h) ?y6_24 (by assumption) ?r6_24
            case y6_24 => (intro W hSW; (try dsimp only at hSW); go_simp; (try with_reducible rfl))
            (try simp only [Act.put, sA, sZ, sS])
            refine tkW 2 (i := 25) (v := ?v6_25) rfl rfl (by kernel_rfl) (fun _ _ _ h => h) ?y6_25 (by assumption) ?r6_25
            case y6_25 => (intro W hSW; (try dsimp only at hSW); go_simp; (try with_reducible rfl))
            (try simp only [Act.put, sA, sZ, sS])
            refine wpAnyH_done (by kernel_rfl) ?_ _
            go_wp2_with fail
            go_ret
            exact ⟨by rw [HK.out]; rfl, hb⟩
      · have d0 := hg.d 4 1 rfl
        have d1 := hg.d 5 8 rfl
        have f0 := hg.f 14 0 rfl
        have f1 := hg.f 15 0 rfl
        obtain ⟨q1, h1⟩ : ∃ q, inB size 1 32 = q := ⟨_, rfl⟩
        obtain ⟨q2, h2⟩ : ∃ q, inB depth 1 8 = q := ⟨_, rfl⟩
        obtain ⟨q3, h3⟩ : ∃ q, inB fresh 0 0 = q := ⟨_, rfl⟩
        have HK : Hid (PortB ⟨part, 2, 1, size, depth, fresh⟩ = (q1 && q2 && q3)) := by
          show _ = _
          unfold PortB
          simp [h1, h2, h3]
        replace h1 := hide h1
        replace h2 := hide h2
        replace h3 := hide h3
        cases q1
        · go_upto_region 3 with fail
          replace hS := hS.drew
          refine wp_region_held_drew (S := fun w' => w'.cell? ⟨w.heap.size, 1, none⟩ = some (.int .i64 2) ∧ w'.cell? ⟨w.heap.size, 2, none⟩ = some (.int .i64 1) ∧ w'.cell? ⟨w.heap.size, 3, none⟩ = some (.int .i64 size) ∧ w'.cell? ⟨w.heap.size, 4, none⟩ = some (.int .i64 depth) ∧ w'.cell? ⟨w.heap.size, 5, none⟩ = some (.int .i64 fresh) ∧ w'.cell? ⟨0, 4, none⟩ = some (.int .i64 1) ∧ w'.cell? ⟨0, 5, none⟩ = some (.int .i64 8) ∧ w'.cell? ⟨1, 14, none⟩ = some (.int .i64 0) ∧ w'.cell? ⟨1, 15, none⟩ = some (.int .i64 0)) (by kernel_rfl) (⟨c1, c2, c3, c4, c5, d0, d1, f0, f1⟩) (fun hHeld => ?_)
          refine tkW 21 (i := 0) (v := ?v7_0) rfl rfl (by kernel_rfl) (fun _ _ _ h => h) ?y7_0 (by assumption) ?r7_0
          case y7_0 => (intro W hSW; (try dsimp only at hSW); go_simp; (try with_reducible rfl))
          (try simp only [Act.put, sA, sZ, sS])
          refine tkW 22 (i := 1) (v := ?v7_1) rfl rfl (by kernel_rfl) (fun _ _ _ h => h) ?y7_1 (by assumption) ?r7_1
          case y7_1 => (intro W hSW; (try dsimp only at hSW); go_simp; (try with_reducible rfl))
          (try simp only [Act.put, sA, sZ, sS])
          refine tkW 23 (i := 2) (v := ?v7_2) rfl rfl (by kernel_rfl) (fun _ _ _ h => h) ?y7_2 (by assumption) ?r7_2
          case y7_2 => (intro W hSW; (try dsimp only at hSW); go_simp; (try with_reducible rfl))
          (try simp only [Act.put, sA, sZ, sS])
          refine wpAnyH_ready (rs := [3]) (by kernel_rfl) (by simp) ?_
          refine AllReadyH.cons rfl (fun K hK => ?_) AllReadyH.nil
          rw [if_pos (by rfl)]
          go_simp
          refine (within_any _ _ _ _).mono ?_
          rintro e w1 ⟨rfl, hb1⟩
          clear hb hl c0 c1 c2 c3 c4 c5 d0 d1 f0 f1 hg hHeld
          replace hS := hS.below hb1
          clear hb1
          obtain ⟨hb, ⟨hl, c0, c1, c2, c3, c4, c5⟩, hg⟩ := id hS
          dsimp only at c0 c1 c2 c3 c4 c5
          have d0 := hg.d 4 1 rfl
          have d1 := hg.d 5 8 rfl
          have f0 := hg.f 14 0 rfl
          have f1 := hg.f 15 0 rfl
          (first | rw [h1.out] | rw [h2.out] | rw [h3.out])
          go_wp2_with fail
          refine hK.out _ _ (⟨c1, c2, c3, c4, c5, d0, d1, f0, f1⟩) (fun hHeld => ?_)
          clear hK K
          (try simp only [Act.put, sA, sZ, sS])
          refine tkW 25 (i := 4) (v := ?v7_4) rfl rfl (by kernel_rfl) (fun _ _ _ h => h) ?y7_4 (by assumption) ?r7_4
          case y7_4 => (intro W hSW; (try dsimp only at hSW); go_simp; (try with_reducible rfl))
          (try simp only [Act.put, sA, sZ, sS])
          refine tkU 26 (i := 5) rfl rfl (by kernel_rfl) (fun _ _ _ h => h) (by assumption) ?_
          (try simp only [Act.put, sA, sZ, sS])
          refine tkU 27 (i := 6) rfl rfl (by kernel_rfl) (fun _ _ _ h => h) (by assumption) ?_
          (try simp only [Act.put, sA, sZ, sS])
          refine tkU 28 (i := 7) rfl rfl (by kernel_rfl) (fun _ _ _ h => h) (by assumption) ?_
          (try simp only [Act.put, sA, sZ, sS])
          refine tkU 29 (i := 8) rfl rfl (by kernel_rfl) (fun _ _ _ h => h) (by assumption) ?_
          (try simp only [Act.put, sA, sZ, sS])
          refine tkU 30 (i := 9) rfl rfl (by kernel_rfl) (fun _ _ _ h => h) (by assumption) ?_
          (try simp only [Act.put, sA, sZ, sS])
          refine tkU 31 (i := 10) rfl rfl (by kernel_rfl) (fun _ _ _ h => h) (by assumption) ?_
          (try simp only [Act.put, sA, sZ, sS])
          refine tkU 32 (i := 11) rfl rfl (by kernel_rfl) (fun _ _ _ h => h) (by assumption) ?_
          (try simp only [Act.put, sA, sZ, sS])
          refine tkW 33 (i := 12) (v := ?v7_12) rfl rfl (by kernel_rfl) (fun _ _ _ h => h) ?y7_12 (by assumption) ?r7_12
          case y7_12 => (intro W hSW; (try dsimp only at hSW); go_simp; (try with_reducible rfl))
          (try simp only [Act.put, sA, sZ, sS])
          refine tkW 34 (i := 13) (v := ?v7_13) rfl rfl (by kernel_rfl) (fun _ _ _ h => h) ?y7_13 (by assumption) ?r7_13
          case y7_13 => (intro W hSW; (try dsimp only at hSW); go_simp; (try with_reducible rfl))
          (try simp only [Act.put, sA, sZ, sS])
          refine tkU 35 (i := 14) rfl rfl (by kernel_rfl) (fun _ _ _ h => h) (by assumption) ?_
          (try simp only [Act.put, sA, sZ, sS])
          refine tkU 36 (i := 15) rfl rfl (by kernel_rfl) (fun _ _ _ h => h) (by assumption) ?_
          (try simp only [Act.put, sA, sZ, sS])
          refine tkU 37 (i := 16) rfl rfl (by kernel_rfl) (fun _ _ _ h => h) (by assumption) ?_
          (try simp only [Act.put, sA, sZ, sS])
          refine tkU 38 (i := 17) rfl rfl (by kernel_rfl) (fun _ _ _ h => h) (by assumption) ?_
          (try simp only [Act.put, sA, sZ, sS])
          refine tkU 39 (i := 18) rfl rfl (by kernel_rfl) (fun _ _ _ h => h) (by assumption) ?_
          (try simp only [Act.put, sA, sZ, sS])
          refine tkU 40 (i := 19) rfl rfl (by kernel_rfl) (fun _ _ _ h => h) (by assumption) ?_
          (try simp only [Act.put, sA, sZ, sS])
          refine tkU 41 (i := 20) rfl rfl (by kernel_rfl) (fun _ _ _ h => h) (by assumption) ?_
          (try simp only [Act.put, sA, sZ, sS])
          refine tkU 42 (i := 21) rfl rfl (by kernel_rfl) (fun _ _ _ h => h) (by assumption) ?_
          (try simp only [Act.put, sA, sZ, sS])
          refine tkU 43 (i := 22) rfl rfl (by kernel_rfl) (fun _ _ _ h => h) (by assumption) ?_
          (try simp only [Act.put, sA, sZ, sS])
          refine tkU 44 (i := 23) rfl rfl (by kernel_rfl) (fun _ _ _ h => h) (by assumption) ?_
          (try simp only [Act.put, sA, sZ, sS])
          refine tkW 45 (i := 24) (v := ?v7_24) rfl rfl (by kernel_rfl) (fun _ _ _ h => h) ?y7_24 (by assumption) ?r7_24
          case y7_24 => (intro W hSW; (try dsimp only at hSW); go_simp; (try with_reducible rfl))
          (try simp only [Act.put, sA, sZ, sS])
          refine tkW 2 (i := 25) (v := ?v7_25) rfl rfl (by kernel_rfl) (fun _ _ _ h => h) ?y7_25 (by assumption) ?r7_25
          case y7_25 => (intro W hSW; (try dsimp only at hSW); go_simp; (try with_reducible rfl))
          (try simp only [Act.put, sA, sZ, sS])
          refine wpAnyH_done (by kernel_rfl) ?_ _
          go_wp2_with fail
          go_ret
          exact ⟨by rw [HK.out]; rfl, hb⟩
        · cases q2
          · go_upto_region 3 with fail
            replace hS := hS.drew
            refine wp_region_held_drew (S := fun w' => w'.cell? ⟨w.heap.size, 1, none⟩ = some (.int .i64 2) ∧ w'.cell? ⟨w.heap.size, 2, none⟩ = some (.int .i64 1) ∧ w'.cell? ⟨w.heap.size, 3, none⟩ = some (.int .i64 size) ∧ w'.cell? ⟨w.heap.size, 4, none⟩ = some (.int .i64 depth) ∧ w'.cell? ⟨w.heap.size, 5, none⟩ = some (.int .i64 fresh) ∧ w'.cell? ⟨0, 4, none⟩ = some (.int .i64 1) ∧ w'.cell? ⟨0, 5, none⟩ = some (.int .i64 8) ∧ w'.cell? ⟨1, 14, none⟩ = some (.int .i64 0) ∧ w'.cell? ⟨1, 15, none⟩ = some (.int .i64 0)) (by kernel_rfl) (⟨c1, c2, c3, c4, c5, d0, d1, f0, f1⟩) (fun hHeld => ?_)
            refine tkW 21 (i := 0) (v := ?v8_0) rfl rfl (by kernel_rfl) (fun _ _ _ h => h) ?y8_0 (by assumption) ?r8_0
            case y8_0 => (intro W hSW; (try dsimp only at hSW); go_simp; (try with_reducible rfl))
            (try simp only [Act.put, sA, sZ, sS])
            refine tkW 22 (i := 1) (v := ?v8_1) rfl rfl (by kernel_rfl) (fun _ _ _ h => h) ?y8_1 (by assumption) ?r8_1
            case y8_1 => (intro W hSW; (try dsimp only at hSW); go_simp; (try with_reducible rfl))
            (try simp only [Act.put, sA, sZ, sS])
            refine tkW 23 (i := 2) (v := ?v8_2) rfl rfl (by kernel_rfl) (fun _ _ _ h => h) ?y8_2 (by assumption) ?r8_2
            case y8_2 => (intro W hSW; (try dsimp only at hSW); go_simp; (try with_reducible rfl))
            (try simp only [Act.put, sA, sZ, sS])
            refine wpAnyH_ready (rs := [3]) (by kernel_rfl) (by simp) ?_
            refine AllReadyH.cons rfl (fun K hK => ?_) AllReadyH.nil
            rw [if_pos (by rfl)]
            go_simp
            refine (within_any _ _ _ _).mono ?_
            rintro e w1 ⟨rfl, hb1⟩
            clear hb hl c0 c1 c2 c3 c4 c5 d0 d1 f0 f1 hg hHeld
            replace hS := hS.below hb1
            clear hb1
            obtain ⟨hb, ⟨hl, c0, c1, c2, c3, c4, c5⟩, hg⟩ := id hS
            dsimp only at c0 c1 c2 c3 c4 c5
            have d0 := hg.d 4 1 rfl
            have d1 := hg.d 5 8 rfl
            have f0 := hg.f 14 0 rfl
            have f1 := hg.f 15 0 rfl
            (first | rw [h1.out] | rw [h2.out] | rw [h3.out])
            go_wp2_with fail
            refine hK.out _ _ (⟨c1, c2, c3, c4, c5, d0, d1, f0, f1⟩) (fun hHeld => ?_)
            clear hK K
            (try simp only [Act.put, sA, sZ, sS])
            refine tkW 25 (i := 4) (v := ?v8_4) rfl rfl (by kernel_rfl) (fun _ _ _ h => h) ?y8_4 (by assumption) ?r8_4
            case y8_4 => (intro W hSW; (try dsimp only at hSW); go_simp; (try with_reducible rfl))
            (try simp only [Act.put, sA, sZ, sS])
            refine tkW 26 (i := 5) (v := ?v8_5) rfl rfl (by kernel_rfl) (fun _ _ _ h => h) ?y8_5 (by assumption) ?r8_5
            case y8_5 => (intro W hSW; (try dsimp only at hSW); go_simp; (try with_reducible rfl))
            (try simp only [Act.put, sA, sZ, sS])
            refine tkW 27 (i := 6) (v := ?v8_6) rfl rfl (by kernel_rfl) (fun _ _ _ h => h) ?y8_6 (by assumption) ?r8_6
            case y8_6 => (intro W hSW; (try dsimp only at hSW); go_simp; (try with_reducible rfl))
            (try simp only [Act.put, sA, sZ, sS])
            refine tkW 28 (i := 7) (v := ?v8_7) rfl rfl (by kernel_rfl) (fun _ _ _ h => h) ?y8_7 (by assumption) ?r8_7
            case y8_7 => (intro W hSW; (try dsimp only at hSW); go_simp; (try with_reducible rfl))
            (try simp only [Act.put, sA, sZ, sS])
            refine tkW 29 (i := 8) (v := ?v8_8) rfl rfl (by kernel_rfl) (fun _ _ _ h => h) ?y8_8 (by assumption) ?r8_8
            case y8_8 => (intro W hSW; (try dsimp only at hSW); go_simp; (try with_reducible rfl))
            (try simp only [Act.put, sA, sZ, sS])
            refine tkW 30 (i := 9) (v := ?v8_9) rfl rfl (by kernel_rfl) (fun _ _ _ h => h) ?y8_9 (by assumption) ?r8_9
            case y8_9 => (intro W hSW; (try dsimp only at hSW); go_simp; (try with_reducible rfl))
            (try simp only [Act.put, sA, sZ, sS])
            refine tkW 31 (i := 10) (v := ?v8_10) rfl rfl (by kernel_rfl) (fun _ _ _ h => h) ?y8_10 (by assumption) ?r8_10
            case y8_10 => (intro W hSW; (try dsimp only at hSW); go_simp; (try with_reducible rfl))
            (try simp only [Act.put, sA, sZ, sS])
            refine wpAnyH_ready (rs := [11]) (by kernel_rfl) (by simp) ?_
            refine AllReadyH.cons rfl (fun K hK => ?_) AllReadyH.nil
            rw [if_pos (by rfl)]
            go_simp
            refine (within_any _ _ _ _).mono ?_
            rintro e w1 ⟨rfl, hb1⟩
            clear hb hl c0 c1 c2 c3 c4 c5 d0 d1 f0 f1 hg hHeld
            replace hS := hS.below hb1
            clear hb1
            obtain ⟨hb, ⟨hl, c0, c1, c2, c3, c4, c5⟩, hg⟩ := id hS
            dsimp only at c0 c1 c2 c3 c4 c5
            have d0 := hg.d 4 1 rfl
            have d1 := hg.d 5 8 rfl
            have f0 := hg.f 14 0 rfl
            have f1 := hg.f 15 0 rfl
            (first | rw [h1.out] | rw [h2.out] | rw [h3.out])
            go_wp2_with fail
            refine hK.out _ _ (⟨c1, c2, c3, c4, c5, d0, d1, f0, f1⟩) (fun hHeld => ?_)
            clear hK K
            (try simp only [Act.put, sA, sZ, sS])
            refine tkW 33 (i := 12) (v := ?v8_12) rfl rfl (by kernel_rfl) (fun _ _ _ h => h) ?y8_12 (by assumption) ?r8_12
            case y8_12 => (intro W hSW; (try dsimp only at hSW); go_simp; (try with_reducible rfl))
            (try simp only [Act.put, sA, sZ, sS])
            refine tkW 34 (i := 13) (v := ?v8_13) rfl rfl (by kernel_rfl) (fun _ _ _ h => h) ?y8_13 (by assumption) ?r8_13
            case y8_13 => (intro W hSW; (try dsimp only at hSW); go_simp; (try with_reducible rfl))
            (try simp only [Act.put, sA, sZ, sS])
            refine tkU 35 (i := 14) rfl rfl (by kernel_rfl) (fun _ _ _ h => h) (by assumption) ?_
            (try simp only [Act.put, sA, sZ, sS])
            refine tkU 36 (i := 15) rfl rfl (by kernel_rfl) (fun _ _ _ h => h) (by assumption) ?_
            (try simp only [Act.put, sA, sZ, sS])
            refine tkU 37 (i := 16) rfl rfl (by kernel_rfl) (fun _ _ _ h => h) (by assumption) ?_
            (try simp only [Act.put, sA, sZ, sS])
            refine tkU 38 (i := 17) rfl rfl (by kernel_rfl) (fun _ _ _ h => h) (by assumption) ?_
            (try simp only [Act.put, sA, sZ, sS])
            refine tkU 39 (i := 18) rfl rfl (by kernel_rfl) (fun _ _ _ h => h) (by assumption) ?_
            (try simp only [Act.put, sA, sZ, sS])
            refine tkU 40 (i := 19) rfl rfl (by kernel_rfl) (fun _ _ _ h => h) (by assumption) ?_
            (try simp only [Act.put, sA, sZ, sS])
            refine tkU 41 (i := 20) rfl rfl (by kernel_rfl) (fun _ _ _ h => h) (by assumption) ?_
            (try simp only [Act.put, sA, sZ, sS])
            refine tkU 42 (i := 21) rfl rfl (by kernel_rfl) (fun _ _ _ h => h) (by assumption) ?_
            (try simp only [Act.put, sA, sZ, sS])
            refine tkU 43 (i := 22) rfl rfl (by kernel_rfl) (fun _ _ _ h => h) (by assumption) ?_
            (try simp only [Act.put, sA, sZ, sS])
            refine tkU 44 (i := 23) rfl rfl (by kernel_rfl) (fun _ _ _ h => h) (by assumption) ?_
            (try simp only [Act.put, sA, sZ, sS])
            refine tkW 45 (i := 24) (v := ?v8_24) rfl rfl (by kernel_rfl) (fun _ _ _ h => h) ?y8_24 (by assumption) ?r8_24
            case y8_24 => (intro W hSW; (try dsimp only at hSW); go_simp; (try with_reducible rfl))
            (try simp only [Act.put, sA, sZ, sS])
            refine tkW 2 (i := 25) (v := ?v8_25) rfl rfl (by kernel_rfl) (fun _ _ _ h => h) ?y8_25 (by assumption) ?r8_25
            case y8_25 => (intro W hSW; (try dsimp only at hSW); go_simp; (try with_reducible rfl))
            (try simp only [Act.put, sA, sZ, sS])
            refine wpAnyH_done (by kernel_rfl) ?_ _
            go_wp2_with fail
            go_ret
            exact ⟨by rw [HK.out]; rfl, hb⟩
          · go_upto_region 3 with fail
            replace hS := hS.drew
            refine wp_region_held_drew (S := fun w' => w'.cell? ⟨w.heap.size, 1, none⟩ = some (.int .i64 2) ∧ w'.cell? ⟨w.heap.size, 2, none⟩ = some (.int .i64 1) ∧ w'.cell? ⟨w.heap.size, 3, none⟩ = some (.int .i64 size) ∧ w'.cell? ⟨w.heap.size, 4, none⟩ = some (.int .i64 depth) ∧ w'.cell? ⟨w.heap.size, 5, none⟩ = some (.int .i64 fresh) ∧ w'.cell? ⟨0, 4, none⟩ = some (.int .i64 1) ∧ w'.cell? ⟨0, 5, none⟩ = some (.int .i64 8) ∧ w'.cell? ⟨1, 14, none⟩ = some (.int .i64 0) ∧ w'.cell? ⟨1, 15, none⟩ = some (.int .i64 0)) (by kernel_rfl) (⟨c1, c2, c3, c4, c5, d0, d1, f0, f1⟩) (fun hHeld => ?_)
            refine tkW 21 (i := 0) (v := ?v9_0) rfl rfl (by kernel_rfl) (fun _ _ _ h => h) ?y9_0 (by assumption) ?r9_0
            case y9_0 => (intro W hSW; (try dsimp only at hSW); go_simp; (try with_reducible rfl))
            (try simp only [Act.put, sA, sZ, sS])
            refine tkW 22 (i := 1) (v := ?v9_1) rfl rfl (by kernel_rfl) (fun _ _ _ h => h) ?y9_1 (by assumption) ?r9_1
            case y9_1 => (intro W hSW; (try dsimp only at hSW); go_simp; (try with_reducible rfl))
            (try simp only [Act.put, sA, sZ, sS])
            refine tkW 23 (i := 2) (v := ?v9_2) rfl rfl (by kernel_rfl) (fun _ _ _ h => h) ?y9_2 (by assumption) ?r9_2
            case y9_2 => (intro W hSW; (try dsimp only at hSW); go_simp; (try with_reducible rfl))
            (try simp only [Act.put, sA, sZ, sS])
            refine wpAnyH_ready (rs := [3]) (by kernel_rfl) (by simp) ?_
            refine AllReadyH.cons rfl (fun K hK => ?_) AllReadyH.nil
            rw [if_pos (by rfl)]
            go_simp
            refine (within_any _ _ _ _).mono ?_
            rintro e w1 ⟨rfl, hb1⟩
            clear hb hl c0 c1 c2 c3 c4 c5 d0 d1 f0 f1 hg hHeld
            replace hS := hS.below hb1
            clear hb1
            obtain ⟨hb, ⟨hl, c0, c1, c2, c3, c4, c5⟩, hg⟩ := id hS
            dsimp only at c0 c1 c2 c3 c4 c5
            have d0 := hg.d 4 1 rfl
            have d1 := hg.d 5 8 rfl
            have f0 := hg.f 14 0 rfl
            have f1 := hg.f 15 0 rfl
            (first | rw [h1.out] | rw [h2.out] | rw [h3.out])
            go_wp2_with fail
            refine hK.out _ _ (⟨c1, c2, c3, c4, c5, d0, d1, f0, f1⟩) (fun hHeld => ?_)
            clear hK K
            (try simp only [Act.put, sA, sZ, sS])
            refine tkW 25 (i := 4) (v := ?v9_4) rfl rfl (by kernel_rfl) (fun _ _ _ h => h) ?y9_4 (by assumption) ?r9_4
            case y9_4 => (intro W hSW; (try dsimp only at hSW); go_simp; (try with_reducible rfl))
            (try simp only [Act.put, sA, sZ, sS])
            refine tkW 26 (i := 5) (v := ?v9_5) rfl rfl (by kernel_rfl) (fun _ _ _ h => h) ?y9_5 (by assumption) ?r9_5
            case y9_5 => (intro W hSW; (try dsimp only at hSW); go_simp; (try with_reducible rfl))
            (try simp only [Act.put, sA, sZ, sS])
            refine tkW 27 (i := 6) (v := ?v9_6) rfl rfl (by kernel_rfl) (fun _ _ _ h => h) ?y9_6 (by assumption) ?r9_6
            case y9_6 => (intro W hSW; (try dsimp only at hSW); go_simp; (try with_reducible rfl))
            (try simp only [Act.put, sA, sZ, sS])
            refine tkW 28 (i := 7) (v := ?v9_7) rfl rfl (by kernel_rfl) (fun _ _ _ h => h) ?y9_7 (by assumption) ?r9_7
            case y9_7 => (intro W hSW; (try dsimp only at hSW); go_simp; (try with_reducible rfl))
            (try simp only [Act.put, sA, sZ, sS])
            refine tkW 29 (i := 8) (v := ?v9_8) rfl rfl (by kernel_rfl) (fun _ _ _ h => h) ?y9_8 (by assumption) ?r9_8
            case y9_8 => (intro W hSW; (try dsimp only at hSW); go_simp; (try with_reducible rfl))
            (try simp only [Act.put, sA, sZ, sS])
            refine tkW 30 (i := 9) (v := ?v9_9) rfl rfl (by kernel_rfl) (fun _ _ _ h => h) ?y9_9 (by assumption) ?r9_9
            case y9_9 => (intro W hSW; (try dsimp only at hSW); go_simp; (try with_reducible rfl))
            (try simp only [Act.put, sA, sZ, sS])
            refine tkW 31 (i := 10) (v := ?v9_10) rfl rfl (by kernel_rfl) (fun _ _ _ h => h) ?y9_10 (by assumption) ?r9_10
            case y9_10 => (intro W hSW; (try dsimp only at hSW); go_simp; (try with_reducible rfl))
            (try simp only [Act.put, sA, sZ, sS])
            refine wpAnyH_ready (rs := [11]) (by kernel_rfl) (by simp) ?_
            refine AllReadyH.cons rfl (fun K hK => ?_) AllReadyH.nil
            rw [if_pos (by rfl)]
            go_simp
            refine (within_any _ _ _ _).mono ?_
            rintro e w1 ⟨rfl, hb1⟩
            clear hb hl c0 c1 c2 c3 c4 c5 d0 d1 f0 f1 hg hHeld
            replace hS := hS.below hb1
            clear hb1
            obtain ⟨hb, ⟨hl, c0, c1, c2, c3, c4, c5⟩, hg⟩ := id hS
            dsimp only at c0 c1 c2 c3 c4 c5
            have d0 := hg.d 4 1 rfl
            have d1 := hg.d 5 8 rfl
            have f0 := hg.f 14 0 rfl
            have f1 := hg.f 15 0 rfl
            (first | rw [h1.out] | rw [h2.out] | rw [h3.out])
            go_wp2_with fail
            refine hK.out _ _ (⟨c1, c2, c3, c4, c5, d0, d1, f0, f1⟩) (fun hHeld => ?_)
            clear hK K
            (try simp only [Act.put, sA, sZ, sS])
            refine tkW 33 (i := 12) (v := ?v9_12) rfl rfl (by kernel_rfl) (fun _ _ _ h => h) ?y9_12 (by assumption) ?r9_12
            case y9_12 => (intro W hSW; (try dsimp only at hSW); go_simp; (try with_reducible rfl))
            (try simp only [Act.put, sA, sZ, sS])
            refine tkW 34 (i := 13) (v := ?v9_13) rfl rfl (by kernel_rfl) (fun _ _ _ h => h) ?y9_13 (by assumption) ?r9_13
            case y9_13 => (intro W hSW; (try dsimp only at hSW); go_simp; (try with_reducible rfl))
            (try simp only [Act.put, sA, sZ, sS])
            refine tkW 35 (i := 14) (v := ?v9_14) rfl rfl (by kernel_rfl) (fun _ _ _ h => h) ?y9_14 (by assumption) ?r9_14
            case y9_14 => (intro W hSW; (try dsimp only at hSW); go_simp; (try with_reducible rfl))
            (try simp only [Act.put, sA, sZ, sS])
            refine tkW 36 (i := 15) (v := ?v9_15) rfl rfl (by kernel_rfl) (fun _ _ _ h => h) ?y9_15 (by assumption) ?r9_15
            case y9_15 => (intro W hSW; (try dsimp only at hSW); go_simp; (try with_reducible rfl))
            (try simp only [Act.put, sA, sZ, sS])
            refine tkW 37 (i := 16) (v := ?v9_16) rfl rfl (by kernel_rfl) (fun _ _ _ h => h) ?y9_16 (by assumption) ?r9_16
            case y9_16 => (intro W hSW; (try dsimp only at hSW); go_simp; (try with_reducible rfl))
            (try simp only [Act.put, sA, sZ, sS])
            refine tkW 38 (i := 17) (v := ?v9_17) rfl rfl (by kernel_rfl) (fun _ _ _ h => h) ?y9_17 (by assumption) ?r9_17
            case y9_17 => (intro W hSW; (try dsimp only at hSW); go_simp; (try with_reducible rfl))
            (try simp only [Act.put, sA, sZ, sS])
            refine tkW 39 (i := 18) (v := ?v9_18) rfl rfl (by kernel_rfl) (fun _ _ _ h => h) ?y9_18 (by assumption) ?r9_18
            case y9_18 => (intro W hSW; (try dsimp only at hSW); go_simp; (try with_reducible rfl))
            (try simp only [Act.put, sA, sZ, sS])
            refine tkW 40 (i := 19) (v := ?v9_19) rfl rfl (by kernel_rfl) (fun _ _ _ h => h) ?y9_19 (by assumption) ?r9_19
            case y9_19 => (intro W hSW; (try dsimp only at hSW); go_simp; (try with_reducible rfl))
            (try simp only [Act.put, sA, sZ, sS])
            refine tkW 41 (i := 20) (v := ?v9_20) rfl rfl (by kernel_rfl) (fun _ _ _ h => h) ?y9_20 (by assumption) ?r9_20
            case y9_20 => (intro W hSW; (try dsimp only at hSW); go_simp; (try with_reducible rfl))
            (try simp only [Act.put, sA, sZ, sS])
            refine tkW 42 (i := 21) (v := ?v9_21) rfl rfl (by kernel_rfl) (fun _ _ _ h => h) ?y9_21 (by assumption) ?r9_21
            case y9_21 => (intro W hSW; (try dsimp only at hSW); go_simp; (try with_reducible rfl))
            (try simp only [Act.put, sA, sZ, sS])
            refine tkW 43 (i := 22) (v := ?v9_22) rfl rfl (by kernel_rfl) (fun _ _ _ h => h) ?y9_22 (by assumption) ?r9_22
            case y9_22 => (intro W hSW; (try dsimp only at hSW); go_simp; (try with_reducible rfl))
            (try simp only [Act.put, sA, sZ, sS])
            refine wpAnyH_ready (rs := [23]) (by kernel_rfl) (by simp) ?_
            refine AllReadyH.cons rfl (fun K hK => ?_) AllReadyH.nil
            rw [if_pos (by rfl)]
            go_simp
            refine (within_any _ _ _ _).mono ?_
            rintro e w1 ⟨rfl, hb1⟩
            clear hb hl c0 c1 c2 c3 c4 c5 d0 d1 f0 f1 hg hHeld
            replace hS := hS.below hb1
            clear hb1
            obtain ⟨hb, ⟨hl, c0, c1, c2, c3, c4, c5⟩, hg⟩ := id hS
            dsimp only at c0 c1 c2 c3 c4 c5
            have d0 := hg.d 4 1 rfl
            have d1 := hg.d 5 8 rfl
            have f0 := hg.f 14 0 rfl
            have f1 := hg.f 15 0 rfl
            (first | rw [h1.out] | rw [h2.out] | rw [h3.out])
            go_wp2_with fail
            refine hK.out _ _ (⟨c1, c2, c3, c4, c5, d0, d1, f0, f1⟩) (fun hHeld => ?_)
            clear hK K
            (try simp only [Act.put, sA, sZ, sS])
            refine tkW 45 (i := 24) (v := ?v9_24) rfl rfl (by kernel_rfl) (fun _ _ _ h => h) ?y9_24 (by assumption) ?r9_24
            case y9_24 => (intro W hSW; (try dsimp only at hSW); go_simp; (try with_reducible rfl))
            (try simp only [Act.put, sA, sZ, sS])
            refine tkW 2 (i := 25) (v := ?v9_25) rfl rfl (by kernel_rfl) (fun _ _ _ h => h) ?y9_25 (by assumption) ?r9_25
            case y9_25 => (intro W hSW; (try dsimp only at hSW); go_simp; (try with_reducible rfl))
            (try simp only [Act.put, sA, sZ, sS])
            refine wpAnyH_done (by kernel_rfl) ?_ _
            go_wp2_with fail
            go_ret
            exact ⟨by rw [HK.out]; rfl, hb⟩
      · have d0 := hg.d 4 1 rfl
        have d1 := hg.d 5 8 rfl
        have f0 := hg.f 16 0 rfl
        have f1 := hg.f 17 0 rfl
        obtain ⟨q1, h1⟩ : ∃ q, inB size 1 32 = q := ⟨_, rfl⟩
        obtain ⟨q2, h2⟩ : ∃ q, inB depth 1 8 = q := ⟨_, rfl⟩
        obtain ⟨q3, h3⟩ : ∃ q, inB fresh 0 0 = q := ⟨_, rfl⟩
        have HK : Hid (PortB ⟨part, 2, 2, size, depth, fresh⟩ = (q1 && q2 && q3)) := by
          show _ = _
          unfold PortB
          simp [h1, h2, h3]
        replace h1 := hide h1
        replace h2 := hide h2
        replace h3 := hide h3
        cases q1
        · go_upto_region 3 with fail
          replace hS := hS.drew
          refine wp_region_held_drew (S := fun w' => w'.cell? ⟨w.heap.size, 1, none⟩ = some (.int .i64 2) ∧ w'.cell? ⟨w.heap.size, 2, none⟩ = some (.int .i64 2) ∧ w'.cell? ⟨w.heap.size, 3, none⟩ = some (.int .i64 size) ∧ w'.cell? ⟨w.heap.size, 4, none⟩ = some (.int .i64 depth) ∧ w'.cell? ⟨w.heap.size, 5, none⟩ = some (.int .i64 fresh) ∧ w'.cell? ⟨0, 4, none⟩ = some (.int .i64 1) ∧ w'.cell? ⟨0, 5, none⟩ = some (.int .i64 8) ∧ w'.cell? ⟨1, 16, none⟩ = some (.int .i64 0) ∧ w'.cell? ⟨1, 17, none⟩ = some (.int .i64 0)) (by kernel_rfl) (⟨c1, c2, c3, c4, c5, d0, d1, f0, f1⟩) (fun hHeld => ?_)
          refine tkW 21 (i := 0) (v := ?v10_0) rfl rfl (by kernel_rfl) (fun _ _ _ h => h) ?y10_0 (by assumption) ?r10_0
          case y10_0 => (intro W hSW; (try dsimp only at hSW); go_simp; (try with_reducible rfl))
          (try simp only [Act.put, sA, sZ, sS])
          refine tkW 22 (i := 1) (v := ?v10_1) rfl rfl (by kernel_rfl) (fun _ _ _ h => h) ?y10_1 (by assumption) ?r10_1
          case y10_1 => (intro W hSW; (try dsimp only at hSW); go_simp; (try with_reducible rfl))
          (try simp only [Act.put, sA, sZ, sS])
          refine tkW 23 (i := 2) (v := ?v10_2) rfl rfl (by kernel_rfl) (fun _ _ _ h => h) ?y10_2 (by assumption) ?r10_2
          case y10_2 => (intro W hSW; (try dsimp only at hSW); go_simp; (try with_reducible rfl))
          (try simp only [Act.put, sA, sZ, sS])
          refine wpAnyH_ready (rs := [3]) (by kernel_rfl) (by simp) ?_
          refine AllReadyH.cons rfl (fun K hK => ?_) AllReadyH.nil
          rw [if_pos (by rfl)]
          go_simp
          refine (within_any _ _ _ _).mono ?_
          rintro e w1 ⟨rfl, hb1⟩
          clear hb hl c0 c1 c2 c3 c4 c5 d0 d1 f0 f1 hg hHeld
          replace hS := hS.below hb1
          clear hb1
          obtain ⟨hb, ⟨hl, c0, c1, c2, c3, c4, c5⟩, hg⟩ := id hS
          dsimp only at c0 c1 c2 c3 c4 c5
          have d0 := hg.d 4 1 rfl
          have d1 := hg.d 5 8 rfl
          have f0 := hg.f 16 0 rfl
          have f1 := hg.f 17 0 rfl
          (first | rw [h1.out] | rw [h2.out] | rw [h3.out])
          go_wp2_with fail
          refine hK.out _ _ (⟨c1, c2, c3, c4, c5, d0, d1, f0, f1⟩) (fun hHeld => ?_)
          clear hK K
          (try simp only [Act.put, sA, sZ, sS])
          refine tkW 25 (i := 4) (v := ?v10_4) rfl rfl (by kernel_rfl) (fun _ _ _ h => h) ?y10_4 (by assumption) ?r10_4
          case y10_4 => (intro W hSW; (try dsimp only at hSW); go_simp; (try with_reducible rfl))
          (try simp only [Act.put, sA, sZ, sS])
          refine tkU 26 (i := 5) rfl rfl (by kernel_rfl) (fun _ _ _ h => h) (by assumption) ?_
          (try simp only [Act.put, sA, sZ, sS])
          refine tkU 27 (i := 6) rfl rfl (by kernel_rfl) (fun _ _ _ h => h) (by assumption) ?_
          (try simp only [Act.put, sA, sZ, sS])
          refine tkU 28 (i := 7) rfl rfl (by kernel_rfl) (fun _ _ _ h => h) (by assumption) ?_
          (try simp only [Act.put, sA, sZ, sS])
          refine tkU 29 (i := 8) rfl rfl (by kernel_rfl) (fun _ _ _ h => h) (by assumption) ?_
          (try simp only [Act.put, sA, sZ, sS])
          refine tkU 30 (i := 9) rfl rfl (by kernel_rfl) (fun _ _ _ h => h) (by assumption) ?_
          (try simp only [Act.put, sA, sZ, sS])
          refine tkU 31 (i := 10) rfl rfl (by kernel_rfl) (fun _ _ _ h => h) (by assumption) ?_
          (try simp only [Act.put, sA, sZ, sS])
          refine tkU 32 (i := 11) rfl rfl (by kernel_rfl) (fun _ _ _ h => h) (by assumption) ?_
          (try simp only [Act.put, sA, sZ, sS])
          refine tkW 33 (i := 12) (v := ?v10_12) rfl rfl (by kernel_rfl) (fun _ _ _ h => h) ?y10_12 (by assumption) ?r10_12
          case y10_12 => (intro W hSW; (try dsimp only at hSW); go_simp; (try with_reducible rfl))
          (try simp only [Act.put, sA, sZ, sS])
          refine tkW 34 (i := 13) (v := ?v10_13) rfl rfl (by kernel_rfl) (fun _ _ _ h => h) ?y10_13 (by assumption) ?r10_13
          case y10_13 => (intro W hSW; (try dsimp only at hSW); go_simp; (try with_reducible rfl))
          (try simp only [Act.put, sA, sZ, sS])
          refine tkU 35 (i := 14) rfl rfl (by kernel_rfl) (fun _ _ _ h => h) (by assumption) ?_
          (try simp only [Act.put, sA, sZ, sS])
          refine tkU 36 (i := 15) rfl rfl (by kernel_rfl) (fun _ _ _ h => h) (by assumption) ?_
          (try simp only [Act.put, sA, sZ, sS])
          refine tkU 37 (i := 16) rfl rfl (by kernel_rfl) (fun _ _ _ h => h) (by assumption) ?_
          (try simp only [Act.put, sA, sZ, sS])
          refine tkU 38 (i := 17) rfl rfl (by kernel_rfl) (fun _ _ _ h => h) (by assumption) ?_
          (try simp only [Act.put, sA, sZ, sS])
          refine tkU 39 (i := 18) rfl rfl (by kernel_rfl) (fun _ _ _ h => h) (by assumption) ?_
          (try simp only [Act.put, sA, sZ, sS])
          refine tkU 40 (i := 19) rfl rfl (by kernel_rfl) (fun _ _ _ h => h) (by assumption) ?_
          (try simp only [Act.put, sA, sZ, sS])
          refine tkU 41 (i := 20) rfl rfl (by kernel_rfl) (fun _ _ _ h => h) (by assumption) ?_
          (try simp only [Act.put, sA, sZ, sS])
          refine tkU 42 (i := 21) rfl rfl (by kernel_rfl) (fun _ _ _ h => h) (by assumption) ?_
          (try simp only [Act.put, sA, sZ, sS])
          refine tkU 43 (i := 22) rfl rfl (by kernel_rfl) (fun _ _ _ h => h) (by assumption) ?_
          (try simp only [Act.put, sA, sZ, sS])
          refine tkU 44 (i := 23) rfl rfl (by kernel_rfl) (fun _ _ _ h => h) (by assumption) ?_
          (try simp only [Act.put, sA, sZ, sS])
          refine tkW 45 (i := 24) (v := ?v10_24) rfl rfl (by kernel_rfl) (fun _ _ _ h => h) ?y10_24 (by assumption) ?r10_24
          case y10_24 => (intro W hSW; (try dsimp only at hSW); go_simp; (try with_reducible rfl))
          (try simp only [Act.put, sA, sZ, sS])
          refine tkW 2 (i := 25) (v := ?v10_25) rfl rfl (by kernel_rfl) (fun _ _ _ h => h) ?y10_25 (by assumption) ?r10_25
          case y10_25 => (intro W hSW; (try dsimp only at hSW); go_simp; (try with_reducible rfl))
          (try simp only [Act.put, sA, sZ, sS])
          refine wpAnyH_done (by kernel_rfl) ?_ _
          go_wp2_with fail
          go_ret
          exact ⟨by rw [HK.out]; rfl, hb⟩
        · cases q2
          · go_upto_region 3 with fail
            replace hS := hS.drew
            refine wp_region_held_drew (S := fun w' => w'.cell? ⟨w.heap.size, 1, none⟩ = some (.int .i64 2) ∧ w'.cell? ⟨w.heap.size, 2, none⟩ = some (.int .i64 2) ∧ w'.cell? ⟨w.heap.size, 3, none⟩ = some (.int .i64 size) ∧ w'.cell? ⟨w.heap.size, 4, none⟩ = some (.int .i64 depth) ∧ w'.cell? ⟨w.heap.size, 5, none⟩ = some (.int .i64 fresh) ∧ w'.cell? ⟨0, 4, none⟩ = some (.int .i64 1) ∧ w'.cell? ⟨0, 5, none⟩ = some (.int .i64 8) ∧ w'.cell? ⟨1, 16, none⟩ = some (.int .i64 0) ∧ w'.cell? ⟨1, 17, none⟩ = some (.int .i64 0)) (by kernel_rfl) (⟨c1, c2, c3, c4, c5, d0, d1, f0, f1⟩) (fun hHeld => ?_)
            refine tkW 21 (i := 0) (v := ?v11_0) rfl rfl (by kernel_rfl) (fun _ _ _ h => h) ?y11_0 (by assumption) ?r11_0
            case y11_0 => (intro W hSW; (try dsimp only at hSW); go_simp; (try with_reducible rfl))
            (try simp only [Act.put, sA, sZ, sS])
            refine tkW 22 (i := 1) (v := ?v11_1) rfl rfl (by kernel_rfl) (fun _ _ _ h => h) ?y11_1 (by assumption) ?r11_1
            case y11_1 => (intro W hSW; (try dsimp only at hSW); go_simp; (try with_reducible rfl))
            (try simp only [Act.put, sA, sZ, sS])
            refine tkW 23 (i := 2) (v := ?v11_2) rfl rfl (by kernel_rfl) (fun _ _ _ h => h) ?y11_2 (by assumption) ?r11_2
            case y11_2 => (intro W hSW; (try dsimp only at hSW); go_simp; (try with_reducible rfl))
            (try simp only [Act.put, sA, sZ, sS])
            refine wpAnyH_ready (rs := [3]) (by kernel_rfl) (by simp) ?_
            refine AllReadyH.cons rfl (fun K hK => ?_) AllReadyH.nil
            rw [if_pos (by rfl)]
            go_simp
            refine (within_any _ _ _ _).mono ?_
            rintro e w1 ⟨rfl, hb1⟩
            clear hb hl c0 c1 c2 c3 c4 c5 d0 d1 f0 f1 hg hHeld
            replace hS := hS.below hb1
            clear hb1
            obtain ⟨hb, ⟨hl, c0, c1, c2, c3, c4, c5⟩, hg⟩ := id hS
            dsimp only at c0 c1 c2 c3 c4 c5
            have d0 := hg.d 4 1 rfl
            have d1 := hg.d 5 8 rfl
            have f0 := hg.f 16 0 rfl
            have f1 := hg.f 17 0 rfl
            (first | rw [h1.out] | rw [h2.out] | rw [h3.out])
            go_wp2_with fail
            refine hK.out _ _ (⟨c1, c2, c3, c4, c5, d0, d1, f0, f1⟩) (fun hHeld => ?_)
            clear hK K
            (try simp only [Act.put, sA, sZ, sS])
            refine tkW 25 (i := 4) (v := ?v11_4) rfl rfl (by kernel_rfl) (fun _ _ _ h => h) ?y11_4 (by assumption) ?r11_4
            case y11_4 => (intro W hSW; (try dsimp only at hSW); go_simp; (try with_reducible rfl))
            (try simp only [Act.put, sA, sZ, sS])
            refine tkW 26 (i := 5) (v := ?v11_5) rfl rfl (by kernel_rfl) (fun _ _ _ h => h) ?y11_5 (by assumption) ?r11_5
            case y11_5 => (intro W hSW; (try dsimp only at hSW); go_simp; (try with_reducible rfl))
            (try simp only [Act.put, sA, sZ, sS])
            refine tkW 27 (i := 6) (v := ?v11_6) rfl rfl (by kernel_rfl) (fun _ _ _ h => h) ?y11_6 (by assumption) ?r11_6
            case y11_6 => (intro W hSW; (try dsimp only at hSW); go_simp; (try with_reducible rfl))
            (try simp only [Act.put, sA, sZ, sS])
            refine tkW 28 (i := 7) (v := ?v11_7) rfl rfl (by kernel_rfl) (fun _ _ _ h => h) ?y11_7 (by assumption) ?r11_7
            case y11_7 => (intro W hSW; (try dsimp only at hSW); go_simp; (try with_reducible rfl))
            (try simp only [Act.put, sA, sZ, sS])
            refine tkW 29 (i := 8) (v := ?v11_8) rfl rfl (by kernel_rfl) (fun _ _ _ h => h) ?y11_8 (by assumption) ?r11_8
            case y11_8 => (intro W hSW; (try dsimp only at hSW); go_simp; (try with_reducible rfl))
            (try simp only [Act.put, sA, sZ, sS])
            refine tkW 30 (i := 9) (v := ?v11_9) rfl rfl (by kernel_rfl) (fun _ _ _ h => h) ?y11_9 (by assumption) ?r11_9
            case y11_9 => (intro W hSW; (try dsimp only at hSW); go_simp; (try with_reducible rfl))
            (try simp only [Act.put, sA, sZ, sS])
            refine tkW 31 (i := 10) (v := ?v11_10) rfl rfl (by kernel_rfl) (fun _ _ _ h => h) ?y11_10 (by assumption) ?r11_10
            case y11_10 => (intro W hSW; (try dsimp only at hSW); go_simp; (try with_reducible rfl))
            (try simp only [Act.put, sA, sZ, sS])
            refine wpAnyH_ready (rs := [11]) (by kernel_rfl) (by simp) ?_
            refine AllReadyH.cons rfl (fun K hK => ?_) AllReadyH.nil
            rw [if_pos (by rfl)]
            go_simp
            refine (within_any _ _ _ _).mono ?_
            rintro e w1 ⟨rfl, hb1⟩
            clear hb hl c0 c1 c2 c3 c4 c5 d0 d1 f0 f1 hg hHeld
            replace hS := hS.below hb1
            clear hb1
            obtain ⟨hb, ⟨hl, c0, c1, c2, c3, c4, c5⟩, hg⟩ := id hS
            dsimp only at c0 c1 c2 c3 c4 c5
            have d0 := hg.d 4 1 rfl
            have d1 := hg.d 5 8 rfl
            have f0 := hg.f 16 0 rfl
            have f1 := hg.f 17 0 rfl
            (first | rw [h1.out] | rw [h2.out] | rw [h3.out])
            go_wp2_with fail
            refine hK.out _ _ (⟨c1, c2, c3, c4, c5, d0, d1, f0, f1⟩) (fun hHeld => ?_)
            clear hK K
            (try simp only [Act.put, sA, sZ, sS])
            refine tkW 33 (i := 12) (v := ?v11_12) rfl rfl (by kernel_rfl) (fun _ _ _ h => h) ?y11_12 (by assumption) ?r11_12
            case y11_12 => (intro W hSW; (try dsimp only at hSW); go_simp; (try with_reducible rfl))
            (try simp only [Act.put, sA, sZ, sS])
            refine tkW 34 (i := 13) (v := ?v11_13) rfl rfl (by kernel_rfl) (fun _ _ _ h => h) ?y11_13 (by assumption) ?r11_13
            case y11_13 => (intro W hSW; (try dsimp only at hSW); go_simp; (try with_reducible rfl))
            (try simp only [Act.put, sA, sZ, sS])
            refine tkU 35 (i := 14) rfl rfl (by kernel_rfl) (fun _ _ _ h => h) (by assumption) ?_
            (try simp only [Act.put, sA, sZ, sS])
            refine tkU 36 (i := 15) rfl rfl (by kernel_rfl) (fun _ _ _ h => h) (by assumption) ?_
            (try simp only [Act.put, sA, sZ, sS])
            refine tkU 37 (i := 16) rfl rfl (by kernel_rfl) (fun _ _ _ h => h) (by assumption) ?_
            (try simp only [Act.put, sA, sZ, sS])
            refine tkU 38 (i := 17) rfl rfl (by kernel_rfl) (fun _ _ _ h => h) (by assumption) ?_
            (try simp only [Act.put, sA, sZ, sS])
            refine tkU 39 (i := 18) rfl rfl (by kernel_rfl) (fun _ _ _ h => h) (by assumption) ?_
            (try simp only [Act.put, sA, sZ, sS])
            refine tkU 40 (i := 19) rfl rfl (by kernel_rfl) (fun _ _ _ h => h) (by assumption) ?_
            (try simp only [Act.put, sA, sZ, sS])
            refine tkU 41 (i := 20) rfl rfl (by kernel_rfl) (fun _ _ _ h => h) (by assumption) ?_
            (try simp only [Act.put, sA, sZ, sS])
            refine tkU 42 (i := 21) rfl rfl (by kernel_rfl) (fun _ _ _ h => h) (by assumption) ?_
            (try simp only [Act.put, sA, sZ, sS])
            refine tkU 43 (i := 22) rfl rfl (by kernel_rfl) (fun _ _ _ h => h) (by assumption) ?_
            (try simp only [Act.put, sA, sZ, sS])
            refine tkU 44 (i := 23) rfl rfl (by kernel_rfl) (fun _ _ _ h => h) (by assumption) ?_
            (try simp only [Act.put, sA, sZ, sS])
            refine tkW 45 (i := 24) (v := ?v11_24) rfl rfl (by kernel_rfl) (fun _ _ _ h => h) ?y11_24 (by assumption) ?r11_24
            case y11_24 => (intro W hSW; (try dsimp only at hSW); go_simp; (try with_reducible rfl))
            (try simp only [Act.put, sA, sZ, sS])
            refine tkW 2 (i := 25) (v := ?v11_25) rfl rfl (by kernel_rfl) (fun _ _ _ h => h) ?y11_25 (by assumption) ?r11_25
            case y11_25 => (intro W hSW; (try dsimp only at hSW); go_simp; (try with_reducible rfl))
            (try simp only [Act.put, sA, sZ, sS])
            refine wpAnyH_done (by kernel_rfl) ?_ _
            go_wp2_with fail
            go_ret
            exact ⟨by rw [HK.out]; rfl, hb⟩
          · go_upto_region 3 with fail
            replace hS := hS.drew
            refine wp_region_held_drew (S := fun w' => w'.cell? ⟨w.heap.size, 1, none⟩ = some (.int .i64 2) ∧ w'.cell? ⟨w.heap.size, 2, none⟩ = some (.int .i64 2) ∧ w'.cell? ⟨w.heap.size, 3, none⟩ = some (.int .i64 size) ∧ w'.cell? ⟨w.heap.size, 4, none⟩ = some (.int .i64 depth) ∧ w'.cell? ⟨w.heap.size, 5, none⟩ = some (.int .i64 fresh) ∧ w'.cell? ⟨0, 4, none⟩ = some (.int .i64 1) ∧ w'.cell? ⟨0, 5, none⟩ = some (.int .i64 8) ∧ w'.cell? ⟨1, 16, none⟩ = some (.int .i64 0) ∧ w'.cell? ⟨1, 17, none⟩ = some (.int .i64 0)) (by kernel_rfl) (⟨c1, c2, c3, c4, c5, d0, d1, f0, f1⟩) (fun hHeld => ?_)
            refine tkW 21 (i := 0) (v := ?v12_0) rfl rfl (by kernel_rfl) (fun _ _ _ h => h) ?y12_0 (by assumption) ?r12_0
            case y12_0 => (intro W hSW; (try dsimp only at hSW); go_simp; (try with_reducible rfl))
            (try simp only [Act.put, sA, sZ, sS])
            refine tkW 22 (i := 1) (v := ?v12_1) rfl rfl (by kernel_rfl) (fun _ _ _ h => h) ?y12_1 (by assumption) ?r12_1
            case y12_1 => (intro W hSW; (try dsimp only at hSW); go_simp; (try with_reducible rfl))
            (try simp only [Act.put, sA, sZ, sS])
            refine tkW 23 (i := 2) (v := ?v12_2) rfl rfl (by kernel_rfl) (fun _ _ _ h => h) ?y12_2 (by assumption) ?r12_2
            case y12_2 => (intro W hSW; (try dsimp only at hSW); go_simp; (try with_reducible rfl))
            (try simp only [Act.put, sA, sZ, sS])
            refine wpAnyH_ready (rs := [3]) (by kernel_rfl) (by simp) ?_
            refine AllReadyH.cons rfl (fun K hK => ?_) AllReadyH.nil
            rw [if_pos (by rfl)]
            go_simp
            refine (within_any _ _ _ _).mono ?_
            rintro e w1 ⟨rfl, hb1⟩
            clear hb hl c0 c1 c2 c3 c4 c5 d0 d1 f0 f1 hg hHeld
            replace hS := hS.below hb1
            clear hb1
            obtain ⟨hb, ⟨hl, c0, c1, c2, c3, c4, c5⟩, hg⟩ := id hS
            dsimp only at c0 c1 c2 c3 c4 c5
            have d0 := hg.d 4 1 rfl
            have d1 := hg.d 5 8 rfl
            have f0 := hg.f 16 0 rfl
            have f1 := hg.f 17 0 rfl
            (first | rw [h1.out] | rw [h2.out] | rw [h3.out])
            go_wp2_with fail
            refine hK.out _ _ (⟨c1, c2, c3, c4, c5, d0, d1, f0, f1⟩) (fun hHeld => ?_)
            clear hK K
            (try simp only [Act.put, sA, sZ, sS])
            refine tkW 25 (i := 4) (v := ?v12_4) rfl rfl (by kernel_rfl) (fun _ _ _ h => h) ?y12_4 (by assumption) ?r12_4
            case y12_4 => (intro W hSW; (try dsimp only at hSW); go_simp; (try with_reducible rfl))
            (try simp only [Act.put, sA, sZ, sS])
            refine tkW 26 (i := 5) (v := ?v12_5) rfl rfl (by kernel_rfl) (fun _ _ _ h => h) ?y12_5 (by assumption) ?r12_5
            case y12_5 => (intro W hSW; (try dsimp only at hSW); go_simp; (try with_reducible rfl))
            (try simp only [Act.put, sA, sZ, sS])
            refine tkW 27 (i := 6) (v := ?v12_6) rfl rfl (by kernel_rfl) (fun _ _ _ h => h) ?y12_6 (by assumption) ?r12_6
            case y12_6 => (intro W hSW; (try dsimp only at hSW); go_simp; (try with_reducible rfl))
            (try simp only [Act.put, sA, sZ, sS])
            refine tkW 28 (i := 7) (v := ?v12_7) rfl rfl (by kernel_rfl) (fun _ _ _ h => h) ?y12_7 (by assumption) ?r12_7
            case y12_7 => (intro W hSW; (try dsimp only at hSW); go_simp; (try with_reducible rfl))
            (try simp only [Act.put, sA, sZ, sS])
            refine tkW 29 (i := 8) (v := ?v12_8) rfl rfl (by kernel_rfl) (fun _ _ _ h => h) ?y12_8 (by assumption) ?r12_8
            case y12_8 => (intro W hSW; (try dsimp only at hSW); go_simp; (try with_reducible rfl))
            (try simp only [Act.put, sA, sZ, sS])
            refine tkW 30 (i := 9) (v := ?v12_9) rfl rfl (by kernel_rfl) (fun _ _ _ h => h) ?y12_9 (by assumption) ?r12_9
            case y12_9 => (intro W hSW; (try dsimp only at hSW); go_simp; (try with_reducible rfl))
            (try simp only [Act.put, sA, sZ, sS])
            refine tkW 31 (i := 10) (v := ?v12_10) rfl rfl (by kernel_rfl) (fun _ _ _ h => h) ?y12_10 (by assumption) ?r12_10
            case y12_10 => (intro W hSW; (try dsimp only at hSW); go_simp; (try with_reducible rfl))
            (try simp only [Act.put, sA, sZ, sS])
            refine wpAnyH_ready (rs := [11]) (by kernel_rfl) (by simp) ?_
            refine AllReadyH.cons rfl (fun K hK => ?_) AllReadyH.nil
            rw [if_pos (by rfl)]
            go_simp
            refine (within_any _ _ _ _).mono ?_
            rintro e w1 ⟨rfl, hb1⟩
            clear hb hl c0 c1 c2 c3 c4 c5 d0 d1 f0 f1 hg hHeld
            replace hS := hS.below hb1
            clear hb1
            obtain ⟨hb, ⟨hl, c0, c1, c2, c3, c4, c5⟩, hg⟩ := id hS
            dsimp only at c0 c1 c2 c3 c4 c5
            have d0 := hg.d 4 1 rfl
            have d1 := hg.d 5 8 rfl
            have f0 := hg.f 16 0 rfl
            have f1 := hg.f 17 0 rfl
            (first | rw [h1.out] | rw [h2.out] | rw [h3.out])
            go_wp2_with fail
            refine hK.out _ _ (⟨c1, c2, c3, c4, c5, d0, d1, f0, f1⟩) (fun hHeld => ?_)
            clear hK K
            (try simp only [Act.put, sA, sZ, sS])
            refine tkW 33 (i := 12) (v := ?v12_12) rfl rfl (by kernel_rfl) (fun _ _ _ h => h) ?y12_12 (by assumption) ?r12_12
            case y12_12 => (intro W hSW; (try dsimp only at hSW); go_simp; (try with_reducible rfl))
            (try simp only [Act.put, sA, sZ, sS])
            refine tkW 34 (i := 13) (v := ?v12_13) rfl rfl (by kernel_rfl) (fun _ _ _ h => h) ?y12_13 (by assumption) ?r12_13
            case y12_13 => (intro W hSW; (try dsimp only at hSW); go_simp; (try with_reducible rfl))
            (try simp only [Act.put, sA, sZ, sS])
            refine tkW 35 (i := 14) (v := ?v12_14) rfl rfl (by kernel_rfl) (fun _ _ _ h => h) ?y12_14 (by assumption) ?r12_14
            case y12_14 => (intro W hSW; (try dsimp only at hSW); go_simp; (try with_reducible rfl))
            (try simp only [Act.put, sA, sZ, sS])
            refine tkW 36 (i := 15) (v := ?v12_15) rfl rfl (by kernel_rfl) (fun _ _ _ h => h) ?y12_15 (by assumption) ?r12_15
            case y12_15 => (intro W hSW; (try dsimp only at hSW); go_simp; (try with_reducible rfl))
            (try simp only [Act.put, sA, sZ, sS])
            refine tkW 37 (i := 16) (v := ?v12_16) rfl rfl (by kernel_rfl) (fun _ _ _ h => h) ?y12_16 (by assumption) ?r12_16
            case y12_16 => (intro W hSW; (try dsimp only at hSW); go_simp; (try with_reducible rfl))
            (try simp only [Act.put, sA, sZ, sS])
            refine tkW 38 (i := 17) (v := ?v12_17) rfl rfl (by kernel_rfl) (fun _ _ _ h => h) ?y12_17 (by assumption) ?r12_17
            case y12_17 => (intro W hSW; (try dsimp only at hSW); go_simp; (try with_reducible rfl))
            (try simp only [Act.put, sA, sZ, sS])
            refine tkW 39 (i := 18) (v := ?v12_18) rfl rfl (by kernel_rfl) (fun _ _ _ h => h) ?y12_18 (by assumption) ?r12_18
            case y12_18 => (intro W hSW; (try dsimp only at hSW); go_simp; (try with_reducible rfl))
            (try simp only [Act.put, sA, sZ, sS])
            refine tkW 40 (i := 19) (v := ?v12_19) rfl rfl (by kernel_rfl) (fun _ _ _ h => h) ?y12_19 (by assumption) ?r12_19
            case y12_19 => (intro W hSW; (try dsimp only at hSW); go_simp; (try with_reducible rfl))
            (try simp only [Act.put, sA, sZ, sS])
            refine tkW 41 (i := 20) (v := ?v12_20) rfl rfl (by kernel_rfl) (fun _ _ _ h => h) ?y12_20 (by assumption) ?r12_20
            case y12_20 => (intro W hSW; (try dsimp only at hSW); go_simp; (try with_reducible rfl))
            (try simp only [Act.put, sA, sZ, sS])
            refine tkW 42 (i := 21) (v := ?v12_21) rfl rfl (by kernel_rfl) (fun _ _ _ h => h) ?y12_21 (by assumption) ?r12_21
            case y12_21 => (intro W hSW; (try dsimp only at hSW); go_simp; (try with_reducible rfl))
            (try simp only [Act.put, sA, sZ, sS])
            refine tkW 43 (i := 22) (v := ?v12_22) rfl rfl (by kernel_rfl) (fun _ _ _ h => h) ?y12_22 (by assumption) ?r12_22
            case y12_22 => (intro W hSW; (try dsimp only at hSW); go_simp; (try with_reducible rfl))
            (try simp only [Act.put, sA, sZ, sS])
            refine wpAnyH_ready (rs := [23]) (by kernel_rfl) (by simp) ?_
            refine AllReadyH.cons rfl (fun K hK => ?_) AllReadyH.nil
            rw [if_pos (by rfl)]
            go_simp
            refine (within_any _ _ _ _).mono ?_
            rintro e w1 ⟨rfl, hb1⟩
            clear hb hl c0 c1 c2 c3 c4 c5 d0 d1 f0 f1 hg hHeld
            replace hS := hS.below hb1
            clear hb1
            obtain ⟨hb, ⟨hl, c0, c1, c2, c3, c4, c5⟩, hg⟩ := id hS
            dsimp only at c0 c1 c2 c3 c4 c5
            have d0 := hg.d 4 1 rfl
            have d1 := hg.d 5 8 rfl
            have f0 := hg.f 16 0 rfl
            have f1 := hg.f 17 0 rfl
            (first | rw [h1.out] | rw [h2.out] | rw [h3.out])
            go_wp2_with fail
            refine hK.out _ _ (⟨c1, c2, c3, c4, c5, d0, d1, f0, f1⟩) (fun hHeld => ?_)
            clear hK K
            (try simp only [Act.put, sA, sZ, sS])
            refine tkW 45 (i := 24) (v := ?v12_24) rfl rfl (by kernel_rfl) (fun _ _ _ h => h) ?y12_24 (by assumption) ?r12_24
            case y12_24 => (intro W hSW; (try dsimp only at hSW); go_simp; (try with_reducible rfl))
            (try simp only [Act.put, sA, sZ, sS])
            refine tkW 2 (i := 25) (v := ?v12_25) rfl rfl (by kernel_rfl) (fun _ _ _ h => h) ?y12_25 (by assumption) ?r12_25
            case y12_25 => (intro W hSW; (try dsimp only at hSW); go_simp; (try with_reducible rfl))
            (try simp only [Act.put, sA, sZ, sS])
            refine wpAnyH_done (by kernel_rfl) ?_ _
            go_wp2_with fail
            go_ret
            exact ⟨by rw [HK.out]; rfl, hb⟩
    · have H : Hid (PortB ⟨part, kind, dir, size, depth, fresh⟩ = false) := by
        show _ = _
        unfold PortB
        simp
        intro _ h
        exact absurd h hd
      obtain ⟨hb, ⟨hl, c0, c1, c2, c3, c4, c5⟩, hg⟩ := id hS
      dsimp only at c0 c1 c2 c3 c4 c5
      have d1 : (dir != 1) = true := by simp; exact fun e => hd (.inl e)
      have d2 : (dir != 2) = true := by simp; exact fun e => hd (.inr e)
      clear hd
      rcases hk with rfl | rfl
      all_goals
        go_wp2
        go_ret
        exact ⟨by rw [H.out]; rfl, hb⟩
  · have H : Hid (PortB ⟨part, kind, dir, size, depth, fresh⟩ = false) := by
      show _ = _
      unfold PortB
      simp
      intro h
      exact absurd h hk
    obtain ⟨hb, ⟨hl, c0, c1, c2, c3, c4, c5⟩, hg⟩ := id hS
    dsimp only at c0 c1 c2 c3 c4 c5
    have k1 : (kind != 1) = true := by simp; exact fun e => hk (.inl e)
    have k2 : (kind != 2) = true := by simp; exact fun e => hk (.inr e)
    clear hk
    go_wp2
    go_ret
    exact ⟨by rw [H.out]; rfl, hb⟩
end Go.Proofs.YtdennekkbdlhdaaDoor
namespace Go.Proofs.YtdennekkbdlhdaaDoor
open Go.RowKit Go.Deep
set_option linter.unusedVariables false

/-- is it the number of something? -/
def ofB (n : Int) (k : Nat) : Bool := decide (0 ≤ n) && decide (n < (k : Int))

theorem of_parts (n : Int) (k : Nat) (A : Option Addr) (m : Nat) (w : World) :
    Calls Tryd.prog 47 #[.slice A k m, .int .i64 n] w fun e w' => e = .returned (.bool (ofB n k)) ∧ w = w' := by
  go_enter Tryd.func47, Tryd.ntmps47
  by_cases h1 : 0 ≤ n
  · by_cases h2 : n < (k : Int)
    · have H : Hid (ofB n k = true) := by show _ = _; simp [ofB, h1, h2]
      go_wp2
      go_ret
      exact ⟨by rw [H.out]; rfl, rfl⟩
    · have H : Hid (ofB n k = false) := by show _ = _; simp [ofB, h2]
      go_wp2
      go_ret
      exact ⟨by rw [H.out]; rfl, rfl⟩
  · have H : Hid (ofB n k = false) := by show _ = _; simp [ofB, h1]
    go_wp2
    go_ret
    exact ⟨by rw [H.out]; rfl, rfl⟩
theorem of_ports (n : Int) (k : Nat) (A : Option Addr) (m : Nat) (w : World) :
    Calls Tryd.prog 56 #[.slice A k m, .int .i64 n] w fun e w' => e = .returned (.bool (ofB n k)) ∧ w = w' := by
  go_enter Tryd.func56, Tryd.ntmps56
  by_cases h1 : 0 ≤ n
  · by_cases h2 : n < (k : Int)
    · have H : Hid (ofB n k = true) := by show _ = _; simp [ofB, h1, h2]
      go_wp2
      go_ret
      exact ⟨by rw [H.out]; rfl, rfl⟩
    · have H : Hid (ofB n k = false) := by show _ = _; simp [ofB, h2]
      go_wp2
      go_ret
      exact ⟨by rw [H.out]; rfl, rfl⟩
  · have H : Hid (ofB n k = false) := by show _ = _; simp [ofB, h1]
    go_wp2
    go_ret
    exact ⟨by rw [H.out]; rfl, rfl⟩
theorem of_spans (n : Int) (k : Nat) (A : Option Addr) (m : Nat) (w : World) :
    Calls Tryd.prog 45 #[.slice A k m, .int .i64 n] w fun e w' => e = .returned (.bool (ofB n k)) ∧ w = w' := by
  go_enter Tryd.func45, Tryd.ntmps45
  by_cases h1 : 0 ≤ n
  · by_cases h2 : n < (k : Int)
    · have H : Hid (ofB n k = true) := by show _ = _; simp [ofB, h1, h2]
      go_wp2
      go_ret
      exact ⟨by rw [H.out]; rfl, rfl⟩
    · have H : Hid (ofB n k = false) := by show _ = _; simp [ofB, h2]
      go_wp2
      go_ret
      exact ⟨by rw [H.out]; rfl, rfl⟩
  · have H : Hid (ofB n k = false) := by show _ = _; simp [ofB, h1]
    go_wp2
    go_ret
    exact ⟨by rw [H.out]; rfl, rfl⟩

theorem Ports.at {w : World} {A : Option Addr} {l : List Po} (h : Ports w A l) {k : Nat} (hk : k < l.length) :
    ∃ b off, A = some ⟨b, off, none⟩ ∧ b < w.heap.size ∧ (w.cell? ⟨b, off + k * 6, none⟩ = some (.int .i64 (l.getD k default).part) ∧ w.cell? ⟨b, off + k * 6 + 1, none⟩ = some (.int .i64 (l.getD k default).kind) ∧ w.cell? ⟨b, off + k * 6 + 2, none⟩ = some (.int .i64 (l.getD k default).dir) ∧
      w.cell? ⟨b, off + k * 6 + 3, none⟩ = some (.int .i64 (l.getD k default).size) ∧ w.cell? ⟨b, off + k * 6 + 4, none⟩ = some (.int .i64 (l.getD k default).depth) ∧ w.cell? ⟨b, off + k * 6 + 5, none⟩ = some (.int .i64 (l.getD k default).fresh)) := by
  rcases h.2 with h0 | ⟨b, off, rfl, hlt, hc⟩
  · omega
  · exact ⟨b, off, rfl, hlt, hc k hk⟩
theorem Parts.at {w : World} {A : Option Addr} {l : List Pt} (h : Parts w A l) {k : Nat} (hk : k < l.length) :
    ∃ b off, A = some ⟨b, off, none⟩ ∧ b < w.heap.size ∧ w.cell? ⟨b, off + k * 3, none⟩ = some (.int .i64 (l.getD k default).node) ∧ w.cell? ⟨b, off + k * 3 + 1, none⟩ = some (.int .i64 (l.getD k default).lo) ∧ w.cell? ⟨b, off + k * 3 + 2, none⟩ = some (.int .i64 (l.getD k default).hi) := by
  rcases h.2 with h0 | ⟨b, off, rfl, hlt, hc⟩
  · omega
  · exact ⟨b, off, rfl, hlt, hc k hk⟩

/-- the row on ports -/
def PortsK (c : Conf) : Prop := c.ports.length ≤ 64 ∧ ∀ k, k < c.ports.length → ofB (c.ports.getD k default).part c.parts.length = true ∧ PortB (c.ports.getD k default) = true
instance (c : Conf) : Decidable (PortsK c) := by unfold PortsK; infer_instance

/-- what stands while a configuration is looked at -/
structure CfS (w W : World) (c : Conf) (d : Ad) : Prop where
  bel : Below w.heap.size w W
  x : Boxed W w.heap.size c d
  g : Glo W
  cf : ConfAt W c d
theorem CfS.below {w W W' : World} {c : Conf} {d : Ad} (h : CfS w W c d) (hb : Below W.heap.size W W') : CfS w W' c d :=
  ⟨h.bel.trans (hb.mono h.bel.size), h.x.below hb (Nat.le_refl _), h.g.below hb (Nat.le_refl _), h.cf.of_below hb (Nat.le_refl _)⟩
theorem CfS.first {w : World} {c : Conf} {d : Ad} (t : TypeId) (hg : Glo w) (h : ConfAt w c d) : CfS w (w.alloc (.cells (c.cells d) t)) c d :=
  ⟨(Below.refl w.heap.size w).alloc (Nat.le_refl _) _, boxed_new w c d t, hg.below ((Below.refl w.heap.size w).alloc (Nat.le_refl _) _) (Nat.le_refl _), h.of_below ((Below.refl w.heap.size w).alloc (Nat.le_refl _) _) (Nat.le_refl _)⟩

set_option maxRecDepth 100000 in
set_option maxHeartbeats 4000000 in
theorem ports_any (c : Conf) (d : Ad) (w : World) (hg : Glo w) (h : ConfAt w c d) :
    Calls Tryd.prog 34 #[c.val d] w fun e w' => e = .returned (.bool (decide (PortsK c))) ∧ Below w.heap.size w w' := by
  have hS := CfS.first 34 hg h
  clear hg h
  obtain ⟨oA, oC, pA, pC, wA, wC, qA, qC, lA, lC⟩ := d
  unfold Conf.val
  unfold Conf.cells at hS
  dsimp only at hS ⊢
  obtain ⟨hb, ⟨hl, e0, e1, e2, e3, e4, e5, e6, e7, e8, e9, e10, e11⟩, hg, hc⟩ := id hS
  dsimp only at e1 e8 e9 e10 e11
  have hq := hc.qLen
  go_enter Tryd.func34, Tryd.ntmps34
  by_cases hlen : c.ports.length ≤ 64
  · have hlen2 : ((c.ports.length : Nat) : Int) ≤ 64 := by omega
    have HS := hide hS
    clear hc hq
    go_upto_region 4 with fail
    go_loopw [12] (fun i W => ∃ k : Nat, k ≤ c.ports.length ∧ i = .int .i64 k ∧ CfS w W c ⟨oA, oC, pA, pC, wA, wC, qA, qC, lA, lC⟩ ∧ Hid (∀ j, j < k → ofB (c.ports.getD j default).part c.parts.length = true ∧ PortB (c.ports.getD j default) = true)) (fun i _ => c.ports.length - (intOf i).toNat)
    case atStart => exact ⟨0, by omega, rfl, HS.out, fun j hj => by omega⟩
    case round =>
      obtain ⟨k, hk, rfl, hT, H⟩ := hrel
      clear hS hb hl e0 e1 e2 e3 e4 e5 e6 e7 e8 e9 e10 e11 hg HS
      obtain ⟨hb, ⟨hl, e0, e1, e2, e3, e4, e5, e6, e7, e8, e9, e10, e11⟩, hg, hc⟩ := id hT
      dsimp only at e1 e8 e9 e10 e11
      by_cases hlt : k < c.ports.length
      · obtain ⟨pb, po, hA, hpb, f0, f1, f2, f3, f4, f5⟩ := hc.ports.at hlt
        obtain ⟨p, hp⟩ : ∃ p, c.ports.getD k default = p := ⟨_, rfl⟩
        rw [hp] at f0 f1 f2 f3 f4 f5
        dsimp only at hA
        subst hA
        have hbx := (Below.refl wr.heap.size wr).alloc (Nat.le_refl _) (.cells p.cells 49)
        have hT1 := hide (hT.below hbx)
        unfold Po.cells at hT1 hbx
        clear hT
        have HN : Hid (ofB p.part c.parts.length = true → PortB p = true → ∀ j, j < k + 1 → ofB (c.ports.getD j default).part c.parts.length = true ∧ PortB (c.ports.getD j default) = true) := fun g1 g2 j hj => by
          rcases Nat.lt_succ_iff_lt_or_eq.1 hj with h5 | rfl
          · exact H.out j h5
          · rw [hp]; exact ⟨g1, g2⟩
        have HF : Hid (ofB p.part c.parts.length = false ∨ PortB p = false → decide (PortsK c) = false) := fun g => by
          rw [decide_eq_false_iff_not]
          rintro ⟨_, a⟩
          have a1 := a k hlt
          rw [hp] at a1
          rcases g with g | g
          · rw [g] at a1; cases a1.1
          · rw [g] at a1; cases a1.2
        have HP := hide hp
        clear hp H hc hg
        obtain ⟨q1, h1⟩ : ∃ q, ofB p.part c.parts.length = q := ⟨_, rfl⟩
        obtain ⟨q2, h2⟩ : ∃ q, PortB p = q := ⟨_, rfl⟩
        rw [h1, h2] at HN HF
        replace h1 := hide h1
        replace h2 := hide h2
        cases q1
        · have H0 := hide (HF.out (.inl rfl))
          go_wp2_with (go_at_call 47; refine (of_parts _ _ _ _ _).mono ?_; rintro e w1 ⟨rfl, rfl⟩; rw [h1.out])
          go_ret
          exact ⟨by rw [H0.out]; rfl, hT1.out.bel⟩
        · cases q2
          · have H0 := hide (HF.out (.inr rfl))
            go_wp2_with (first
              | (go_at_call 47; refine (of_parts _ _ _ _ _).mono ?_; rintro e w1 ⟨rfl, rfl⟩; rw [h1.out])
              | (go_at_call 48; refine (port_any p _ hT1.out.g).mono ?_; rintro e w1 ⟨rfl, hb1⟩; have hT2 := hT1.out.below hb1; rw [h2.out]))
            go_ret
            exact ⟨by rw [H0.out]; rfl, hT2.bel⟩
          · have H0 := hide (HN.out rfl rfl)
            go_wp2_with (first
              | (go_at_call 47; refine (of_parts _ _ _ _ _).mono ?_; rintro e w1 ⟨rfl, rfl⟩; rw [h1.out])
              | (go_at_call 48; refine (port_any p _ hT1.out.g).mono ?_; rintro e w1 ⟨rfl, hb1⟩; have hT2 := hide (hT1.out.below hb1); rw [h2.out]))
            go_roundw
            case rel => exact ⟨k + 1, by omega, by go_num, hT2.out, H0⟩
            case measure => simp [intOf]; omega
      · obtain rfl : k = c.ports.length := by omega
        have H2 : Hid (decide (PortsK c) = true) := by
          show _ = _
          rw [decide_eq_true_eq]
          exact ⟨hlen, H.out⟩
        clear hc hg hT
        go_wp2
        go_ret
        exact ⟨by rw [H2.out]; rfl, hb⟩
  · have H : Hid (decide (PortsK c) = false) := by
      show _ = _
      rw [decide_eq_false_iff_not]
      exact fun a => hlen a.1
    go_wp2
    go_ret
    exact ⟨by rw [H.out]; rfl, hb⟩
end Go.Proofs.YtdennekkbdlhdaaDoor
namespace Go.Proofs.YtdennekkbdlhdaaDoor
open Go.RowKit Go.Deep
set_option linter.unusedVariables false

/-- may this stand in a window of a node? -/
def WinOk (c : Conf) (n : Nat) (p : Int) : Prop := p = -1 ∨ (ofB p c.parts.length = true ∧ (c.parts.getD p.toNat default).node = (n : Int))
instance (c : Conf) (n : Nat) (p : Int) : Decidable (WinOk c n p) := by unfold WinOk; infer_instance
def RowOk (c : Conf) (n : Nat) : Prop := ((c.windows.getD n []).length : Int) = c.nodes ∧ ∀ i, i < (c.windows.getD n []).length → WinOk c n ((c.windows.getD n []).getD i 0)
instance (c : Conf) (n : Nat) : Decidable (RowOk c n) := by unfold RowOk; infer_instance
/-- the row on windows -/
def WindowsK (c : Conf) : Prop := (c.windows.length : Int) = c.nodes ∧ ∀ n, n < c.windows.length → RowOk c n
instance (c : Conf) : Decidable (WindowsK c) := by unfold WindowsK; infer_instance

set_option maxRecDepth 100000 in
set_option maxHeartbeats 4000000 in
theorem windows_any (c : Conf) (d : Ad) (w : World) (hg : Glo w) (h : ConfAt w c d) (hn : c.nodes ≤ 16) :
    Calls Tryd.prog 33 #[c.val d] w fun e w' => e = .returned (.bool (decide (WindowsK c))) ∧ Below w.heap.size w w' := by
  have hS := CfS.first 34 hg h
  clear hg h
  obtain ⟨oA, oC, pA, pC, wA, wC, qA, qC, lA, lC⟩ := d
  unfold Conf.val
  unfold Conf.cells at hS
  dsimp only at hS ⊢
  go_enter Tryd.func33, Tryd.ntmps33
  by_cases hlen : ((c.windows.length : Nat) : Int) = c.nodes
  · have hl16 : c.windows.length ≤ 16 := by omega
    obtain ⟨hb, ⟨hl, e0, e1, e2, e3, e4, e5, e6, e7, e8, e9, e10, e11⟩, hg, hc⟩ := id hS
    dsimp only at e1 e8 e9 e10 e11
    have hw := hide hc.windows
    have hp := hide hc.parts
    clear hc hg hS
    go_upto_region 4 with fail
    go_loop [16] (fun i => ∃ k : Nat, k ≤ c.windows.length ∧ i = .int .i64 k ∧ Hid (∀ j, j < k → RowOk c j)) (fun i => c.windows.length - (intOf i).toNat)
    case atStart => exact ⟨0, by omega, rfl, fun j hj => by omega⟩
    case round =>
      obtain ⟨k, hk, rfl, H⟩ := hrel
      by_cases hlt : k < c.windows.length
      · obtain ⟨wb, wo, Ai, ci, hA, hwb, f0, f1, f2, f3⟩ := hw.out.at hlt
        subst hA
        obtain ⟨row, hr⟩ : ∃ r, c.windows.getD k [] = r := ⟨_, rfl⟩
        rw [hr] at f0 f1 f3
        have HF : Hid (¬ RowOk c k → decide (WindowsK c) = false) := fun g => by
          rw [decide_eq_false_iff_not]
          exact fun a => g (a.2 k hlt)
        have HR := hide hr
        have F3 := hide f3
        clear f3 hr
        by_cases hrl : ((row.length : Nat) : Int) = c.nodes
        · have hr16 : row.length ≤ 16 := by omega
          go_upto_region 9 with fail
          go_loop [28] (fun i => ∃ j : Nat, j ≤ row.length ∧ i = .int .i64 j ∧ Hid (∀ t, t < j → WinOk c k (row.getD t 0))) (fun i => row.length - (intOf i).toNat)
          case atStart => exact ⟨0, by omega, rfl, fun t ht => by omega⟩
          case round =>
            obtain ⟨j, hj, rfl, HJ⟩ := hrel
            by_cases hjl : j < row.length
            · obtain ⟨rb, ro, hA, hrb, g0⟩ := F3.out.at hjl
              subst hA
              obtain ⟨p, hpv⟩ : ∃ p, row.getD j 0 = p := ⟨_, rfl⟩
              rw [hpv] at g0
              have HN : Hid (WinOk c k p → ∀ t, t < j + 1 → WinOk c k (row.getD t 0)) := fun g t ht => by
                rcases Nat.lt_succ_iff_lt_or_eq.1 ht with h5 | rfl
                · exact HJ.out t h5
                · rw [hpv]; exact g
              have HX : Hid (¬ WinOk c k p → ¬ RowOk c k) := fun g a => g (by
                have a1 := a.2 j (by rw [HR.out]; exact hjl)
                rw [HR.out, hpv] at a1
                exact a1)
              clear HJ hpv
              by_cases hm : p = -1
              · subst hm
                have H1 := hide (HN.out (.inl rfl))
                go_wp2
                go_round
                case rel => exact ⟨j + 1, by omega, by go_num, H1⟩
                case measure => simp [intOf]; omega
              · obtain ⟨q1, h1⟩ : ∃ q, ofB p c.parts.length = q := ⟨_, rfl⟩
                cases q1
                · have H1 := hide (HF.out (HX.out (fun g => by
                    rcases g with g | g
                    · exact hm g
                    · rw [h1] at g; cases g.1)))
                  replace h1 := hide h1
                  go_wp2_with (go_at_call 47; refine (of_parts _ _ _ _ _).mono ?_; rintro e w1 ⟨rfl, rfl⟩; rw [h1.out])
                  go_ret
                  exact ⟨by rw [H1.out]; rfl, hb⟩
                · have hof := h1
                  simp only [ofB, Bool.and_eq_true, decide_eq_true_eq] at hof
                  obtain ⟨u1, u2⟩ := hof
                  obtain ⟨pn, rfl⟩ := Int.eq_ofNat_of_zero_le u1
                  obtain ⟨pb, po, hA, hpb, x0, x1, x2⟩ := hp.out.at (k := pn) (by omega)
                  (try dsimp only at hA)
                  subst hA
                  obtain ⟨z, hz⟩ : ∃ z, (c.parts.getD pn default).node = z := ⟨_, rfl⟩
                  rw [hz] at x0
                  by_cases hzk : z = (k : Int)
                  · have H1 := hide (HN.out (.inr ⟨h1, by simpa using hz.trans hzk⟩))
                    replace h1 := hide h1
                    subst hzk
                    clear hz
                    go_wp2_with (go_at_call 47; refine (of_parts _ _ _ _ _).mono ?_; rintro e w1 ⟨rfl, rfl⟩; rw [h1.out])
                    go_round
                    case rel => exact ⟨j + 1, by omega, by go_num, H1⟩
                    case measure => simp [intOf]; omega
                  · have H1 := hide (HF.out (HX.out (fun g => by
                      rcases g with g | g
                      · exact hm g
                      · exact hzk (hz.symm.trans (by simpa using g.2)))))
                    replace h1 := hide h1
                    have hzb : (z != (k : Int)) = true := by simpa using hzk
                    clear hz hzk
                    go_wp2_with (go_at_call 47; refine (of_parts _ _ _ _ _).mono ?_; rintro e w1 ⟨rfl, rfl⟩; rw [h1.out])
                    go_ret
                    exact ⟨by rw [H1.out]; rfl, hb⟩
            · obtain rfl : j = row.length := by omega
              have H1 : Hid (∀ t, t < k + 1 → RowOk c t) := fun t ht => by
                rcases Nat.lt_succ_iff_lt_or_eq.1 ht with h5 | rfl
                · exact H.out t h5
                · unfold RowOk; rw [HR.out]; exact ⟨hrl, HJ.out⟩
              clear HJ
              go_wp2
              go_round
              case rel => exact ⟨k + 1, by omega, by go_num, H1⟩
              case measure => simp [intOf]; omega
        · have H1 := hide (HF.out (fun a => hrl (by have a1 := a.1; rw [HR.out] at a1; exact a1)))
          go_wp2
          go_ret
          exact ⟨by rw [H1.out]; rfl, hb⟩
      · obtain rfl : k = c.windows.length := by omega
        have H2 : Hid (decide (WindowsK c) = true) := by
          show _ = _
          rw [decide_eq_true_eq]
          exact ⟨hlen, H.out⟩
        go_wp2
        go_ret
        exact ⟨by rw [H2.out]; rfl, hb⟩
  · have H : Hid (decide (WindowsK c) = false) := by
      show _ = _
      rw [decide_eq_false_iff_not]
      exact fun a => hlen a.1
    obtain ⟨hb, ⟨hl, e0, e1, e2, e3, e4, e5, e6, e7, e8, e9, e10, e11⟩, hg, hc⟩ := id hS
    dsimp only at e1 e8 e9 e10 e11
    clear hS hg hc
    go_wp2
    go_ret
    exact ⟨by rw [H.out]; rfl, hb⟩
end Go.Proofs.YtdennekkbdlhdaaDoor
