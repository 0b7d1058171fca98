/-
  What the library does for it: a list of arcs cloned, the first that is true; how two arcs are held against each other.
-/
import Derived.Test.YtmplioglihmkjaaRgS
import Derived.Shelf.SlicesE.Clone
namespace Go.Proofs.Ytmplioglihmkjaa
open Go.RowKit Go.Shelf
set_option linter.unusedVariables false
set_option linter.unusedSimpArgs false
set_option maxRecDepth 100000

theorem info_arc : (Try.prog.info? 41).map (fun i => (i.zero, i.size, i.bytes)) = some (some (.agg #[.int .i64 0, .int .i64 0]), 2, 16) := by kernel_rfl
theorem under_arcs : Try.prog.underlying 34 = some (.slice 41) := Try.underlying34
def flatA (l : List Ai) : List Value := l.flatMap fun a => [.int .i64 a.1, .int .i64 a.2]
theorem flatA_len : ∀ l : List Ai, (flatA l).length = l.length * 2
  | [] => rfl
  | a :: l => by
    have := flatA_len l
    unfold flatA at *
    simp only [List.flatMap_cons, List.length_append, List.length_cons, List.length_nil]
    omega
theorem flatA_get : ∀ (l : List Ai) (k : Nat), k < l.length → (flatA l)[k * 2]? = some (.int .i64 (l.getD k (0, 0)).1) ∧ (flatA l)[k * 2 + 1]? = some (.int .i64 (l.getD k (0, 0)).2)
  | [], k, h => by simp at h
  | a :: l, 0, _ => ⟨rfl, rfl⟩
  | a :: l, k + 1, h => by
    obtain ⟨h1, h2⟩ := flatA_get l k (by simpa using h)
    have e : (k + 1) * 2 = k * 2 + 1 + 1 := by omega
    unfold flatA at *
    rw [e]
    exact ⟨h1, h2⟩
theorem flatA_one (l : List Ai) : ∀ u ∈ flatA l, u.oneCell' = true := by
  intro u hu
  unfold flatA at hu
  obtain ⟨a, _, h⟩ := List.mem_flatMap.1 hu
  simp at h
  rcases h with rfl | rfl <;> rfl
theorem flatA_at {w : World} {b off : Nat} {l : List Ai} (h : Arcs w (some ⟨b, off, none⟩) l) : ∀ (j : Nat) (u : Value), (flatA l)[j]? = some u → w.cell? ⟨b, off + j, none⟩ = some u := by
  intro j u hj
  have hlt : j < l.length * 2 := by
    rw [← flatA_len]
    exact (List.getElem?_eq_some_iff.1 hj).1
  obtain ⟨b', off', e, _, c0, c1⟩ := h.at (k := j / 2) (by omega)
  obtain ⟨rfl, rfl⟩ : b = b' ∧ off = off' := by cases e; exact ⟨rfl, rfl⟩
  obtain ⟨g0, g1⟩ := flatA_get l (j / 2) (by omega)
  rcases Nat.mod_two_eq_zero_or_one j with hm | hm
  · have ej : j / 2 * 2 = j := by omega
    rw [ej] at c0 g0
    rw [c0, ← g0, hj]
  · have ej : j / 2 * 2 + 1 = j := by omega
    rw [Nat.add_assoc, ej] at c1
    rw [ej] at g1
    rw [c1, ← g1, hj]
/-- arcs of one's own -/
abbrev OwnA (W : World) (B : Nat) (h : Value) (l : List Ai) : Prop := W.ownsRow B 41 2 h l.length (flatA l)
theorem own_arcs {W : World} {B : Nat} {h : Value} {l : List Ai} (x : OwnA W B h l) (hl : ∀ z ∈ l, I64 z.1 ∧ I64 z.2) : ∃ A c, h = .slice A l.length c ∧ Arcs W A l := by
  rcases x.2 with ⟨rfl, h0⟩ | ⟨g, cap, cur, rfl, hg, hh, _, _, _, ht⟩
  · exact ⟨_, _, by rw [h0], hl, .inl h0⟩
  · refine ⟨_, cap, rfl, hl, .inr ⟨g, 0, rfl, (Array.getElem?_eq_some_iff.1 hh).1, fun i hi => ?_⟩⟩
    obtain ⟨g0, g1⟩ := flatA_get l i hi
    rw [← ht, List.getElem?_take] at g0 g1
    rw [Nat.zero_add]
    constructor
    · rw [cell_of_row _ _ _ _ _ _ hh]
      split at g0
      · simpa using g0
      · cases g0
    · rw [cell_of_row _ _ _ _ _ _ hh]
      split at g1
      · simpa using g1
      · cases g1

set_option maxHeartbeats 1000000 in
theorem clone_at (l : List Ai) (A : Option Addr) (c : Nat) (w : World) (hI : Arcs w A l) (hl : l.length ≤ 1000) (hA : ∀ a, A = some a → a.spot = none) :
    Calls Try.prog 52 #[.slice A l.length c] w fun e w' => ∃ v', e = .returned v' ∧ OwnA w' w.heap.size v' l ∧ Below w.heap.size w w' := by
  have HI := hide hI
  have HLn := hide (flatA_len l)
  have H1 := hide (flatA_one l)
  rcases A with _ | ⟨b, off, spot⟩
  · have hl0 : l.length = 0 := by
      rcases hI.2 with h | ⟨b, off, e, _⟩
      · exact h
      · cases e
    obtain rfl := List.length_eq_zero_iff.1 hl0
    have q22 : ∀ (w : World) (a : Option Addr) (n c n' c' : Nat), (binOp .eql 34 (.slice a n c) (.slice none n' c')).run Try.prog w = .ok (.bool a.isNone) w := fun w a n c n' c' => Lib.run_eql_slice_nil w _ _ a n c n' c' under_arcs
    go_enter Try.func52, Try.ntmps52
    go_wp2
    go_ret
    exact ⟨_, rfl, World.ownsRow_nil _ _ _ _, Below.refl _ _⟩
  · obtain rfl : spot = none := hA _ rfl
    have HC := hide (flatA_at hI)
    have hil : (flatA l).length = l.length * 2 := flatA_len l
    have HOw : Hid (∀ v W, W.ownsRow w.heap.size 41 2 v l.length (flatA l) → OwnA W w.heap.size v l) := fun _ _ h => h
    rcases hi' : Try.prog.info? 41 with _ | i
    · have := info_arc
      rw [hi'] at this; cases this
    have hinf := info_arc
    rw [hi'] at hinf
    simp only [Option.map_some, Option.some.injEq, Prod.mk.injEq] at hinf
    obtain ⟨hz, hs1, hb⟩ := hinf
    have HZ := hide hz
    have HS1 := hide hs1
    have HBy := hide hb
    have HIn := hide hi'
    generalize hfl : flatA l = fl at *
    generalize l.length = n at *
    have q22 : ∀ (w : World) (a : Option Addr) (n c n' c' : Nat), (binOp .eql 34 (.slice a n c) (.slice none n' c')).run Try.prog w = .ok (.bool a.isNone) w := fun w a n c n' c' => Lib.run_eql_slice_nil w _ _ a n c n' c' under_arcs
    clear hI hz hs1 hb hi' hfl
    go_enter Try.func52, Try.ntmps52
    go_wp2_with (at_builtin; refine wpList_append_own _ rfl _ _ 34 rfl w.heap.size 41 i _ 2 16 under_arcs HIn.out HZ.out HS1.out HBy.out rfl (by decide) _ _ _ rfl (World.ownsRow_made w #[] 0 (Nat.le_refl _) (Nat.zero_le _) (by simp)) ⟨b, off, none⟩ n c fl rfl ?qc1 ?qc2 ?qc3 ?qc4 ?qc5 ?qc6 ?_)
    case qc1 => exact HLn.out
    case qc2 =>
      intro j u hj
      rw [plain_add]
      exact Lib.cell?_alloc_some _ (HC.out j u hj)
    case qc3 => exact H1.out
    case qc4 => simp only [maxLen]; omega
    case qc5 => omega
    case qc6 => simp
    intro v' w1 hown hgrow hnil
    have HO := hide hown
    have HGr := hide hgrow
    clear hown hgrow hnil
    go_wp2
    go_ret
    refine ⟨v', rfl, HOw.out _ _ (by simpa using HO.out), ?_⟩
    exact ((Below.refl _ w).alloc (Nat.le_refl _) _).grown HGr.out (by simp) (by intro k hk; simp [Value.ownBlock] at hk; omega)

/-! ### the first that is true -/
def brow (t : Nat → Bool) (n : Nat) : Array Value := ((List.range n).map fun p => Value.bool (t p)).toArray
theorem brow_size (t : Nat → Bool) (n : Nat) : (brow t n).size = n := by simp [brow]
theorem brow_get {t : Nat → Bool} {n p : Nat} (h : p < n) : (brow t n)[p]? = some (.bool (t p)) := by
  unfold brow; rw [List.getElem?_toArray, List.getElem?_map, List.getElem?_range h]; rfl
theorem brow_congr {t u : Nat → Bool} {n : Nat} (h : ∀ p, p < n → t p = u p) : brow t n = brow u n := by
  unfold brow
  congr 1
  exact List.map_congr_left fun p hp => by rw [h p (by simpa using hp)]
theorem brow_set {t : Nat → Bool} {n p : Nat} (h : p < n) : (brow t n).setIfInBounds p (.bool true) = brow (fun q => t q || decide (q = p)) n := by
  apply Array.ext_getElem?
  intro i
  rw [Array.getElem?_setIfInBounds]
  by_cases hi : i < n
  · rw [brow_get hi, brow_get hi, brow_size]
    by_cases e : p = i
    · subst e; rw [if_pos rfl, if_pos h]; simp
    · rw [if_neg e]; simp [Ne.symm e]
  · rw [Array.getElem?_eq_none (by rw [brow_size]; omega), Array.getElem?_eq_none (by rw [brow_size]; omega), if_neg (by omega)]
/-- the first place that is taken, or none -/
def idxF (t : Nat → Bool) (n : Nat) : Int := match (List.range n).find? t with | some q => (q : Int) | none => -1
theorem idx_some {t : Nat → Bool} {n q : Nat} (hq : q < n) (ht : t q = true) (hb : ∀ j, j < q → t j = false) : idxF t n = q := by
  have : (List.range n).find? t = some q := by
    rw [List.find?_range_eq_some]
    exact ⟨ht, by simpa using hq, fun j hj => by rw [hb j hj]; rfl⟩
  unfold idxF; rw [this]
theorem idx_none {t : Nat → Bool} {n : Nat} (h : ∀ j, j < n → t j = false) : idxF t n = -1 := by
  have : (List.range n).find? t = none := by
    rw [List.find?_eq_none]
    intro j hj; rw [h j (by simpa using hj)]; simp
  unfold idxF; rw [this]

set_option maxHeartbeats 1000000 in
theorem index_at (t : Nat → Bool) (n b : Nat) (w : World) (hn : n ≤ 1048576) (hr : w.heap[b]? = some (.cells (brow t n) 4 (0, 0))) :
    Calls Try.prog 55 #[.slice (some ⟨b, 0, none⟩) n n, .bool true] w fun e w' => e = .returned (.int .i64 (idxF t n)) ∧ w = w' := by
  have HR := hide hr
  clear hr
  go_enter Try.func55, Try.ntmps55
  go_wp2
  go_loop [4, 5, 8] (fun r i kv => ∃ k : Nat, k ≤ n ∧ kv = .int .i64 k ∧ ∀ j, j < k → t j = false) (fun _ _ kv => n - (intOf kv).toNat)
  case atStart => exact ⟨0, Nat.zero_le _, rfl, fun j hj => by omega⟩
  case round =>
    obtain ⟨k, hk, rfl, hall⟩ := hrel
    have HA := hide hall
    by_cases hlt : k < n
    · have c0 : w.cell? ⟨b, k, none⟩ = some (.bool (t k)) := by rw [cell_of_row _ _ _ _ _ _ HR.out, brow_get hlt]
      have hbl : b < w.heap.size := (Array.getElem?_eq_some_iff.1 HR.out).1
      cases ht : t k with
      | true =>
        rw [ht] at c0
        have HV := hide (idx_some hlt ht hall)
        clear ht hall
        go_wp2
        go_ret
        exact ⟨by rw [HV.out]; rfl, rfl⟩
      | false =>
        rw [ht] at c0
        have HT := hide ht
        clear ht hall
        go_wp2
        go_round
        case rel =>
          refine ⟨k + 1, by omega, by go_num, fun j hj => ?_⟩
          rcases Nat.lt_succ_iff_lt_or_eq.1 hj with h | rfl
          · exact HA.out j h
          · exact HT.out
        case measure => simp [intOf]; omega
    · obtain rfl : k = n := by omega
      have HV := hide (idx_none hall)
      clear hall
      go_wp2
      go_ret
      exact ⟨by rw [HV.out]; rfl, rfl⟩

/-! ### what the sort asks -/
abbrev SA := { a : Ai // 0 ≤ a.1 ∧ a.1 < 1048576 }
instance : Inhabited SA := ⟨⟨(0, 0), by decide⟩⟩
def encS (x : SA) : List Value := [.int .i64 x.1.1, .int .i64 x.1.2]
def cfS (x y : SA) : Int := x.1.1 - y.1.1
set_option maxHeartbeats 1000000 in
theorem cmp_at (x y : SA) (W : World) : Calls Try.prog 54 #[.agg #[.int .i64 x.1.1, .int .i64 x.1.2], .agg #[.int .i64 y.1.1, .int .i64 y.1.2]] W fun e w' => e = .returned (.int .i64 (cfS x y)) ∧ ∃ q os', w' = Go.Sort.grow (W.drewN q) os' := by
  obtain ⟨⟨a, b⟩, ha⟩ := x
  obtain ⟨⟨c, d⟩, hc⟩ := y
  unfold cfS
  dsimp only at *
  obtain ⟨h1, h2⟩ := ha
  obtain ⟨h3, h4⟩ := hc
  go_enter Try.func54, Try.ntmps54
  go_wp2
  go_ret
  exact ⟨rfl, 0, _, by rw [Go.Sort.alloc_eq_grow, Go.Sort.alloc_eq_grow, Go.Sort.grow_grow]; rfl⟩
end Go.Proofs.Ytmplioglihmkjaa
