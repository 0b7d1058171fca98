/-
  Averages without the extremes: of numbers that differ by little they differ by as little.
  A clock's state; its calls but for those that average.
-/
import Derived.Test.YtbeggdahbhfhpaaDoorProg
import Derived.Test.YtbeggdahbhfhpaaDoorChkA
import Derived.Deep.QuietTactic
import Derived.BigQuiet
import Derived.Deep.MidRow
import Derived.LaidEqlPtr
import Derived.StillTailTactics
namespace Go.Proofs.YtbeggdahbhfhpaaDoor
set_option linter.unusedVariables false

/-- some numbers, in order -/
def isort (l : List Int) : List Int := l.mergeSort fun x y => decide (x ≤ y)
theorem isort_perm (l : List Int) : (isort l).Perm l := List.mergeSort_perm l _
theorem isort_len (l : List Int) : (isort l).length = l.length := (isort_perm l).length_eq
theorem isort_pw (l : List Int) : (isort l).Pairwise (· ≤ ·) := by
  have h := List.pairwise_mergeSort (le := fun x y : Int => decide (x ≤ y)) (fun a b c h1 h2 => by simp only [decide_eq_true_eq] at *; omega) (fun a b => by simp only [Bool.or_eq_true, decide_eq_true_eq]; omega) l
  exact h.imp fun h => of_decide_eq_true h
theorem isort_mem {l : List Int} {x : Int} : x ∈ isort l ↔ x ∈ l := (isort_perm l).mem_iff

theorem pw_le {s : List Int} (h : s.Pairwise (· ≤ ·)) {i j : Nat} (hij : i ≤ j) (hj : j < s.length) : s.getD i 0 ≤ s.getD j 0 := by
  simp only [List.getD_eq_getElem?_getD, List.getElem?_eq_getElem hj, List.getElem?_eq_getElem (show i < s.length by omega), Option.getD_some]
  rcases Nat.lt_or_eq_of_le hij with h1 | rfl
  · exact List.pairwise_iff_getElem.1 h i j _ hj h1
  · exact Int.le_refl _

theorem count_low {s : List Int} (h : s.Pairwise (· ≤ ·)) {k : Nat} (hk : k < s.length) : k + 1 ≤ s.countP (fun y => decide (y ≤ s.getD k 0)) := by
  have e : s.countP (fun y => decide (y ≤ s.getD k 0)) = (s.take (k + 1)).countP (fun y => decide (y ≤ s.getD k 0)) + (s.drop (k + 1)).countP (fun y => decide (y ≤ s.getD k 0)) := by
    rw [← List.countP_append, List.take_append_drop]
  have h1 : (s.take (k + 1)).countP (fun y => decide (y ≤ s.getD k 0)) = (s.take (k + 1)).length := by
    rw [List.countP_eq_length]
    intro a ha
    obtain ⟨i, hi, rfl⟩ := List.mem_iff_getElem.1 ha
    simp only [List.length_take] at hi
    simp only [decide_eq_true_eq, List.getElem_take]
    have := pw_le h (show i ≤ k by omega) hk
    rwa [List.getD_eq_getElem?_getD, List.getElem?_eq_getElem (show i < s.length by omega)] at this
  rw [e, h1, List.length_take]
  omega
theorem count_high {s : List Int} (h : s.Pairwise (· ≤ ·)) {k : Nat} (hk : k < s.length) {x : Int} (hx : x < s.getD k 0) : s.countP (fun y => decide (y ≤ x)) ≤ k := by
  have e : s.countP (fun y => decide (y ≤ x)) = (s.take k).countP (fun y => decide (y ≤ x)) + (s.drop k).countP (fun y => decide (y ≤ x)) := by
    rw [← List.countP_append, List.take_append_drop]
  have h1 : (s.drop k).countP (fun y => decide (y ≤ x)) = 0 := by
    rw [List.countP_eq_zero]
    intro a ha
    obtain ⟨i, hi, rfl⟩ := List.mem_iff_getElem.1 ha
    simp only [List.length_drop] at hi
    simp only [decide_eq_true_eq, List.getElem_drop]
    have := pw_le h (show k ≤ k + i by omega) (by omega)
    rw [List.getD_eq_getElem?_getD (i := k + i), List.getElem?_eq_getElem (show k + i < s.length by omega)] at this
    simp only [Option.getD_some] at this
    omega
  have h2 := List.countP_le_length (p := fun y => decide (y ≤ x)) (l := s.take k)
  rw [List.length_take] at h2
  omega

/-- in order, the k-th of numbers that are greater by d at most is greater by d at most -/
theorem sorted_near {α : Type} (f g : α → Int) (d : Int) (ns : List α) (h : ∀ n ∈ ns, f n ≤ g n + d) {k : Nat} (hk : k < ns.length) : (isort (ns.map f)).getD k 0 ≤ (isort (ns.map g)).getD k 0 + d := by
  rcases Int.lt_or_le ((isort (ns.map g)).getD k 0 + d) ((isort (ns.map f)).getD k 0) with hlt | hle
  · exfalso
    have h1 := count_high (isort_pw (ns.map f)) (by rw [isort_len, List.length_map]; exact hk) hlt
    have h2 := count_low (isort_pw (ns.map g)) (k := k) (by rw [isort_len, List.length_map]; exact hk)
    rw [(isort_perm _).countP_eq, List.countP_map] at h1 h2
    have h3 := List.countP_mono_left (l := ns) (p := (fun y => decide (y ≤ (isort (ns.map g)).getD k 0)) ∘ g) (q := (fun y => decide (y ≤ (isort (ns.map g)).getD k 0 + d)) ∘ f) (by
      intro n hn hp
      simp only [Function.comp, decide_eq_true_eq] at hp ⊢
      have := h n hn
      omega)
    omega
  · exact hle

/-- the first and the last one that are left, halved -/
def mid (s : List Int) : Int := if 3 ≤ s.length then (s.getD 1 0 + s.getD (s.length - 2) 0) / 2 else (s.getD 0 0 + s.getD (s.length - 1) 0) / 2
/-- the average of some -/
def avg (l : List Int) : Int := if l.length = 0 then 0 else mid (isort l)
theorem avg_near {α : Type} (f g : α → Int) (d : Int) (ns : List α) (h : ∀ n ∈ ns, f n ≤ g n + d) (h0 : ns ≠ []) : avg (ns.map f) ≤ avg (ns.map g) + d := by
  have hl : 0 < ns.length := List.length_pos_iff.2 h0
  unfold avg mid
  simp only [List.length_map, isort_len]
  rw [if_neg (by omega)]
  split
  · have h1 := sorted_near f g d ns h (k := 1) (by omega)
    have h2 := sorted_near f g d ns h (k := ns.length - 2) (by omega)
    omega
  · have h1 := sorted_near f g d ns h (k := 0) (by omega)
    have h2 := sorted_near f g d ns h (k := ns.length - 1) (by omega)
    omega
/-- an average lies among them -/
theorem avg_within {l : List Int} {a b : Int} (h : ∀ x ∈ l, a ≤ x ∧ x ≤ b) (h0 : l ≠ []) : a ≤ avg l ∧ avg l ≤ b := by
  have hl : 0 < l.length := List.length_pos_iff.2 h0
  have hk : ∀ k, k < l.length → a ≤ (isort l).getD k 0 ∧ (isort l).getD k 0 ≤ b := by
    intro k hk
    have hk' : k < (isort l).length := by rw [isort_len]; exact hk
    rw [List.getD_eq_getElem?_getD, List.getElem?_eq_getElem hk']
    exact h _ (isort_mem.1 (List.getElem_mem hk'))
  unfold avg mid
  rw [if_neg (by omega), isort_len]
  split
  · have h1 := hk 1 (by omega)
    have h2 := hk (l.length - 2) (by omega)
    omega
  · have h1 := hk 0 (by omega)
    have h2 := hk (l.length - 1) (by omega)
    omega

/-- a number to another one -/
def cutF (x lo hi : Int) : Int := if hi < (if x < lo then lo else x) then hi else (if x < lo then lo else x)
theorem cutF_in {x lo hi : Int} (h1 : lo ≤ x) (h2 : x ≤ hi) : cutF x lo hi = x := by unfold cutF; split <;> split <;> omega
theorem cutF_range (x : Int) {lo hi : Int} (h : lo ≤ hi) : lo ≤ cutF x lo hi ∧ cutF x lo hi ≤ hi := by unfold cutF; split <;> split <;> omega
theorem cutF_near {x y d : Int} (lo hi : Int) (h0 : lo ≤ hi) (h : x ≤ y + d) (hd : 0 ≤ d) : cutF x lo hi ≤ cutF y lo hi + d := by
  unfold cutF
  repeat' split
  all_goals omega
end Go.Proofs.YtbeggdahbhfhpaaDoor
namespace Go.Proofs.YtbeggdahbhfhpaaDoor
open Go.RowKit Go.Deep
set_option linter.unusedVariables false
set_option linter.unusedSimpArgs false

/-- what a clock knows: its limits, how much it is ahead, what it heard -/
structure Ck where
  nodes : Int
  drift : Int
  reading : Int
  margin : Int
  bound : Int
  off : Int
  rd : List (Int × Bool)
def rdC (p : Int × Bool) : List Value := [.int .i64 p.1, .bool p.2]
def Ck.cells (k : Ck) (g : Nat) : List Value := .pointer (some ⟨g, 0, none⟩) :: .int .i64 k.nodes :: .int .i64 k.drift :: .int .i64 k.reading :: .int .i64 k.margin :: .int .i64 k.bound :: .int .i64 k.off :: k.rd.flatMap rdC
theorem rd_at : ∀ (l : List (Int × Bool)) (n : Nat), n < l.length → (l.flatMap rdC)[n * 2]? = some (.int .i64 (l.getD n default).1) ∧ (l.flatMap rdC)[n * 2 + 1]? = some (.bool (l.getD n default).2)
  | [], n, h => by simp at h
  | x :: l, 0, h => ⟨rfl, rfl⟩
  | x :: l, n + 1, h => by
    have ih := rd_at l n (by simpa using h)
    rw [show (n + 1) * 2 = n * 2 + 1 + 1 by omega]
    simpa [rdC] using ih
theorem rd_set : ∀ (l : List (Int × Bool)) (n : Nat) (z : Int) (b : Bool), n < l.length → (l.set n (z, b)).flatMap rdC = ((l.flatMap rdC).set (n * 2) (.int .i64 z)).set (n * 2 + 1) (.bool b)
  | [], n, z, b, h => by simp at h
  | x :: l, 0, z, b, h => by simp [rdC]
  | x :: l, n + 1, z, b, h => by
    have ih := rd_set l n z b (by simpa using h)
    rw [show (n + 1) * 2 = n * 2 + 1 + 1 by omega]
    simp [rdC, ih]
theorem rd_len : ∀ l : List (Int × Bool), (l.flatMap rdC).length = l.length * 2
  | [] => rfl
  | x :: l => by simp [rdC, rd_len l]; omega

structure CkAt (W : World) (g : Nat) (k : Ck) : Prop where
  row : W.heap[g]? = some (.cells (k.cells g).toArray 164 (0, 0))
  len : k.rd.length = 16
section
variable {W W' : World} {g : Nat} {k : Ck}
theorem CkAt.lt (x : CkAt W g k) : g < W.heap.size := (Array.getElem?_eq_some_iff.1 x.row).1
theorem CkAt.kept (x : CkAt W g k) (h : W'.heap[g]? = W.heap[g]?) : CkAt W' g k := ⟨h.trans x.row, x.len⟩
theorem CkAt.below (x : CkAt W g k) (h : Below W.heap.size W W') : CkAt W' g k := x.kept (h.block g x.lt)
theorem cell_row {w : World} {b k : Nat} {cs : Array Value} {e : TypeId} {fz : Nat × Nat} (h : w.heap[b]? = some (.cells cs e fz)) : w.cell? ⟨b, k, none⟩ = cs[k]? := by simp [World.cell?, h]
theorem CkAt.cell (x : CkAt W g k) (j : Nat) (v : Value) (hv : (k.cells g)[j]? = some v) : W.cell? ⟨g, j, none⟩ = some v := by
  rw [cell_row x.row, List.getElem?_toArray]; exact hv
theorem CkAt.free (x : CkAt W g k) (j : Nat) : W.frozen? ⟨g, j, none⟩ = false := by
  unfold World.frozen?; rw [x.row]; simp
theorem CkAt.rdv (x : CkAt W g k) {n : Nat} (hn : n < 16) : W.cell? ⟨g, 7 + n * 2, none⟩ = some (.int .i64 (k.rd.getD n default).1) ∧ W.cell? ⟨g, 7 + n * 2 + 1, none⟩ = some (.bool (k.rd.getD n default).2) := by
  obtain ⟨h1, h2⟩ := rd_at k.rd n (by rw [x.len]; exact hn)
  constructor
  · exact x.cell _ _ (by rw [show 7 + n * 2 = n * 2 + 1 + 1 + 1 + 1 + 1 + 1 + 1 by omega]; exact h1)
  · exact x.cell _ _ (by rw [show 7 + n * 2 + 1 = n * 2 + 1 + 1 + 1 + 1 + 1 + 1 + 1 + 1 by omega]; exact h2)
theorem set_row {w : World} {g k : Nat} {v : Value} {cs : Array Value} {t : TypeId} {fr : Nat × Nat} (h : w.heap[g]? = some (.cells cs t fr)) : (w.setCell ⟨g, k, none⟩ v).heap[g]? = some (.cells (cs.setIfInBounds k v) t fr) := by
  show (w.heap.modify g _)[g]? = _
  rw [Array.getElem?_modify, if_pos rfl, h]
  rfl
theorem set_other {W : World} {g k j : Nat} {v : Value} (h : k ≠ g) : (W.setCell ⟨g, j, none⟩ v).heap[k]? = W.heap[k]? := by
  show (W.heap.modify g _)[k]? = _
  rw [Array.getElem?_modify, if_neg (fun e => h e.symm)]
theorem set_size (W : World) (a : Addr) (v : Value) : (W.setCell a v).heap.size = W.heap.size := by
  show (W.heap.modify _ _).size = _
  rw [Array.size_modify]
theorem CkAt.setOff (x : CkAt W g k) (z : Int) : CkAt (W.setCell ⟨g, 6, none⟩ (.int .i64 z)) g { k with off := z } :=
  ⟨by rw [set_row x.row]; simp [Ck.cells], x.len⟩
theorem CkAt.setRd (x : CkAt W g k) {n : Nat} (hn : n < 16) (z : Int) (b : Bool) : CkAt ((W.setCell ⟨g, 7 + n * 2, none⟩ (.int .i64 z)).setCell ⟨g, 7 + n * 2 + 1, none⟩ (.bool b)) g { k with rd := k.rd.set n (z, b) } := by
  refine ⟨?_, by simpa using x.len⟩
  rw [set_row (set_row x.row)]
  simp only [Ck.cells, rd_set _ n z b (show n < k.rd.length by rw [x.len]; exact hn)]
  rw [show 7 + n * 2 = n * 2 + 1 + 1 + 1 + 1 + 1 + 1 + 1 by omega, show n * 2 + 1 + 1 + 1 + 1 + 1 + 1 + 1 + 1 = (n * 2 + 1) + 1 + 1 + 1 + 1 + 1 + 1 + 1 by omega]
  simp [List.setIfInBounds_toArray]

end

set_option maxRecDepth 100000 in
set_option maxHeartbeats 400000 in
theorem cmade_at (b : Nat) (w : World) (h : w.cell? ⟨b, 0, none⟩ = some (.pointer (some ⟨b, 0, none⟩))) : Calls Tryd.prog 72 #[.pointer (some ⟨b, 0, none⟩)] w fun e w' => e = .returned (.bool true) ∧ w = w' := by
  obtain ⟨j, hj⟩ := Option.isSome_iff_exists.1 (show (Tryd.prog.info? 164).isSome = true by kernel_rfl)
  have he := fun W => run_eql_ptr_same (P := Tryd.prog) (w := W) (tp := 73) ⟨b, 0, none⟩ Tryd.underlying73 hj
  clear hj
  go_enter Tryd.func72, Tryd.ntmps72
  go_wp2
  go_ret
  exact ⟨rfl, rfl⟩

theorem offset_at {g : Nat} {k : Ck} {w : World} (x : CkAt w g k) : Calls Tryd.prog 25 #[.pointer (some ⟨g, 0, none⟩)] w fun e w' => e = .returned (.int .i64 k.off) ∧ w = w' := by
  have c6 := x.cell 6 _ rfl
  have hmade := cmade_at g w (x.cell 0 _ rfl)
  clear x
  go_enter Tryd.func25, Tryd.ntmps25
  go_wp2_with fail
  refine hmade.mono ?_
  rintro e w' ⟨rfl, rfl⟩
  go_wp2
  go_ret
  exact ⟨rfl, rfl⟩

theorem cut_at (x lo hi : Int) (w : World) : Calls Tryd.prog 111 #[.int .i64 x, .int .i64 lo, .int .i64 hi] w fun e w' => e = .returned (.int .i64 (cutF x lo hi)) ∧ w' = w := by
  unfold cutF
  go_enter Tryd.func111, Tryd.ntmps111
  go_wp2
  all_goals go_ret
  all_goals exact ⟨rfl, rfl⟩

theorem cdrewN {B : Nat} {w w' : World} (h : Below B w w') (n : Nat) : Below B w (w'.drewN n) := ⟨h.os, h.tape, h.output, h.size, h.block⟩
/-- one clock's block alone was written -/
structure Upd (g : Nat) (w w' : World) : Prop where
  blk : ∀ j, j < w.heap.size → j ≠ g → w'.heap[j]? = w.heap[j]?
  siz : w.heap.size ≤ w'.heap.size
  bel : Below g w w'
theorem Upd.set {g : Nat} (w : World) (k : Nat) (v : Value) : Upd g w (w.setCell ⟨g, k, none⟩ v) :=
  ⟨fun j _ hj => set_other hj, by rw [set_size]; exact Nat.le_refl _, (Below.refl g w).setCell (p := ⟨g, k, none⟩) (Nat.le_refl _) _⟩
theorem Upd.of_below {g : Nat} {w w' : World} (h : Below w.heap.size w w') (hg : g < w.heap.size) : Upd g w w' :=
  ⟨fun j hj _ => h.block j hj, h.size, h.mono (Nat.le_of_lt hg)⟩
theorem Upd.trans {g : Nat} {w w1 w2 : World} (h : Upd g w w1) (h' : Upd g w1 w2) : Upd g w w2 :=
  ⟨fun j hj hn => (h'.blk j (Nat.lt_of_lt_of_le hj h.siz) hn).trans (h.blk j hj hn), Nat.le_trans h.siz h'.siz, h.bel.trans h'.bel⟩
theorem CkAt.upd {W W' : World} {g g' : Nat} {k : Ck} (x : CkAt W g' k) (u : Upd g W W') (h : g' ≠ g) : CkAt W' g' k := x.kept (u.blk g' x.lt h)

def ckEnd : Int := 1099511627776

set_option maxRecDepth 100000 in
theorem set_at {g : Nat} {k : Ck} {w : World} (x : CkAt w g k) (z : Int) (h : -ckEnd ≤ z ∧ z ≤ ckEnd) : Calls Tryd.prog 58 #[.pointer (some ⟨g, 0, none⟩), .int .i64 z] w fun e w' => e = .returned (.int .i64 0) ∧ Upd g w w' ∧ CkAt w' g { k with off := z } := by
  have hmade := cmade_at g w (x.cell 0 _ rfl)
  have c6 := x.cell 6 _ rfl
  have f6 := x.free 6
  have h1 : (-1099511627776 : Int) ≤ z := h.1
  have h2 : z ≤ 1099511627776 := h.2
  have X := hide x
  clear x h
  go_enter Tryd.func58, Tryd.ntmps58
  go_wp2_with fail
  refine hmade.mono ?_
  rintro e w' ⟨rfl, rfl⟩
  go_wp2
  go_ret
  exact ⟨rfl, Upd.set w 6 _, X.out.setOff z⟩

set_option maxRecDepth 100000 in
theorem move_at {g : Nat} {k : Ck} {w : World} (x : CkAt w g k) (z : Int) (h : -ckEnd ≤ k.off ∧ k.off ≤ ckEnd) (hz : -ckEnd ≤ z ∧ z ≤ ckEnd) : Calls Tryd.prog 110 #[.pointer (some ⟨g, 0, none⟩), .int .i64 z] w fun e w' => e = .returned (.tuple #[]) ∧ Upd g w w' ∧ CkAt w' g { k with off := cutF (k.off + z) (-ckEnd) ckEnd } := by
  have c6 := x.cell 6 _ rfl
  have f6 := x.free 6
  have h0 : ckEnd = 1099511627776 := rfl
  have hw : IntKind.i64.wrap (k.off + z) = k.off + z := by rw [IntKind.wrap_i64]; omega
  have X := hide x
  have HC := hide (fun W => cut_at (k.off + z) (-1099511627776) 1099511627776 W)
  have HE := hide (show cutF (k.off + z) (-1099511627776) 1099511627776 = cutF (k.off + z) (-ckEnd) ckEnd from rfl)
  rw [HE.out] at HC
  generalize cutF (k.off + z) (-ckEnd) ckEnd = r at HC ⊢
  clear x h hz h0 HE
  go_enter Tryd.func110, Tryd.ntmps110
  go_wp2_with fail
  refine (HC.out _).mono ?_
  rintro e w' ⟨rfl, rfl⟩
  go_wp2
  go_end0
  exact ⟨rfl, Upd.set _ 6 _, X.out.setOff r⟩

set_option maxRecDepth 100000 in
theorem drift_at {g : Nat} {k : Ck} {w : World} (x : CkAt w g k) (z : Int) (h : -ckEnd ≤ k.off ∧ k.off ≤ ckEnd) (hd : 0 ≤ k.drift ∧ k.drift ≤ ckEnd) : Calls Tryd.prog 60 #[.pointer (some ⟨g, 0, none⟩), .int .i64 z] w fun e w' => e = .returned (.int .i64 0) ∧ Upd g w w' ∧ CkAt w' g { k with off := cutF (k.off + cutF z (-k.drift) k.drift) (-ckEnd) ckEnd } := by
  have hmade := cmade_at g w (x.cell 0 _ rfl)
  have hn : IntKind.i64.wrap (-k.drift) = -k.drift := by rw [IntKind.wrap_i64]; have : ckEnd = 1099511627776 := rfl; omega
  have hr := cutF_range z (show -k.drift ≤ k.drift by omega)
  have c2 : ({ w with drawn := w.drawn + 1 } : World).cell? ⟨g, 2, none⟩ = some (.int .i64 k.drift) := x.cell 2 _ rfl
  have hx2 : CkAt { w with drawn := w.drawn + 1 } g k := x.kept rfl
  have hb2 : Upd g w { w with drawn := w.drawn + 1 } := Upd.of_below (cdrewN (Below.refl _ _) 1) x.lt
  have HC := hide (fun W => cut_at z (-k.drift) k.drift W)
  generalize cutF z (-k.drift) k.drift = r at hr HC ⊢
  have HM := hide (fun W (X : CkAt W g k) => move_at X r h (by omega))
  have HB2 := hide hb2; have HX2 := hide hx2
  clear x h hd hr hb2 hx2
  obtain ⟨nodes, drift, reading, margin, bound, off, rd⟩ := k
  dsimp only at *
  go_enter Tryd.func60, Tryd.ntmps60
  go_wp2_with fail
  refine hmade.mono ?_
  rintro e w' ⟨rfl, rfl⟩
  clear hmade
  go_wp2_with fail
  refine wp_region_still_tail 14 (by kernel_rfl) (by kernel_rfl) ?_
  simp only [List.take_succ_cons, List.take_zero, List.drop_succ_cons, List.drop_zero]
  generalize ({ w with drawn := w.drawn + 1 } : World) = w2 at *
  repeat still_step
  still_call (HC.out w2)
  refine wpStill_nil ?_
  go_wp2_with fail
  refine (HM.out _ HX2.out).mono ?_
  rintro e w3 ⟨rfl, hu, hx⟩
  have HU := hide hu; have HX := hide hx
  clear hu hx
  go_wp2
  go_ret
  exact ⟨rfl, HB2.out.trans HU.out, HX.out⟩

set_option maxRecDepth 100000 in
set_option maxHeartbeats 2000000 in
theorem read_at {g : Nat} {k : Ck} {w : World} (x : CkAt w g k) (z e : Int) (h : -ckEnd ≤ k.off ∧ k.off ≤ ckEnd) (hd : 0 ≤ k.reading ∧ k.reading ≤ ckEnd) : Calls Tryd.prog 62 #[.pointer (some ⟨g, 0, none⟩), .int .i64 z, .int .i64 e] w fun v w' => v = .returned (.int .i64 (cutF z (-ckEnd) ckEnd - k.off + cutF e (-k.reading) k.reading)) ∧ ∃ m, w' = w.drewN m := by
  have hmade := cmade_at g w (x.cell 0 _ rfl)
  have h0 : ckEnd = 1099511627776 := rfl
  have hn : IntKind.i64.wrap (-k.reading) = -k.reading := by rw [IntKind.wrap_i64]; omega
  have hr := cutF_range e (show -k.reading ≤ k.reading by omega)
  have hr2 := cutF_range z (show -ckEnd ≤ ckEnd by omega)
  have c3 : w.cell? ⟨g, 3, none⟩ = some (.int .i64 k.reading) := x.cell 3 _ rfl
  have c6 : w.cell? ⟨g, 6, none⟩ = some (.int .i64 k.off) := x.cell 6 _ rfl
  have HC := hide cut_at
  have HE := hide (show ∀ x, cutF x (-ckEnd) ckEnd = cutF x (-1099511627776) 1099511627776 from fun _ => rfl)
  rw [HE.out] at hr2 ⊢
  generalize cutF = F at hr hr2 HC HE ⊢
  have hw1 : IntKind.i64.wrap (F z (-1099511627776) 1099511627776 - k.off) = F z (-1099511627776) 1099511627776 - k.off := by rw [IntKind.wrap_i64]; omega
  have hw2 : IntKind.i64.wrap (F z (-1099511627776) 1099511627776 - k.off + F e (-k.reading) k.reading) = F z (-1099511627776) 1099511627776 - k.off + F e (-k.reading) k.reading := by rw [IntKind.wrap_i64]; omega
  clear HE
  clear x h hd hr hr2 h0
  obtain ⟨nodes, drift, reading, margin, bound, off, rd⟩ := k
  dsimp only at *
  go_enter Tryd.func62, Tryd.ntmps62
  go_wp2_with fail
  refine hmade.mono ?_
  rintro e w' ⟨rfl, rfl⟩
  clear hmade
  go_wp2_with fail
  go_quiet ((go_at_call 111; refine Calls.quiet_of_same (HC.out _ _ _ _)))
  go_wp2
  go_ret
  exact ⟨rfl, _, rfl⟩

set_option maxRecDepth 100000 in
theorem fits_at {g : Nat} {k : Ck} {w : World} (x : CkAt w g k) (z : Int) (hd : 0 ≤ k.margin ∧ k.margin ≤ ckEnd) : Calls Tryd.prog 64 #[.pointer (some ⟨g, 0, none⟩), .int .i64 z] w fun v w' => v = .returned (.bool (decide (-k.margin ≤ z) && decide (z ≤ k.margin))) ∧ w' = w := by
  have hmade := cmade_at g w (x.cell 0 _ rfl)
  have h0 : ckEnd = 1099511627776 := rfl
  have hn : IntKind.i64.wrap (-k.margin) = -k.margin := by rw [IntKind.wrap_i64]; omega
  have c4 : w.cell? ⟨g, 4, none⟩ = some (.int .i64 k.margin) := x.cell 4 _ rfl
  clear x hd h0
  obtain ⟨nodes, drift, reading, margin, bound, off, rd⟩ := k
  dsimp only at *
  by_cases h1 : -margin ≤ z
  · have d1 : decide (-margin ≤ z) = true := decide_eq_true h1
    rw [d1]
    go_enter Tryd.func64, Tryd.ntmps64
    go_wp2_with (first
      | (go_at_call 72; refine hmade.mono ?_; rintro e w' ⟨rfl, rfl⟩))
    all_goals (try go_quiet (fail))
    go_wp2
    all_goals go_ret
    all_goals exact ⟨by simp, rfl⟩
  · have d1 : decide (-margin ≤ z) = false := decide_eq_false h1
    rw [d1]
    go_enter Tryd.func64, Tryd.ntmps64
    go_wp2_with (first
      | (go_at_call 72; refine hmade.mono ?_; rintro e w' ⟨rfl, rfl⟩))
    all_goals (try go_quiet (fail))
    go_wp2
    all_goals go_ret
    all_goals exact ⟨by simp, rfl⟩

set_option maxRecDepth 100000 in
set_option maxHeartbeats 1000000 in
theorem hear_at {g : Nat} {k : Ck} {w : World} (x : CkAt w g k) (n : Nat) (z : Int) (h16 : k.nodes ≤ 16) (hn : (n : Int) < k.nodes) (hz : -2199023255552 ≤ z ∧ z ≤ 2199023255552) : Calls Tryd.prog 66 #[.pointer (some ⟨g, 0, none⟩), .int .i64 n, .int .i64 z] w fun v w' => v = .returned (.int .i64 0) ∧ Upd g w w' ∧ CkAt w' g { k with rd := k.rd.set n (z, true) } := by
  have hmade := cmade_at g w (x.cell 0 _ rfl)
  have c1 : w.cell? ⟨g, 1, none⟩ = some (.int .i64 k.nodes) := x.cell 1 _ rfl
  obtain ⟨v1, v2⟩ := x.rdv (n := n) (by omega)
  have f1 := x.free (7 + n * 2)
  have f2 := x.free (7 + n * 2 + 1)
  have hn16 : n < 16 := by omega
  have hz1 := hz.1
  have hz2 := hz.2
  have hX := hide (x.setRd hn16 z true)
  have hU := hide ((Upd.set w (7 + n * 2) (.int .i64 z)).trans (Upd.set (w.setCell ⟨g, 7 + n * 2, none⟩ (.int .i64 z)) (7 + n * 2 + 1) (.bool true)))
  generalize (k.rd.getD n default).1 = o1 at v1
  generalize (k.rd.getD n default).2 = o2 at v2
  clear x h16 hz
  obtain ⟨nodes, drift, reading, margin, bound, off, rd⟩ := k
  dsimp only at *
  go_enter Tryd.func66, Tryd.ntmps66
  go_wp2_with fail
  refine hmade.mono ?_
  rintro e w' ⟨rfl, rfl⟩
  clear hmade
  go_wp2
  go_ret
  exact ⟨rfl, hU.out, hX.out⟩
end Go.Proofs.YtbeggdahbhfhpaaDoor
