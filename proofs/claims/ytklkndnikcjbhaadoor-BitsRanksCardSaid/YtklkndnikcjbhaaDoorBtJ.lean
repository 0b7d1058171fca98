/-
  The table of numbers of subsets, as a function makes it.
-/
import Derived.Test.YtklkndnikcjbhaaDoorBtA
import Derived.Laws.CopyOwn
import Derived.Laws.Tables
import Derived.KernelRfl
namespace Go.Proofs.YtklkndnikcjbhaaDoor
open Go.RowKit Go.Shelf
set_option linter.unusedVariables false
set_option linter.unusedSimpArgs false

theorem ch_le : ∀ n k, ch n k ≤ 2 ^ n
  | n, 0 => by rw [ch_zero]; exact Nat.one_le_two_pow
  | 0, k + 1 => by simp [ch]
  | n + 1, k + 1 => by
    have h1 := ch_le n k
    have h2 := ch_le n (k + 1)
    simp only [ch, Nat.pow_succ]
    omega
theorem ch_64 {n : Nat} (h : n ≤ 60) (k : Nat) : ch n k ≤ 1152921504606846976 := by
  have h1 := ch_le n k
  have h2 : 2 ^ n ≤ 2 ^ 60 := Nat.pow_le_pow_right (by decide) h
  omega
/-- N numbers -/
def cellsN (N : Nat) (f : Nat → Nat) : Array Value := (Array.range N).map fun i => .int .u64 ((f i : Nat) : Int)
theorem cells_size (N : Nat) (f : Nat → Nat) : (cellsN N f).size = N := by simp [cellsN]
theorem cells_get (N : Nat) (f : Nat → Nat) (i : Nat) (h : i < N) : (cellsN N f)[i]? = some (.int .u64 ((f i : Nat) : Int)) := by simp [cellsN, h]
theorem cells_one (N : Nat) (f : Nat → Nat) : (cellsN N f).all (·.oneCell') = true := by
  rw [Array.all_eq_true]
  intro i hi
  simp [cellsN, Value.oneCell']
theorem cells_set (N : Nat) (f : Nat → Nat) (k v : Nat) : (cellsN N f).setIfInBounds k (.int .u64 (v : Int)) = cellsN N fun i => if i = k then v else f i := by
  apply Array.ext_getElem?
  intro i
  rw [Array.getElem?_setIfInBounds, cells_size]
  rcases Nat.lt_or_ge i N with hi | hi
  · rw [cells_get _ _ i hi, cells_get _ _ i hi]
    by_cases e : k = i
    · subst e; simp [hi]
    · have e2 : ¬ i = k := fun x => e x.symm
      simp [e, e2]
  · rw [Array.getElem?_eq_none (xs := cellsN N fun i => if i = k then v else f i) (by rw [cells_size]; exact hi)]
    split
    · rename_i e
      subst e
      rw [if_neg (by omega)]
    · rw [Array.getElem?_eq_none (by rw [cells_size]; exact hi)]
theorem cells_congr (N : Nat) (f g : Nat → Nat) (h : ∀ i, i < N → f i = g i) : cellsN N f = cellsN N g := by
  apply Array.ext_getElem?
  intro i
  rcases Nat.lt_or_ge i N with hi | hi
  · rw [cells_get N f i hi, cells_get N g i hi, h i hi]
  · rw [Array.getElem?_eq_none (by rw [cells_size]; exact hi), Array.getElem?_eq_none (by rw [cells_size]; exact hi)]
theorem cells_zero (N : Nat) : cellsN N (fun _ => 0) = (List.replicate N (Value.int .u64 0)).toArray := by
  apply Array.ext_getElem?
  intro i
  rcases Nat.lt_or_ge i N with hi | hi
  · rw [cells_get _ _ i hi]
    simp [hi]
  · rw [Array.getElem?_eq_none (by rw [cells_size]; exact hi)]
    simp [hi]

/-- so many zeros, one by one -/
def isZ (v : Value) : Bool := match v with
  | .int .u64 0 => true
  | _ => false
theorem isZ_eq {v : Value} (h : isZ v = true) : v = .int .u64 0 := by
  unfold isZ at h
  split at h
  · rfl
  · cases h
noncomputable def chkZ (l : List Value) : Nat → Bool := List.rec (motive := fun _ => Nat → Bool) (fun n => Nat.beq n 0) (fun v _ ih n => bif Nat.beq n 0 then false else bif isZ v then ih (Nat.sub n 1) else false) l
theorem chkZ_eq : ∀ (l : List Value) (n : Nat), chkZ l n = true → l = List.replicate n (.int .u64 0)
  | [], n, h => by
    have h : Nat.beq n 0 = true := h
    rw [Nat.eq_of_beq_eq_true h]; rfl
  | v :: l, n, h => by
    have h : (bif Nat.beq n 0 then false else bif isZ v then chkZ l (Nat.sub n 1) else false) = true := h
    cases n with
    | zero => cases h
    | succ n =>
      cases e : isZ v with
      | false => rw [e] at h; cases h
      | true =>
        rw [e] at h
        have h : chkZ l n = true := h
        rw [isZ_eq e, chkZ_eq l n h]; rfl
def zcells (o : Option Value) : Array Value := match o with
  | some (.agg c) => c
  | _ => #[]
noncomputable def Z64 : Array Value := zcells Tryd.t64.zero
theorem z64_chk : chkZ Z64.toList 3721 = true := by kernel_rfl
theorem z64_eq : Z64 = cellsN 3721 fun _ => 0 := by
  rw [cells_zero, ← chkZ_eq _ _ z64_chk]
theorem z64_zero : Tryd.t64.zero = some (.agg Z64) := by kernel_rfl
theorem info64 : Tryd.prog.info? 64 = some Tryd.t64 := by kernel_rfl
theorem size64 : Tryd.t64.size = 3721 := by kernel_rfl
theorem info_tab : (Tryd.prog.info? 64).map (fun i => (i.zero, i.size)) = some (some (.agg (cellsN 3721 fun _ => 0)), 3721) := by
  rw [info64]
  show some (Tryd.t64.zero, Tryd.t64.size) = _
  rw [z64_zero, size64, z64_eq]
def tab : Array Value := cellsN 3721 fun i => ch (i / 61) (i % 61)
theorem tab_size : tab.size = 3721 := cells_size _ _
theorem tab_info : (Tryd.prog.info? 64).map (·.size) = some tab.size := by rw [tab_size]; exact (zero_of_info info_tab).2
end Go.Proofs.YtklkndnikcjbhaaDoor
