/-
  The document's sets: 64 truths, and the number that has them.
-/
import Derived.Test.YtklkndnikcjbhaaDoorPl
import Derived.Test.YtklkndnikcjbhaaDoorBm
import Derived.Laws.CopyOwn
import Derived.Laws.Tables
import Derived.KernelRfl
import Derived.Deep.WholeRow
namespace Go.Proofs.YtklkndnikcjbhaaDoor
open Go.RowKit Go.Shelf
set_option linter.unusedVariables false
set_option linter.unusedSimpArgs false

/-- 64 truths -/
def bc (f : Nat → Bool) : Array Value := (Array.range 64).map fun i => .bool (f i)
theorem bc_size (f : Nat → Bool) : (bc f).size = 64 := by simp [bc]
theorem bc_get (f : Nat → Bool) (i : Nat) (h : i < 64) : (bc f)[i]? = some (.bool (f i)) := by simp [bc, h]
theorem bc_one (f : Nat → Bool) : (bc f).all (·.oneCell') = true := by
  rw [Array.all_eq_true]
  intro i hi
  simp [bc, Value.oneCell']
theorem bc_set (f : Nat → Bool) (k : Nat) (v : Bool) : (bc f).setIfInBounds k (.bool v) = bc fun i => if i = k then v else f i := by
  apply Array.ext_getElem?
  intro i
  rw [Array.getElem?_setIfInBounds, bc_size]
  rcases Nat.lt_or_ge i 64 with hi | hi
  · rw [bc_get _ i hi, bc_get _ i hi]
    by_cases e : k = i
    · subst e; simp [hi]
    · have e2 : ¬ i = k := fun x => e x.symm
      simp [e, e2]
  · rw [Array.getElem?_eq_none (xs := bc fun i => if i = k then v else f i) (by rw [bc_size]; exact hi)]
    split
    · rename_i e
      subst e
      rw [if_neg (by omega)]
    · rw [Array.getElem?_eq_none (by rw [bc_size]; exact hi)]
theorem bc_congr (f g : Nat → Bool) (h : ∀ i, i < 64 → f i = g i) : bc f = bc g := by
  apply Array.ext_getElem?
  intro i
  rcases Nat.lt_or_ge i 64 with hi | hi
  · rw [bc_get f i hi, bc_get g i hi, h i hi]
  · rw [Array.getElem?_eq_none (by rw [bc_size]; exact hi), Array.getElem?_eq_none (by rw [bc_size]; exact hi)]
theorem info_bc : (Tryd.prog.info? 60).map (fun i => (i.zero, i.size)) = some (some (.agg (bc fun _ => false)), 64) := by kernel_rfl
theorem bc_info (f : Nat → Bool) : (Tryd.prog.info? 60).map (·.size) = some (bc f).size := by rw [bc_size]; exact (zero_of_info info_bc).2

/-- the number that has these bits below n -/
def numb (f : Nat → Bool) : Nat → Nat
  | 0 => 0
  | n + 1 => numb f n + if f n then 2 ^ n else 0
theorem numb_lt (f : Nat → Bool) : ∀ n, numb f n < 2 ^ n
  | 0 => Nat.zero_lt_one
  | n + 1 => by
    have := numb_lt f n
    simp only [numb, Nat.pow_succ]
    split <;> omega
theorem numb_bit (f : Nat → Bool) : ∀ n i, (numb f n).testBit i = (decide (i < n) && f i)
  | 0, i => by simp [numb]
  | n + 1, i => by
    have hl := numb_lt f n
    have ih := numb_bit f n i
    simp only [numb]
    by_cases hf : f n = true
    · rw [if_pos hf, Nat.add_comm]
      by_cases e : i = n
      · subst e
        rw [Nat.testBit_two_pow_add_eq, ih]
        simp [hf]
      · have h1 : 2 ^ n + numb f n = 2 ^ n * 1 + numb f n := by omega
        rw [h1, Nat.two_pow_add_eq_or_of_lt hl, Nat.testBit_or, Nat.mul_one, Nat.testBit_two_pow, ih]
        have h2 : ¬ n = i := fun x => e x.symm
        by_cases hi : i < n
        · simp [h2, hi, show i < n + 1 by omega]
        · simp [h2, hi, show ¬ i < n + 1 by omega]
    · have hf : f n = false := by simpa using hf
      rw [hf]
      simp only [Bool.false_eq_true, if_false, Nat.add_zero]
      rw [ih]
      by_cases e : i = n
      · subst e; simp [hf]
      · by_cases hi : i < n
        · simp [hi, show i < n + 1 by omega]
        · simp [hi, show ¬ i < n + 1 by omega]
theorem numb_of {s : Nat} (hs : s < 2 ^ 64) {f : Nat → Bool} (h : ∀ i, i < 64 → f i = s.testBit i) : numb f 64 = s := by
  apply Nat.eq_of_testBit_eq
  intro i
  rw [numb_bit]
  by_cases hi : i < 64
  · simp [hi, h i hi]
  · rw [Nat.testBit_lt_two_pow (Nat.lt_of_lt_of_le hs (Nat.pow_le_pow_right (by decide) (show 64 ≤ i by omega)))]
    simp [hi]
theorem div_step (X n : Nat) : X / 2 ^ n = 2 * (X / 2 ^ (n + 1)) + if X.testBit n then 1 else 0 := by
  rw [Nat.testBit_eq_decide_div_mod_eq, Nat.pow_succ, ← Nat.div_div_eq_div_mul]
  rcases Nat.mod_two_eq_zero_or_one (X / 2 ^ n) with h | h
  · simp [h]; omega
  · simp [h]; omega

structure BlI (w W : World) (f : Nat → Bool) : Prop where
  bel : Below w.heap.size w W
  b0 : W.heap[w.heap.size]? = some (.cells (bc fun _ => false) 60 (0, 0))
  b1 : W.heap[w.heap.size + 1]? = some (.cells (bc f) 60 (0, 0))
theorem BlI.set {w W : World} {f : Nat → Bool} (h : BlI w W f) (k : Nat) (v : Bool) : BlI w (W.setCell ⟨w.heap.size + 1, k, none⟩ (.bool v)) (fun i => if i = k then v else f i) :=
  ⟨h.bel.setCell (p := ⟨w.heap.size + 1, k, none⟩) (by show w.heap.size ≤ w.heap.size + 1; omega) _, (setCell_other (by omega)).trans h.b0, by rw [set_cells h.b1, bc_set]⟩

set_option maxRecDepth 100000 in
set_option maxHeartbeats 4000000 in
theorem bools_at (s : Nat) (hs : s < 18446744073709551616) (w : World) :
    Calls Tryd.prog 33 #[.int .u64 s] w fun e w' => e = .returned (.agg (bc fun i => s.testBit i)) ∧ Below w.heap.size w w' := by
  have hz := (zero_of_info info_bc).1
  go_enter Tryd.func33, Tryd.ntmps33
  go_wp2_with fail
  have hI : BlI w ((w.alloc (.cells (bc fun _ => false) 60)).alloc (.cells (bc fun _ => false) 60)) (fun _ => false) :=
    ⟨(bal w _).alloc (by simp) _, heap_alloc2_old w _ _, heap_alloc2_new w _ _⟩
  have HI := hide hI
  clear hI
  generalize (w.alloc (.cells (bc fun _ => false) 60)).alloc (.cells (bc fun _ => false) 60) = w1 at HI ⊢
  clear hz
  go_loopw [4, 0] (fun i sv wr => ∃ (n : Nat) (f : Nat → Bool), n ≤ 64 ∧ i = .int .i64 n ∧ sv = .int .u64 (s / 2 ^ n : Nat) ∧ (∀ j, j < 64 → f j = (decide (j < n) && s.testBit j)) ∧ BlI w wr f) (fun i _ _ => 64 - (intOf i).toNat)
  case atStart => exact ⟨0, fun _ => false, by omega, rfl, by simp, fun j _ => by simp, HI.out⟩
  case round =>
    obtain ⟨n, f, hn, rfl, rfl, hf, hI⟩ := hrel
    clear HI
    by_cases hlt : n < 64
    · have hc : wr.cell? ⟨w.heap.size + 1, n, none⟩ = some (.bool (f n)) := by rw [cell_of_row _ _ _ _ _ _ hI.b1, bc_get _ _ hlt]
      have hfr : wr.frozen? ⟨w.heap.size + 1, n, none⟩ = false := by simp [World.frozen?, hI.b1]
      have HI := hide (hI.set n (s.testBit n))
      have HF := hide (show ∀ j, j < 64 → (fun i => if i = n then s.testBit n else f i) j = (decide (j < n + 1) && s.testBit j) from fun j hj => by
        dsimp only
        by_cases e : j = n
        · subst e; simp
        · rw [if_neg e, hf j hj]
          by_cases h1 : j < n
          · simp [h1, show j < n + 1 by omega]
          · simp [h1, show ¬ j < n + 1 by omega])
      have hq : s / 2 ^ n ≤ s := Nat.div_le_self _ _
      have hb : (((s / 2 ^ n : Nat) : Int) % 2 == 1) = s.testBit n := by
        have := nat_beq (s / 2 ^ n % 2) 1
        rw [Nat.testBit_eq_decide_div_mod_eq]
        exact this
      have hd : ((s / 2 ^ n : Nat) : Int) / 2 = ((s / 2 ^ (n + 1) : Nat) : Int) := by
        rw [Nat.pow_succ, ← Nat.div_div_eq_div_mul]; rfl
      have HD := hide hd
      clear hf hI hd
      generalize (fun i => if i = n then s.testBit n else f i) = g at HI HF
      generalize f n = b0 at hc
      generalize s / 2 ^ n = q at *
      generalize s.testBit n = tb at *
      go_wp2_with fail
      go_roundw
      case rel => exact ⟨n + 1, g, by omega, by go_num, by rw [HD.out], HF.out, HI.out⟩
      case measure => simp [intOf]; omega
    · obtain rfl : n = 64 := by omega
      have ht := hI.b1
      rw [bc_congr f (fun i => s.testBit i) fun i hi => by rw [hf i hi]; simp [hi]] at ht
      have H1 := hide ht
      have H0 := hide hI.b0
      have HB := hide hI.bel
      clear hI hf ht
      go_wp2_with (first
        | (refine wpList_load_row rfl 60 (.tmp 3) rfl (w.heap.size + 1) rfl 60 (bc fun i => s.testBit i) (0, 0) _ H1.out Tryd.underlying60 rfl (bc_info _) ?_)
        | (refine wpList_store_row rfl 60 (.tmp 2) (.tmp 16) rfl w.heap.size (bc fun i => s.testBit i) rfl rfl 60 _ H0.out (bc_info _) (by rw [bc_size, bc_size]) (bc_one _) ?_))
      refine bodyPost_ret (results_cell_row (fn := Tryd.f33) rfl _ _ w.heap.size 60 (bc fun i => s.testBit i) (0, 0) _ rfl ?_ Tryd.underlying60 rfl (bc_info _)) rfl ⟨rfl, ?_⟩
      · unfold World.setRow
        rw [Array.getElem?_modify, if_pos rfl, H0.out]; rfl
      · exact below_setRow HB.out (Nat.le_refl _) _

set_option maxRecDepth 100000 in
set_option maxHeartbeats 4000000 in
theorem number_at (f : Nat → Bool) (w : World) :
    Calls Tryd.prog 38 #[.agg (bc f)] w fun e w' => e = .returned (.int .u64 (numb f 64 : Nat)) ∧ Below w.heap.size w w' := by
  have hX : numb f 64 < 2 ^ 64 := numb_lt f 64
  have hbit : ∀ i, i < 64 → (numb f 64).testBit i = f i := fun i hi => by rw [numb_bit]; simp [hi]
  have HB := hide hbit
  generalize numb f 64 = X at *
  clear hbit
  go_enter Tryd.func38, Tryd.ntmps38
  go_wp2_with fail
  have hcell : ∀ i, i < 64 → (w.alloc (.cells (bc f) 60)).cell? ⟨w.heap.size, i, none⟩ = some (.bool (f i)) := fun i hi => by
    rw [cell_of_row _ _ _ _ _ _ (heap_alloc_new w _), bc_get _ _ hi]
  have HC := hide hcell
  have HBel := hide (bal w (.cells (bc f) 60))
  clear hcell
  generalize w.alloc (.cells (bc f) 60) = w1 at HC HBel ⊢
  go_loop [3, 4] (fun sv i => ∃ n : Nat, n ≤ 64 ∧ sv = .int .u64 (X / 2 ^ n : Nat) ∧ i = .int .i64 ((n : Int) - 1)) (fun _ i => (intOf i + 1).toNat)
  case atStart => exact ⟨64, by omega, by rw [Nat.div_eq_of_lt hX]; rfl, rfl⟩
  case round =>
    obtain ⟨n, hn, rfl, rfl⟩ := hrel
    cases n with
    | zero =>
      have H0 : Hid (X / 2 ^ 0 = X) := by show _ = _; simp
      rw [H0.out]
      go_wp2
      go_ret
      exact ⟨rfl, HBel.out⟩
    | succ n =>
      have e1 : ((n + 1 : Nat) : Int) - 1 = (n : Int) := by omega
      rw [e1]
      have hc := HC.out n (by omega)
      have hst := div_step X n
      rw [HB.out n (by omega)] at hst
      have hle : X / 2 ^ n ≤ X := Nat.div_le_self _ _
      have HSt := hide hst
      clear hst
      have hq2 : 2 * (X / 2 ^ (n + 1)) + (if f n = true then 1 else 0) ≤ X := by have := HSt.out; omega
      generalize X / 2 ^ (n + 1) = q at *
      cases hfn : f n with
      | true =>
        rw [hfn] at hc
        have hr : Hid (X / 2 ^ n = 2 * q + 1) := by show _ = _; have := HSt.out; rw [hfn] at this; simpa using this
        rw [hfn] at hq2
        have hq3 : 2 * q + 1 ≤ X := by simpa using hq2
        clear hq2 hfn
        go_wp2_with fail
        go_round
        case rel => exact ⟨n, by omega, by rw [hr.out]; congr 1, rfl⟩
        case measure => simp [intOf]
      | false =>
        rw [hfn] at hc
        have hr : Hid (X / 2 ^ n = 2 * q) := by show _ = _; have := HSt.out; rw [hfn] at this; simpa using this
        rw [hfn] at hq2
        have hq3 : 2 * q ≤ X := by simpa using hq2
        clear hq2 hfn
        go_wp2_with fail
        go_round
        case rel => exact ⟨n, by omega, by rw [hr.out]; congr 1, rfl⟩
        case measure => simp [intOf]
end Go.Proofs.YtklkndnikcjbhaaDoor
