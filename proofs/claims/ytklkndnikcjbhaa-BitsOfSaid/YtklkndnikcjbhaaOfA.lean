/-
  The set of numbers, the program's and the document's, without the library's table.
-/
import Derived.Test.YtklkndnikcjbhaaPlO
import Derived.Test.YtklkndnikcjbhaaBm
import Derived.Laws.CopyOwn
import Derived.Laws.Tables
import Derived.KernelRfl
import Derived.Deep.WholeRow
namespace Go.Proofs.Ytklkndnikcjbhaa
open Go.RowKit Go.Shelf
set_option linter.unusedVariables false
set_option linter.unusedSimpArgs false

def numB (i : Int) : Bool := decide (0 ≤ i ∧ i < 64)
theorem isNumber_at (i : Int) (w : World) :
    Calls Try.prog 7 #[.int .i64 i] w fun e w' => e = .returned (.bool (numB i)) ∧ w = w' := by
  by_cases h0 : 0 ≤ i
  · by_cases h1 : i < 64
    · have H : Hid (numB i = true) := decide_eq_true ⟨h0, h1⟩
      go_enter Try.func7, Try.ntmps7
      go_wp2
      go_ret
      exact ⟨by rw [H.out]; simp [h0, h1], rfl⟩
    · have H : Hid (numB i = false) := decide_eq_false fun h => h1 h.2
      go_enter Try.func7, Try.ntmps7
      go_wp2
      go_ret
      exact ⟨by rw [H.out]; simp [h0, h1], rfl⟩
  · have H : Hid (numB i = false) := decide_eq_false fun h => h0 h.1
    go_enter Try.func7, Try.ntmps7
    go_wp2
    go_ret
    exact ⟨by rw [H.out]; rfl, rfl⟩

theorem info_int : (Try.prog.info? 3).map (fun i => (i.zero, i.size, i.bytes)) = some (some (.int .i64 0), 1, 8) := by kernel_rfl
theorem under_ints : Try.prog.underlying 22 = some (.slice 3) := Try.underlying22
/-- numbers of one's own -/
abbrev OwnL (W : World) (B : Nat) (h : Value) (l : List Int) : Prop := W.ownsRow B 3 1 h l.length (l.map (Value.int .i64))
def orAll (l : List Int) : Nat := l.foldl (fun s z => s ||| 2 ^ z.toNat) 0
def okAll (l : List Int) : Prop := ∀ z ∈ l, 0 ≤ z ∧ z < 64
theorem orAll_snoc (l : List Int) (z : Int) : orAll (l ++ [z]) = orAll l ||| 2 ^ z.toNat := by simp [orAll]
theorem orAll_bit {l : List Int} (h : okAll l) (i : Nat) : (orAll l).testBit i = decide ((i : Int) ∈ l) := by
  have key : ∀ (l : List Int) (s : Nat), okAll l → (l.foldl (fun s z => s ||| 2 ^ z.toNat) s).testBit i = (s.testBit i || decide ((i : Int) ∈ l)) := by
    intro l
    induction l with
    | nil => intro s _; simp
    | cons z l ih =>
      intro s h
      rw [List.foldl_cons, ih _ fun y hy => h y (by simp [hy]), Nat.testBit_or, Nat.testBit_two_pow]
      obtain ⟨h0, h1⟩ := h z (by simp)
      by_cases e : z = (i : Int)
      · have e2 : z.toNat = i := by omega
        simp [e, e2]
      · have e2 : ¬ z.toNat = i := by omega
        have e3 : ¬ (i : Int) = z := fun x => e x.symm
        simp [e2, e3]
  have := key l 0 h
  rw [Nat.zero_testBit, Bool.false_or] at this
  exact this
theorem orAll_lt {l : List Int} (h : okAll l) : orAll l < 2 ^ 64 := by
  apply Nat.lt_pow_two_of_testBit
  intro i hi
  rw [orAll_bit h]
  refine decide_eq_false fun hm => ?_
  have := (h _ hm).2
  omega
theorem pow_wrap (j : Nat) (h : j < 64) : IntKind.u64.wrap ((2 : Int) ^ j) = ((2 ^ j : Nat) : Int) := by
  have hpj : 2 ^ j < 2 ^ 64 := Nat.pow_lt_pow_right (by decide) h
  have e : ((2 : Int) ^ j) = ((2 ^ j : Nat) : Int) := by simp
  rw [IntKind.wrap_u64, e]
  generalize (2 : Nat) ^ j = y at hpj ⊢
  omega
noncomputable def ofV (l : List Int) : Value := open Classical in if okAll l then .tuple #[.int .u64 (orAll l : Nat), .int .i64 0] else .tuple #[.int .u64 0, .int .i64 120]

set_option maxHeartbeats 1000000 in
theorem of_at (l : List Int) (A : Option Addr) (c : Nat) (w : World) (hI : Ints w A l) (hl : l.length ≤ 9223372036854775806) :
    Calls Try.prog 4 #[.slice A l.length c] w fun e w' => e = .returned (ofV l) ∧ w = w' := by
  have HI := hide hI
  obtain ⟨n, hn⟩ : ∃ n, n = l.length := ⟨_, rfl⟩
  have HN := hide hn
  rw [← hn] at hl ⊢
  clear hI hn
  go_enter Try.func4, Try.ntmps4
  go_wp2_with fail
  go_loop [9, 4] (fun i s => ∃ k : Nat, k ≤ n ∧ i = .int .i64 k ∧ s = .int .u64 (orAll (l.take k) : Nat) ∧ okAll (l.take k)) (fun i _ => n - (intOf i).toNat)
  case atStart => exact ⟨0, Nat.zero_le _, rfl, rfl, fun z hz => by simp at hz⟩
  case round =>
    obtain ⟨k, hk, rfl, rfl, hok⟩ := hrel
    have HOK := hide hok
    clear hok
    by_cases hlt : k < n
    · obtain ⟨b, off, rfl, hb, hc⟩ := HI.out.at (by rw [← HN.out]; exact hlt)
      have HS := hide (take_snoc l 0 k (by rw [← HN.out]; exact hlt))
      obtain ⟨z, hz⟩ : ∃ z, z = l.getD k 0 := ⟨_, rfl⟩
      rw [← hz] at hc HS
      have HM := hide (show z ∈ l by
        rw [hz, List.getD_eq_getElem?_getD, List.getElem?_eq_getElem (by rw [← HN.out]; exact hlt)]
        exact List.getElem_mem _)
      clear hz
      by_cases hzz : 0 ≤ z ∧ z < 64
      · have HNb := hide (show numB z = true from decide_eq_true hzz)
        have HZ := hide hzz
        obtain ⟨j, rfl⟩ := Int.eq_ofNat_of_zero_le hzz.1
        have hj : j < 64 := by omega
        have hlt2 := orAll_lt HOK.out
        have hpj : 2 ^ j < 2 ^ 64 := Nat.pow_lt_pow_right (by decide) hj
        have HOr := hide (u64_or_nat (orAll (l.take k)) (2 ^ j) hlt2 hpj)
        have HTk := hide (orAll_snoc (l.take k) (j : Int))
        generalize orAll (l.take k) = s0 at *
        clear hzz
        go_wp2_with (go_at_call 7; refine (isNumber_at _ _).mono ?_; rintro e w' ⟨rfl, rfl⟩; rw [HNb.out])
        have HW := hide (pow_wrap j hj)
        go_round
        case rel =>
          refine ⟨k + 1, by omega, by go_num, ?_, ?_⟩
          · rw [HS.out, HTk.out, HW.out, HOr.out]; rfl
          · rw [HS.out]
            intro y hy
            rcases List.mem_append.1 hy with h | h
            · exact HOK.out y h
            · obtain rfl := List.mem_singleton.1 h
              exact HZ.out
        case measure => simp [intOf]; omega
      · have HNb := hide (show numB z = false from decide_eq_false hzz)
        have HV := hide (show ofV l = .tuple #[.int .u64 0, .int .i64 120] from if_neg fun h => hzz (h z HM.out))
        clear hzz
        go_wp2_with (go_at_call 7; refine (isNumber_at _ _).mono ?_; rintro e w' ⟨rfl, rfl⟩; rw [HNb.out])
        go_ret2
        exact ⟨by rw [HV.out]; rfl, rfl⟩
    · obtain rfl : k = n := by omega
      have HT : Hid (l.take k = l) := by show _ = _; rw [HN.out, List.take_length]
      have HV := hide (show ofV l = .tuple #[.int .u64 (orAll (l.take k) : Nat), .int .i64 0] from by
        unfold ofV; rw [if_pos (by have := HOK.out; rwa [HT.out] at this), HT.out])
      generalize orAll (l.take k) = s0 at *
      go_wp2
      go_ret2
      exact ⟨by rw [HV.out]; rfl, rfl⟩
/-- 64 truths -/
def bc (f : Nat → Bool) : Array Value := (Array.range 64).map fun i => .bool (f i)
theorem bc_size (f : Nat → Bool) : (bc f).size = 64 := by simp [bc]
theorem bc_get (f : Nat → Bool) (i : Nat) (h : i < 64) : (bc f)[i]? = some (.bool (f i)) := by simp [bc, h]
theorem bc_one (f : Nat → Bool) : (bc f).all (·.oneCell') = true := by
  rw [Array.all_eq_true]
  intro i hi
  simp [bc, Value.oneCell']
theorem bc_set (f : Nat → Bool) (k : Nat) (v : Bool) : (bc f).setIfInBounds k (.bool v) = bc fun i => if i = k then v else f i := by
  apply Array.ext_getElem?
  intro i
  rw [Array.getElem?_setIfInBounds, bc_size]
  rcases Nat.lt_or_ge i 64 with hi | hi
  · rw [bc_get _ i hi, bc_get _ i hi]
    by_cases e : k = i
    · subst e; simp [hi]
    · have e2 : ¬ i = k := fun x => e x.symm
      simp [e, e2]
  · rw [Array.getElem?_eq_none (xs := bc fun i => if i = k then v else f i) (by rw [bc_size]; exact hi)]
    split
    · rename_i e
      subst e
      rw [if_neg (by omega)]
    · rw [Array.getElem?_eq_none (by rw [bc_size]; exact hi)]
theorem bc_congr (f g : Nat → Bool) (h : ∀ i, i < 64 → f i = g i) : bc f = bc g := by
  apply Array.ext_getElem?
  intro i
  rcases Nat.lt_or_ge i 64 with hi | hi
  · rw [bc_get f i hi, bc_get g i hi, h i hi]
  · rw [Array.getElem?_eq_none (by rw [bc_size]; exact hi), Array.getElem?_eq_none (by rw [bc_size]; exact hi)]
theorem info_bc : (Try.prog.info? 32).map (fun i => (i.zero, i.size)) = some (some (.agg (bc fun _ => false)), 64) := by kernel_rfl
theorem bc_info (f : Nat → Bool) : (Try.prog.info? 32).map (·.size) = some (bc f).size := by rw [bc_size]; exact (zero_of_info info_bc).2

/-- the number that has these bits below n -/
def numb (f : Nat → Bool) : Nat → Nat
  | 0 => 0
  | n + 1 => numb f n + if f n then 2 ^ n else 0
theorem numb_lt (f : Nat → Bool) : ∀ n, numb f n < 2 ^ n
  | 0 => Nat.zero_lt_one
  | n + 1 => by
    have := numb_lt f n
    simp only [numb, Nat.pow_succ]
    split <;> omega
theorem numb_bit (f : Nat → Bool) : ∀ n i, (numb f n).testBit i = (decide (i < n) && f i)
  | 0, i => by simp [numb]
  | n + 1, i => by
    have hl := numb_lt f n
    have ih := numb_bit f n i
    simp only [numb]
    by_cases hf : f n = true
    · rw [if_pos hf, Nat.add_comm]
      by_cases e : i = n
      · subst e
        rw [Nat.testBit_two_pow_add_eq, ih]
        simp [hf]
      · have h1 : 2 ^ n + numb f n = 2 ^ n * 1 + numb f n := by omega
        rw [h1, Nat.two_pow_add_eq_or_of_lt hl, Nat.testBit_or, Nat.mul_one, Nat.testBit_two_pow, ih]
        have h2 : ¬ n = i := fun x => e x.symm
        by_cases hi : i < n
        · simp [h2, hi, show i < n + 1 by omega]
        · simp [h2, hi, show ¬ i < n + 1 by omega]
    · have hf : f n = false := by simpa using hf
      rw [hf]
      simp only [Bool.false_eq_true, if_false, Nat.add_zero]
      rw [ih]
      by_cases e : i = n
      · subst e; simp [hf]
      · by_cases hi : i < n
        · simp [hi, show i < n + 1 by omega]
        · simp [hi, show ¬ i < n + 1 by omega]
theorem numb_of {s : Nat} (hs : s < 2 ^ 64) {f : Nat → Bool} (h : ∀ i, i < 64 → f i = s.testBit i) : numb f 64 = s := by
  apply Nat.eq_of_testBit_eq
  intro i
  rw [numb_bit]
  by_cases hi : i < 64
  · simp [hi, h i hi]
  · rw [Nat.testBit_lt_two_pow (Nat.lt_of_lt_of_le hs (Nat.pow_le_pow_right (by decide) (show 64 ≤ i by omega)))]
    simp [hi]
theorem div_step (X n : Nat) : X / 2 ^ n = 2 * (X / 2 ^ (n + 1)) + if X.testBit n then 1 else 0 := by
  rw [Nat.testBit_eq_decide_div_mod_eq, Nat.pow_succ, ← Nat.div_div_eq_div_mul]
  rcases Nat.mod_two_eq_zero_or_one (X / 2 ^ n) with h | h
  · simp [h]; omega
  · simp [h]; omega

set_option maxRecDepth 100000 in
set_option maxHeartbeats 4000000 in
theorem number_at (f : Nat → Bool) (w : World) :
    Calls Try.prog 8 #[.agg (bc f)] w fun e w' => e = .returned (.int .u64 (numb f 64 : Nat)) ∧ Below w.heap.size w w' := by
  have hX : numb f 64 < 2 ^ 64 := numb_lt f 64
  have hbit : ∀ i, i < 64 → (numb f 64).testBit i = f i := fun i hi => by rw [numb_bit]; simp [hi]
  have HB := hide hbit
  generalize numb f 64 = X at *
  clear hbit
  go_enter Try.func8, Try.ntmps8
  go_wp2_with fail
  have hcell : ∀ i, i < 64 → (w.alloc (.cells (bc f) 32)).cell? ⟨w.heap.size, i, none⟩ = some (.bool (f i)) := fun i hi => by
    rw [cell_of_row _ _ _ _ _ _ (heap_alloc_new w _), bc_get _ _ hi]
  have HC := hide hcell
  have HBel := hide (bal w (.cells (bc f) 32))
  clear hcell
  generalize w.alloc (.cells (bc f) 32) = w1 at HC HBel ⊢
  go_loop [3, 4] (fun sv i => ∃ n : Nat, n ≤ 64 ∧ sv = .int .u64 (X / 2 ^ n : Nat) ∧ i = .int .i64 ((n : Int) - 1)) (fun _ i => (intOf i + 1).toNat)
  case atStart => exact ⟨64, by omega, by rw [Nat.div_eq_of_lt hX]; rfl, rfl⟩
  case round =>
    obtain ⟨n, hn, rfl, rfl⟩ := hrel
    cases n with
    | zero =>
      have H0 : Hid (X / 2 ^ 0 = X) := by show _ = _; simp
      rw [H0.out]
      go_wp2
      go_ret
      exact ⟨rfl, HBel.out⟩
    | succ n =>
      have e1 : ((n + 1 : Nat) : Int) - 1 = (n : Int) := by omega
      rw [e1]
      have hc := HC.out n (by omega)
      have hst := div_step X n
      rw [HB.out n (by omega)] at hst
      have hle : X / 2 ^ n ≤ X := Nat.div_le_self _ _
      have HSt := hide hst
      clear hst
      have hq2 : 2 * (X / 2 ^ (n + 1)) + (if f n = true then 1 else 0) ≤ X := by have := HSt.out; omega
      generalize X / 2 ^ (n + 1) = q at *
      cases hfn : f n with
      | true =>
        rw [hfn] at hc
        have hr : Hid (X / 2 ^ n = 2 * q + 1) := by show _ = _; have := HSt.out; rw [hfn] at this; simpa using this
        rw [hfn] at hq2
        have hq3 : 2 * q + 1 ≤ X := by simpa using hq2
        clear hq2 hfn
        go_wp2_with fail
        go_round
        case rel => exact ⟨n, by omega, by rw [hr.out]; congr 1, rfl⟩
        case measure => simp [intOf]
      | false =>
        rw [hfn] at hc
        have hr : Hid (X / 2 ^ n = 2 * q) := by show _ = _; have := HSt.out; rw [hfn] at this; simpa using this
        rw [hfn] at hq2
        have hq3 : 2 * q ≤ X := by simpa using hq2
        clear hq2 hfn
        go_wp2_with fail
        go_round
        case rel => exact ⟨n, by omega, by rw [hr.out]; congr 1, rfl⟩
        case measure => simp [intOf]
set_option maxHeartbeats 2000000 in
theorem ints_same (l : List Int) (A B : Option Addr) (c c' : Nat) (w : World) (hA : Ints w A l) (hB : Ints w B l) (hl : l.length ≤ 9223372036854775806) :
    Calls Try.prog 6 #[.slice A l.length c, .slice B l.length c'] w fun e w' => e = .returned (.bool true) ∧ Below w.heap.size w w' := by
  have HA := hide hA
  have HB := hide hB
  obtain ⟨n, hn⟩ : ∃ n, n = l.length := ⟨_, rfl⟩
  have HN := hide hn
  rw [← hn] at hl ⊢
  clear hA hB hn
  go_enter Try.func6, Try.ntmps6
  go_wp2_with fail
  go_loopw [5] (fun i wr => ∃ k : Nat, k ≤ n ∧ i = .int .i64 k ∧ Below w.heap.size w wr) (fun i _ => n - (intOf i).toNat)
  case atStart => exact ⟨0, Nat.zero_le _, rfl, Below.refl _ _⟩
  case round =>
    obtain ⟨k, hk, rfl, hbr⟩ := hrel
    by_cases hlt : k < n
    · obtain ⟨b, off, rfl, hb, hc⟩ := HA.out.at (by rw [← HN.out]; exact hlt)
      obtain ⟨b', off', rfl, hb', hc'⟩ := HB.out.at (by rw [← HN.out]; exact hlt)
      have hd := (bcl hbr hb).trans hc
      have hd' := (bcl hbr hb').trans hc'
      have HBr := hide hbr
      clear hc hc' hbr
      generalize l.getD k 0 = z at *
      go_wp2_with fail
      go_region
      all_goals
        go_wp2_with fail
        go_roundw
        case rel => exact ⟨k + 1, by omega, by go_num, below_drewN HBr.out 1⟩
        case measure => simp [intOf]; omega
    · obtain rfl : k = n := by omega
      have HBr := hide hbr
      clear hbr
      go_wp2_with fail
      go_ret
      exact ⟨rfl, HBr.out⟩

theorem append_none_run (w : World) (t ty e : TypeId) (i : TypeInfo) (ht : Try.prog.underlying t = some (.slice e)) (hi : Try.prog.info? e = some i) (hby : i.bytes ≤ 1000) (g c : Nat) :
    (Builtin.append_ #[t, t] ty #[.slice (some ⟨g, 0, none⟩) 0 0, .slice none 0 c]).run Try.prog w = .ok (.slice (some ⟨g, 0, none⟩) 0 0) w := by
  simp [Builtin.append_, run_underlying ht, sizeOf, typeInfo, hi, Builtin.lenOf, Builtin.firstCells, storeCells]

end Go.Proofs.Ytklkndnikcjbhaa
