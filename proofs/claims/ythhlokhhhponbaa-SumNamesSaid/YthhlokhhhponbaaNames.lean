/-
  The walk of SumNames: the examples of the chapter, the table, calls on no meter.
-/
import Derived.Test.YthhlokhhhponbaaAdd
import Derived.Test.YthhlokhhhponbaaTable
namespace Go.Proofs.Ythhlokhhhponbaa
open Go.RowKit
set_option linter.unusedVariables false


theorem first_none (w : World) :
    Calls Try.prog 21 #[.pointer none] w fun e w' => e = .returned (.tuple #[.int .u32 0, .bool false]) ∧ w = w' := by
  go_enter Try.func21, Try.ntmps21
  go_wp2_with (go_at_call 26; refine (made_none _).mono ?_; rintro e w' ⟨rfl, rfl⟩)
  go_ret2
  exact ⟨rfl, rfl⟩
theorem first_zero (g : Nat) (w : World) (h : w.cell? ⟨g, 0, none⟩ = some (.bool false)) :
    Calls Try.prog 21 #[.pointer (some ⟨g, 0, none⟩)] w fun e w' => e = .returned (.tuple #[.int .u32 0, .bool false]) ∧ w = w' := by
  go_enter Try.func21, Try.ntmps21
  go_wp2_with (go_at_call 26; refine (made_zero g _ h).mono ?_; rintro e w' ⟨rfl, rfl⟩)
  go_ret2
  exact ⟨rfl, rfl⟩
theorem bytes_none (w : World) :
    Calls Try.prog 19 #[.pointer none] w fun e w' => e = .returned (.int .u64 0) ∧ w = w' := by
  go_enter Try.func19, Try.ntmps19
  go_wp2_with (go_at_call 26; refine (made_none _).mono ?_; rintro e w' ⟨rfl, rfl⟩)
  go_ret
  exact ⟨rfl, rfl⟩
theorem sums_zero (g : Nat) (w : World) (h : w.cell? ⟨g, 0, none⟩ = some (.bool false)) :
    Calls Try.prog 20 #[.pointer (some ⟨g, 0, none⟩)] w fun e w' => e = .returned (.int .u64 0) ∧ w = w' := by
  go_enter Try.func20, Try.ntmps20
  go_wp2_with (go_at_call 26; refine (made_zero g _ h).mono ?_; rintro e w' ⟨rfl, rfl⟩)
  go_ret
  exact ⟨rfl, rfl⟩
theorem add_none (v : Value) (w : World) :
    Calls Try.prog 18 #[.pointer none, v] w fun e w' => e = .returned (.int .u32 0) ∧ w.alloc (.cells #[.pointer none] 31) = w' := by
  go_enter Try.func18, Try.ntmps18
  go_wp2_with (go_at_call 26; refine (made_none _).mono ?_; rintro e w' ⟨rfl, rfl⟩)
  go_ret
  exact ⟨rfl, rfl⟩
theorem add_zero_ (g : Nat) (v : Value) (w : World) (hg : g < w.heap.size) (h : w.cell? ⟨g, 0, none⟩ = some (.bool false)) :
    Calls Try.prog 18 #[.pointer (some ⟨g, 0, none⟩), v] w fun e w' => e = .returned (.int .u32 0) ∧ w.alloc (.cells #[.pointer (some ⟨g, 0, none⟩)] 31) = w' := by
  have h1 : (w.alloc (.cells #[.pointer (some ⟨g, 0, none⟩)] 31)).cell? ⟨g, 0, none⟩ = some (.bool false) := (World.cell?_alloc_lt _ _ _ hg).trans h
  go_enter Try.func18, Try.ntmps18
  go_wp2_with (go_at_call 26; refine (made_zero g _ h1).mono ?_; rintro e w' ⟨rfl, rfl⟩)
  go_ret
  exact ⟨rfl, rfl⟩

theorem stepx (n : Nat) (h : n < 4294967296) (ho : n % 2 = 1) : bits .xor .u32 ((n : Int) / 2) 3988292384 = ((SumMath.step n : Nat) : Int) := by
  rw [SumMath.step_odd n ho, show (n : Int) / 2 = ((n / 2 : Nat) : Int) by omega]; exact xor_u32 (n / 2) 3988292384 (by omega) (by omega)

theorem tab_0 {w : World} {a : Addr} (h : w.cell? a = some (.int .u32 ((SumMath.steps 8 0 : Nat) : Int))) : w.cell? a = some (.int .u32 0) := by
  rw [show SumMath.steps 8 0 = 0 by decide +kernel] at h; exact h
theorem tab_1 {w : World} {a : Addr} (h : w.cell? a = some (.int .u32 ((SumMath.steps 8 1 : Nat) : Int))) : w.cell? a = some (.int .u32 1996959894) := by
  rw [show SumMath.steps 8 1 = 1996959894 by decide +kernel] at h; exact h
theorem tab_255 {w : World} {a : Addr} (h : w.cell? a = some (.int .u32 ((SumMath.steps 8 255 : Nat) : Int))) : w.cell? a = some (.int .u32 755167117) := by
  rw [show SumMath.steps 8 255 = 755167117 by decide +kernel] at h; exact h
theorem tab_5 {w : World} {a : Addr} (h : w.cell? a = some (.int .u32 ((SumMath.steps 8 5 : Nat) : Int))) : w.cell? a = some (.int .u32 1886057615) := by
  rw [show SumMath.steps 8 5 = 1886057615 by decide +kernel] at h; exact h
theorem more_5 : SumMath.more 0 [49, 50, 51, 52, 53] = 3421846044 := by decide +kernel
theorem more_49 : SumMath.more 3421846044 [54, 55, 56, 57] = 3421780262 := by decide +kernel

/-- what is kept on the road: a table, a meter that nobody made, a meter -/
structure Env (w W : World) (u z m : Nat) (any : Bool) (f b s : Nat) : Prop where
  below : Below w.heap.size w W
  uc : ∀ j, j < 256 → W.cell? ⟨u, j, none⟩ = some (.int .u32 ((SumMath.steps 8 j : Nat) : Int))
  ul : u < W.heap.size
  zc : W.cell? ⟨z, 0, none⟩ = some (.bool false)
  zl : z < W.heap.size
  mb : Blk W m (mcells any f b s)
  um : m ≠ u
  zm : m ≠ z
  old : w.heap.size ≤ m
theorem Env.le {w W : World} {u z m f b s : Nat} {any : Bool} (h : Env w W u z m any f b s) : w.heap.size ≤ W.heap.size := h.below.size
theorem Env.alloc {w W : World} {u z m f b s : Nat} {any : Bool} (h : Env w W u z m any f b s) (o : Obj) : Env w (W.alloc o) u z m any f b s :=
  ⟨h.below.alloc h.le o, fun j hj => (World.cell?_alloc_lt _ _ _ h.ul).trans (h.uc j hj), by have := h.ul; simp; omega, (World.cell?_alloc_lt _ _ _ h.zl).trans h.zc, by have := h.zl; simp; omega, h.mb.alloc o, h.um, h.zm, h.old⟩
theorem Env.drew {w W : World} {u z m f b s : Nat} {any : Bool} (h : Env w W u z m any f b s) : Env w W.drew u z m any f b s :=
  ⟨h.below.drew, h.uc, h.ul, h.zc, h.zl, h.mb, h.um, h.zm, h.old⟩
theorem Env.add {w W W' : World} {u z m f b s f' b' s' : Nat} {any any' : Bool} (h : Env w W u z m any f b s) (hg : W.grownBy W' (some m)) (hb : Blk W' m (mcells any' f' b' s')) : Env w W' u z m any' f' b' s' :=
  ⟨h.below.grown hg h.le (fun k hk => by injection hk with hk; subst hk; exact h.old), fun j hj => (gb_cell hg (p := ⟨u, j, none⟩) h.ul h.um).trans (h.uc j hj), Nat.lt_of_lt_of_le h.ul hg.size,
    (gb_cell hg (p := ⟨z, 0, none⟩) h.zl h.zm).trans h.zc, Nat.lt_of_lt_of_le h.zl hg.size, hb, h.um, h.zm, h.old⟩
theorem Env.later {w W W' : World} {u z m f b s : Nat} {any : Bool} (h : Env w W u z m any f b s) (hb : Below W.heap.size W W') : Env w W' u z m any f b s :=
  ⟨h.below.trans (hb.mono h.le), fun j hj => (hb.cell (p := ⟨u, j, none⟩) h.ul).trans (h.uc j hj), Nat.lt_of_lt_of_le h.ul hb.size, (hb.cell (p := ⟨z, 0, none⟩) h.zl).trans h.zc, Nat.lt_of_lt_of_le h.zl hb.size,
    h.mb.below hb h.mb.lt, h.um, h.zm, h.old⟩
theorem add_a (m cap : Nat) (A : Option Addr) (w : World) (hB : Bytes w A [97]) (hb : Blk w m (mcells false 0 0 0)) :
    Calls Try.prog 18 #[.pointer (some ⟨m, 0, none⟩), .slice A 1 cap] w fun e w' =>
      e = .returned (.int .u32 3904355907) ∧ Blk w' m (mcells true 3904355907 1 1) ∧ w.grownBy w' (some m) := by
  have h := add_first m [97] 1 A cap 0 0 0 w rfl hB (by omega) (by omega) (by omega) hb
  rw [more_a] at h
  exact h
theorem add_e (m : Nat) (w : World) (hb : Blk w m (mcells true 3904355907 1 1)) :
    Calls Try.prog 18 #[.pointer (some ⟨m, 0, none⟩), .slice none 0 0] w fun e w' =>
      e = .returned (.int .u32 0) ∧ Blk w' m (mcells true 3904355907 1 2) ∧ w.grownBy w' (some m) :=
  add_again m [] 0 none 0 3904355907 1 1 w rfl (Bytes.empty _ _) (by omega) (by omega) (by omega) hb
theorem env_new (w w2 : World) (hb : Below w.heap.size w w2) :
    Env w ((((w2.alloc (.cells (cells fun _ => 0) 24)).setRow w2.heap.size tab).alloc (.cells #[.bool false, .int .u32 0, .int .i32 0, .int .u32 0, .int .u32 0, .int .u32 0, .int .u64 0, .int .u64 0] 56)).alloc (.cells (mcells false 0 0 0) 56)) w2.heap.size (w2.heap.size + 1) (w2.heap.size + 1 + 1) false 0 0 0 := by
  rw [World.setRow_alloc_new]
  have h1 := hb.size
  refine ⟨((hb.alloc h1 _).alloc (by simp; omega) _).alloc (by simp; omega) _, fun j hj => ?_, by simp; omega, ?_, by simp, ?_, by omega, by omega, by omega⟩
  · rw [World.cell?_alloc_lt _ _ _ (by show w2.heap.size < _; simp; omega), World.cell?_alloc_lt _ _ _ (by show w2.heap.size < _; simp), cell_of_row _ _ j tab 24 (0, 0) (heap_alloc_new w2 _)]
    exact cells_get _ j hj
  · have h2 := heap_alloc2_old (w2.alloc (.cells tab 24)) (.cells #[.bool false, .int .u32 0, .int .i32 0, .int .u32 0, .int .u32 0, .int .u32 0, .int .u64 0, .int .u64 0] 56) (.cells (mcells false 0 0 0) 56)
    rw [World.size_alloc] at h2
    rw [cell_of_row _ _ 0 _ _ (0, 0) h2]; rfl
  · have h2 := heap_alloc2_new (w2.alloc (.cells tab 24)) (.cells #[.bool false, .int .u32 0, .int .i32 0, .int .u32 0, .int .u32 0, .int .u32 0, .int .u64 0, .int .u64 0] 56) (.cells (mcells false 0 0 0) 56)
    rw [World.size_alloc] at h2
    exact h2

set_option maxRecDepth 100000 in
set_option maxHeartbeats 1000000 in
theorem names_any (w : World) :
    Calls Try.prog 5 #[] w fun e w' => e = .returned (.bool true) ∧ Below w.heap.size w w' := by
  have hz := (zero_of_info info_tab).1
  go_enter Try.func5, Try.ntmps5
  go_wp2_with (first
    | (go_at_call 11; refine (table_any _).mono ?_; rintro e w1 ⟨rfl, hb1⟩)
    | (refine wpList_store_row rfl 24 (.tmp 1) (.tmp 18) rfl w1.heap.size tab rfl rfl 24 _ (heap_alloc_new w1 _) tab_info (by rw [cells_size, tab_size]) (cells_one _) ?_))
  rw [World.setRow_alloc_new]
  have ht : ∀ j, j < 256 → (w1.alloc (.cells tab 24)).cell? ⟨w1.heap.size, j, none⟩ = some (.int .u32 ((SumMath.steps 8 j : Nat) : Int)) := fun j hj => by
    rw [cell_of_row _ _ j tab 24 (0, 0) (heap_alloc_new w1 _)]; exact cells_get _ j hj
  have hf : (w1.alloc (.cells tab 24)).frozen? ⟨w1.heap.size, 5, none⟩ = false := frozen_of_row _ _ 5 tab 24 (heap_alloc_new w1 _)
  have hb2 : Below w.heap.size w (w1.alloc (.cells tab 24)) := hb1.alloc hb1.size _
  have hle : w.heap.size ≤ w1.heap.size := hb1.size
  generalize w1.alloc (.cells tab 24) = w2 at ht hf hb2
  generalize w1.heap.size = q at ht hf hle
  have HT := hide ht; clear ht hb1
  go_loop [2, 3, 4] (fun i _ _ => ∃ k : Nat, k ≤ 256 ∧ i = .int .i64 k) (fun i _ _ => 256 - (intOf i).toNat)
  case atStart => exact ⟨0, by omega, rfl⟩
  case round =>
    obtain ⟨k, hk, rfl⟩ := hrel
    by_cases hlt : k < 256
    · have hc := HT.out k hlt
      go_wp2_with fail
      go_loop [3, 4] (fun t i => ∃ j : Nat, j ≤ 8 ∧ i = .int .i64 j ∧ t = .int .u32 (SumMath.steps j k : Nat)) (fun _ i => 8 - (intOf i).toNat)
      case atStart => exact ⟨0, by omega, rfl, rfl⟩
      case round =>
        obtain ⟨j, hj, rfl, rfl⟩ := hrel
        by_cases hjt : j < 8
        · have hs := SumMath.steps_lt j (show k < 4294967296 by omega)
          have H := hide (SumMath.steps_succ j k)
          generalize SumMath.steps j k = s at hs H
          rcases Nat.mod_two_eq_zero_or_one s with ho | ho
          · have H2 := hide (SumMath.step_even s ho)
            have hq : (((s : Nat) : Int) % 2 == 1) = false := by rw [show ((s : Int) % 2) = ((s % 2 : Nat) : Int) by omega, ho]; rfl
            clear ho
            go_wp2
            go_round
            case rel => exact ⟨j + 1, by omega, by go_num, by rw [H.out, H2.out]; go_num⟩
            case measure => simp [intOf]; omega
          · have hx := stepx s hs ho
            have hq : (((s : Nat) : Int) % 2 == 1) = true := by rw [show ((s : Int) % 2) = ((s % 2 : Nat) : Int) by omega, ho]; rfl
            clear ho
            go_wp2
            go_round
            case rel => exact ⟨j + 1, by omega, by go_num, by rw [H.out]⟩
            case measure => simp [intOf]; omega
        · obtain rfl : j = 8 := by omega
          go_wp2
          go_round
          case rel => exact ⟨k + 1, by omega, by go_num⟩
          case measure => simp [intOf]; omega
    · have c5 := HT.out 5 (by omega)
      have hb3 : Below w.heap.size w (w2.setCell ⟨q, 5, none⟩ (.int .u32 1)) := hb2.setCell hle _
      clear HT hb2
      go_wp2_with (first
        | (go_at_call 11; refine (table_any _).mono ?_; rintro e w3 ⟨rfl, hb4⟩)
        | (refine wpList_store_row rfl 24 (.tmp 5) (.tmp 43) rfl w3.heap.size tab rfl rfl 24 _ (heap_alloc_new w3 _) tab_info (by rw [cells_size, tab_size]) (cells_one _) ?_))
      refine (new_any _).mono ?_
      rintro e w4 ⟨rfl, rfl⟩
      have E := env_new w w3 (hb3.trans (hb4.mono hb3.size))
      clear hb3 hb4 hz c5 hf
      have kc := conv_bytes
      go_wp2_with fail
      generalize ((((w3.alloc (.cells (cells fun _ => 0) 24)).setRow w3.heap.size tab).alloc (.cells #[.bool false, .int .u32 0, .int .i32 0, .int .u32 0, .int .u32 0, .int .u32 0, .int .u64 0, .int .u64 0] 56)).alloc (.cells (mcells false 0 0 0) 56)) = W at E
      generalize w3.heap.size + 1 + 1 = m at E
      generalize w3.heap.size + 1 = z at E
      generalize w3.heap.size = u at E
      refine (first_no m 0 0 0 _ E.mb).mono ?_
      rintro e w4 ⟨rfl, rfl⟩
      go_wp2_with fail
      refine (add_a m _ _ _ (Bytes.new W [97] (by decide) _ rfl _ _ _ rfl) (E.alloc _).mb).mono ?_
      rintro e W2 ⟨rfl, ha1, ha2⟩
      have E2 := (E.alloc _).add ha2 ha1
      clear E ha1 ha2
      go_wp2_with fail
      refine (add_e m _ E2.mb).mono ?_
      rintro e W3 ⟨rfl, ha1, ha2⟩
      have E3 := E2.add ha2 ha1
      clear E2 ha1 ha2
      go_wp2_with fail
      refine (first_yes m _ _ _ _ E3.mb).mono ?_
      rintro e w4 ⟨rfl, rfl⟩
      go_wp2_with fail
      refine (first_none _).mono ?_
      rintro e w4 ⟨rfl, rfl⟩
      go_wp2_with fail
      refine (first_zero z _ E3.zc).mono ?_
      rintro e w4 ⟨rfl, rfl⟩
      go_wp2_with fail
      refine (alive_any _).mono ?_
      rintro e W4 ⟨rfl, hal⟩
      have E4 := E3.later hal
      clear E3 hal
      have u0 := tab_0 (E4.uc 0 (by omega))
      have u1 := tab_1 (E4.uc 1 (by omega))
      have u255 := tab_255 (E4.uc 255 (by omega))
      have u5 := tab_5 (E4.uc 5 (by omega))
      go_wp2_with fail
      refine (sum_is [49, 50, 51, 52, 53] 3421846044 _ _ _ _ (by rw [more_5]; rfl) rfl (Bytes.new _ [49, 50, 51, 52, 53] (by decide) _ rfl _ _ _ rfl) (by decide)).mono ?_
      rintro e w' ⟨rfl, rfl⟩
      go_wp2_with fail
      refine (more_is [54, 55, 56, 57] 3421780262 3421846044 _ _ _ _ (by rw [more_49]; rfl) (by omega) rfl (Bytes.new _ [54, 55, 56, 57] (by decide) _ (World.size_alloc _ _) _ _ _ rfl) (by decide)).mono ?_
      rintro e w' ⟨rfl, rfl⟩
      clear u0 u1 u255 u5
      go_wp2_with fail
      refine (add_none _ _).mono ?_
      rintro e w' ⟨rfl, rfl⟩
      go_wp2_with fail
      refine (add_zero_ z _ _ (((((E4.alloc _).alloc _).alloc _).alloc _).alloc _).zl (((((E4.alloc _).alloc _).alloc _).alloc _).alloc _).zc).mono ?_
      rintro e w' ⟨rfl, rfl⟩
      go_wp2_with fail
      refine (bytes_none _).mono ?_
      rintro e w' ⟨rfl, rfl⟩
      go_wp2_with fail
      refine (sums_zero z _ ((((((E4.alloc _).alloc _).alloc _).alloc _).alloc _).alloc _).zc).mono ?_
      rintro e w' ⟨rfl, rfl⟩
      go_wp2_with fail
      refine (bytes_yes m _ _ _ _ _ ((((((E4.alloc _).alloc _).alloc _).alloc _).alloc _).alloc _).mb).mono ?_
      rintro e w' ⟨rfl, rfl⟩
      go_wp2_with fail
      refine (sums_yes m _ _ _ _ _ ((((((E4.alloc _).alloc _).alloc _).alloc _).alloc _).alloc _).mb).mono ?_
      rintro e w' ⟨rfl, rfl⟩
      go_wp2_with fail
      go_ret
      exact ⟨rfl, ((((((E4.alloc _).alloc _).alloc _).alloc _).alloc _).alloc _).below⟩
end Go.Proofs.Ythhlokhhhponbaa
