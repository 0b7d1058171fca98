/-
  A meter's Add, First, Bytes and Sums, and NewMeter.
-/
import Derived.Test.YthhlokhhhponbaaMeter
namespace Go.Proofs.Ythhlokhhhponbaa
open Go.RowKit
set_option linter.unusedVariables false

theorem make_fn (fn : Fn) (first cap : Array Value) (w : World) : (Instr.makeFunc fn first cap).run Try.prog w = .ok (.func fn first cap) w := rfl
theorem gb_cell {w w' : World} {g : Nat} (h : w.grownBy w' (some g)) {p : Addr} (hp : p.block < w.heap.size) (hne : g ≠ p.block) : w'.cell? p = w.cell? p :=
  World.cell?_of_block (h.block p.block hp (fun e => hne (by injection e with e; exact e.symm)))
theorem gb_trans {a b c : World} {g : Nat} (h : a.grownBy b (some g)) (k : b.grownBy c (some g)) : a.grownBy c (some g) :=
  ⟨k.os.trans h.os, k.tape.trans h.tape, k.output.trans h.output, Nat.le_trans h.size k.size, fun i hi hne => (k.block i (Nat.lt_of_lt_of_le hi h.size) hne).trans (h.block i hi hne)⟩

/-- what is owed behind the first sum's note, and behind any other -/
theorem add_rest_cells (by_ su n f : Nat) : (((mcells true f by_ su).setIfInBounds 6 (.int .u64 ((by_ + n : Nat) : Int))).setIfInBounds 7 (.int .u64 ((su + 1 : Nat) : Int))) = mcells true f (by_ + n) (su + 1) := rfl

set_option maxRecDepth 100000 in
set_option maxHeartbeats 1600000 in
theorem add_first (g : Nat) (l : List Nat) (n : Nat) (A : Option Addr) (cap f by_ su : Nat) (w : World) (hn : l.length = n) (hB : Bytes w A l) (hm : n ≤ 1000000)
    (hby : by_ + n < 18446744073709551616) (hsu : su + 1 < 18446744073709551616) (hb : Blk w g (mcells false f by_ su)) :
    Calls Try.prog 18 #[.pointer (some ⟨g, 0, none⟩), .slice A n cap] w fun e w' =>
      e = .returned (.int .u32 (SumMath.more 0 l : Nat)) ∧ Blk w' g (mcells true (SumMath.more 0 l) (by_ + n) (su + 1)) ∧ w.grownBy w' (some g) := by
  have Hn := hide hn; clear hn
  have Hby := hide hby; have Hsu := hide hsu; clear hby hsu
  have hmf := make_fn
  have hg := hb.lt
  have hne : ¬ g = w.heap.size := by omega
  have b1 := hb.alloc (.cells #[.pointer (some ⟨g, 0, none⟩)] 31)
  have c0 := b1.cell 0 (v := .bool true) rfl
  have hB1 : Bytes (w.alloc (.cells #[.pointer (some ⟨g, 0, none⟩)] 31)) A l := hB.later (Below.refl _ _) _
  generalize hs : SumMath.more 0 l = s
  have Hs := hide hs; clear hs
  go_enter Try.func18, Try.ntmps18
  go_wp2_with (first
    | (go_at_call 26; refine (made_yes g _ c0).mono ?_; rintro e w' ⟨rfl, rfl⟩)
    | (go_at_call 13; refine (sum_is l (s : Int) _ _ _ _ (by rw [Hs.out]) Hn.out hB1 (by rw [Hn.out]; exact hm)).mono ?_; rintro e w' ⟨rfl, rfl⟩))
  have b2 := b1.alloc (.cells #[.int .u32 (s : Int)] 23)
  have hpm : ((w.alloc (.cells #[.pointer (some ⟨g, 0, none⟩)] 31)).alloc (.cells #[.int .u32 (s : Int)] 23)).cell? ⟨w.heap.size, 0, none⟩ = some (.pointer (some ⟨g, 0, none⟩)) := by
    rw [cell_of_row _ _ 0 _ _ (0, 0) (heap_alloc2_old w _ _)]; rfl
  have hps : ((w.alloc (.cells #[.pointer (some ⟨g, 0, none⟩)] 31)).alloc (.cells #[.int .u32 (s : Int)] 23)).cell? ⟨w.heap.size + 1, 0, none⟩ = some (.int .u32 (s : Int)) := by
    rw [cell_of_row _ _ 0 _ _ (0, 0) (heap_alloc2_new w _ _)]; rfl
  have hgw := gb_alloc (gb_alloc (World.grownBy.refl w (some g)) (.cells #[.pointer (some ⟨g, 0, none⟩)] 31)) (.cells #[.int .u32 (s : Int)] 23)
  have hsz : ((w.alloc (.cells #[.pointer (some ⟨g, 0, none⟩)] 31)).alloc (.cells #[.int .u32 (s : Int)] 23)).heap.size = w.heap.size + 2 := by simp
  generalize (w.alloc (.cells #[.pointer (some ⟨g, 0, none⟩)] 31)).alloc (.cells #[.int .u32 (s : Int)] 23) = w2 at b2 hpm hps hgw hsz
  refine (do_first g ⟨w.heap.size, 0, none⟩ ⟨w.heap.size + 1, 0, none⟩ (s : Int) _ _ _ _ _ w2 hne (by show ¬ g = w.heap.size + 1; omega) hpm hps b2).mono ?_
  rintro e w3 ⟨rfl, b3, g3⟩
  have hpm3 : w3.cell? ⟨w.heap.size, 0, none⟩ = some (.pointer (some ⟨g, 0, none⟩)) := (gb_cell g3 (p := ⟨w.heap.size, 0, none⟩) (by show w.heap.size < _; omega) hne).trans hpm
  have hps3 : w3.cell? ⟨w.heap.size + 1, 0, none⟩ = some (.int .u32 (s : Int)) := (gb_cell g3 (p := ⟨w.heap.size + 1, 0, none⟩) (by show w.heap.size + 1 < _; omega) (by show g ≠ w.heap.size + 1; omega)).trans hps
  have b3' : Blk w3 g (mcells true s by_ su) := b3
  have k6 := b3'.cell 6 (v := .int .u64 (by_ : Int)) rfl
  have f6 := b3'.free 6
  have b4 := b3'.set 6 (.int .u64 ((by_ + n : Nat) : Int))
  have k7 := b4.cell 7 (v := .int .u64 (su : Int)) rfl
  have f7 := b4.free 7
  have b5 := b4.set 7 (.int .u64 ((su + 1 : Nat) : Int))
  have G5 := hide (gb_set (gb_set (gb_trans hgw g3) 6 (.int .u64 ((by_ + n : Nat) : Int))) 7 (.int .u64 ((su + 1 : Nat) : Int)))
  have B5 := hide b5
  have hps4 : (w3.setCell ⟨g, 6, none⟩ (.int .u64 ((by_ + n : Nat) : Int))).cell? ⟨w.heap.size, 0, none⟩ = some (.pointer (some ⟨g, 0, none⟩)) := (World.cell?_setCell_other _ _ _ _ (by intro h; injection h with h1; exact hne h1)).trans hpm3
  have hps5 : ((w3.setCell ⟨g, 6, none⟩ (.int .u64 ((by_ + n : Nat) : Int))).setCell ⟨g, 7, none⟩ (.int .u64 ((su + 1 : Nat) : Int))).cell? ⟨w.heap.size + 1, 0, none⟩ = some (.int .u32 (s : Int)) :=
    (World.cell?_setCell_other _ _ _ _ (by intro h; injection h with h1; omega)).trans ((World.cell?_setCell_other _ _ _ _ (by intro h; injection h with h1; omega)).trans hps3)
  clear b3 b3' b4 b5 b2 b1 hgw g3 hb hsz hpm hps
  go_wp2_with fail
  refine (uadd_at ⟨g, 6, none⟩ by_ n _ rfl _ Hby.out k6 f6).mono ?_
  rintro e w4 ⟨rfl, rfl⟩
  go_wp2_with fail
  refine (uadd_at ⟨g, 7, none⟩ su 1 _ rfl _ Hsu.out k7 f7).mono ?_
  rintro e w4 ⟨rfl, rfl⟩
  go_wp2_with fail
  go_ret
  exact ⟨rfl, B5.out, G5.out⟩

set_option maxRecDepth 100000 in
set_option maxHeartbeats 1600000 in
theorem add_again (g : Nat) (l : List Nat) (n : Nat) (A : Option Addr) (cap f by_ su : Nat) (w : World) (hn : l.length = n) (hB : Bytes w A l) (hm : n ≤ 1000000)
    (hby : by_ + n < 18446744073709551616) (hsu : su + 1 < 18446744073709551616) (hb : Blk w g (mcells true f by_ su)) :
    Calls Try.prog 18 #[.pointer (some ⟨g, 0, none⟩), .slice A n cap] w fun e w' =>
      e = .returned (.int .u32 (SumMath.more 0 l : Nat)) ∧ Blk w' g (mcells true f (by_ + n) (su + 1)) ∧ w.grownBy w' (some g) := by
  have Hn := hide hn; clear hn
  have Hby := hide hby; have Hsu := hide hsu; clear hby hsu
  have hmf := make_fn
  have hg := hb.lt
  have hne : ¬ g = w.heap.size := by omega
  have b1 := hb.alloc (.cells #[.pointer (some ⟨g, 0, none⟩)] 31)
  have c0 := b1.cell 0 (v := .bool true) rfl
  have hB1 : Bytes (w.alloc (.cells #[.pointer (some ⟨g, 0, none⟩)] 31)) A l := hB.later (Below.refl _ _) _
  generalize hs : SumMath.more 0 l = s
  have Hs := hide hs; clear hs
  go_enter Try.func18, Try.ntmps18
  go_wp2_with (first
    | (go_at_call 26; refine (made_yes g _ c0).mono ?_; rintro e w' ⟨rfl, rfl⟩)
    | (go_at_call 13; refine (sum_is l (s : Int) _ _ _ _ (by rw [Hs.out]) Hn.out hB1 (by rw [Hn.out]; exact hm)).mono ?_; rintro e w' ⟨rfl, rfl⟩))
  have b3 := b1.alloc (.cells #[.int .u32 (s : Int)] 23)
  have hpm3 : ((w.alloc (.cells #[.pointer (some ⟨g, 0, none⟩)] 31)).alloc (.cells #[.int .u32 (s : Int)] 23)).cell? ⟨w.heap.size, 0, none⟩ = some (.pointer (some ⟨g, 0, none⟩)) := by
    rw [cell_of_row _ _ 0 _ _ (0, 0) (heap_alloc2_old w _ _)]; rfl
  have hps3 : ((w.alloc (.cells #[.pointer (some ⟨g, 0, none⟩)] 31)).alloc (.cells #[.int .u32 (s : Int)] 23)).cell? ⟨w.heap.size + 1, 0, none⟩ = some (.int .u32 (s : Int)) := by
    rw [cell_of_row _ _ 0 _ _ (0, 0) (heap_alloc2_new w _ _)]; rfl
  have hgw := gb_alloc (gb_alloc (World.grownBy.refl w (some g)) (.cells #[.pointer (some ⟨g, 0, none⟩)] 31)) (.cells #[.int .u32 (s : Int)] 23)
  generalize (w.alloc (.cells #[.pointer (some ⟨g, 0, none⟩)] 31)).alloc (.cells #[.int .u32 (s : Int)] 23) = w3 at b3 hpm3 hps3 hgw
  have k1 := b3.cell 1 (v := .int .u32 1) rfl
  have k6 := b3.cell 6 (v := .int .u64 (by_ : Int)) rfl
  have f6 := b3.free 6
  have b4 := b3.set 6 (.int .u64 ((by_ + n : Nat) : Int))
  have k7 := b4.cell 7 (v := .int .u64 (su : Int)) rfl
  have f7 := b4.free 7
  have b5 := b4.set 7 (.int .u64 ((su + 1 : Nat) : Int))
  have G5 := hide (gb_set (gb_set hgw 6 (.int .u64 ((by_ + n : Nat) : Int))) 7 (.int .u64 ((su + 1 : Nat) : Int)))
  have B5 := hide b5
  have hps4 : (w3.setCell ⟨g, 6, none⟩ (.int .u64 ((by_ + n : Nat) : Int))).cell? ⟨w.heap.size, 0, none⟩ = some (.pointer (some ⟨g, 0, none⟩)) := (World.cell?_setCell_other _ _ _ _ (by intro h; injection h with h1; exact hne h1)).trans hpm3
  have hps5 : ((w3.setCell ⟨g, 6, none⟩ (.int .u64 ((by_ + n : Nat) : Int))).setCell ⟨g, 7, none⟩ (.int .u64 ((su + 1 : Nat) : Int))).cell? ⟨w.heap.size + 1, 0, none⟩ = some (.int .u32 (s : Int)) :=
    (World.cell?_setCell_other _ _ _ _ (by intro h; injection h with h1; omega)).trans ((World.cell?_setCell_other _ _ _ _ (by intro h; injection h with h1; omega)).trans hps3)
  clear b3 b4 b5 b1 hgw hb
  refine (do_done ⟨g, 1, none⟩ _ _ k1).mono ?_
  rintro e w4 ⟨rfl, rfl⟩
  go_wp2_with fail
  refine (uadd_at ⟨g, 6, none⟩ by_ n _ rfl _ Hby.out k6 f6).mono ?_
  rintro e w4 ⟨rfl, rfl⟩
  go_wp2_with fail
  refine (uadd_at ⟨g, 7, none⟩ su 1 _ rfl _ Hsu.out k7 f7).mono ?_
  rintro e w4 ⟨rfl, rfl⟩
  go_wp2_with fail
  go_ret
  exact ⟨rfl, B5.out, G5.out⟩

/-- Add, the first time or not -/
theorem add_any (g : Nat) (l : List Nat) (n : Nat) (A : Option Addr) (cap f by_ su : Nat) (any : Bool) (w : World) (hn : l.length = n) (hB : Bytes w A l) (hm : n ≤ 1000000)
    (hby : by_ + n < 18446744073709551616) (hsu : su + 1 < 18446744073709551616) (hb : Blk w g (mcells any f by_ su)) :
    Calls Try.prog 18 #[.pointer (some ⟨g, 0, none⟩), .slice A n cap] w fun e w' =>
      e = .returned (.int .u32 (SumMath.more 0 l : Nat)) ∧ Blk w' g (mcells true (if any = true then f else SumMath.more 0 l) (by_ + n) (su + 1)) ∧ w.grownBy w' (some g) := by
  cases any with
  | true => exact add_again g l n A cap f by_ su w hn hB hm hby hsu hb
  | false => exact add_first g l n A cap f by_ su w hn hB hm hby hsu hb

theorem bytes_yes (g f by_ su : Nat) (any : Bool) (w : World) (hb : Blk w g (mcells any f by_ su)) :
    Calls Try.prog 19 #[.pointer (some ⟨g, 0, none⟩)] w fun e w' => e = .returned (.int .u64 (by_ : Int)) ∧ w = w' := by
  have c0 := hb.cell 0 (v := .bool true) rfl
  have c6 := hb.cell 6 (v := .int .u64 (by_ : Int)) rfl
  go_enter Try.func19, Try.ntmps19
  go_wp2_with (first
    | (go_at_call 26; refine (made_yes g _ c0).mono ?_; rintro e w' ⟨rfl, rfl⟩)
    | (go_at_call 31; refine (uload ⟨g, 6, none⟩ _ _ c6).mono ?_; rintro e w' ⟨rfl, rfl⟩))
  go_ret
  exact ⟨rfl, rfl⟩
theorem sums_yes (g f by_ su : Nat) (any : Bool) (w : World) (hb : Blk w g (mcells any f by_ su)) :
    Calls Try.prog 20 #[.pointer (some ⟨g, 0, none⟩)] w fun e w' => e = .returned (.int .u64 (su : Int)) ∧ w = w' := by
  have c0 := hb.cell 0 (v := .bool true) rfl
  have c7 := hb.cell 7 (v := .int .u64 (su : Int)) rfl
  go_enter Try.func20, Try.ntmps20
  go_wp2_with (first
    | (go_at_call 26; refine (made_yes g _ c0).mono ?_; rintro e w' ⟨rfl, rfl⟩)
    | (go_at_call 31; refine (uload ⟨g, 7, none⟩ _ _ c7).mono ?_; rintro e w' ⟨rfl, rfl⟩))
  go_ret
  exact ⟨rfl, rfl⟩
theorem first_yes (g f by_ su : Nat) (w : World) (hb : Blk w g (mcells true f by_ su)) :
    Calls Try.prog 21 #[.pointer (some ⟨g, 0, none⟩)] w fun e w' => e = .returned (.tuple #[.int .u32 (f : Int), .bool true]) ∧ w = w' := by
  have c0 := hb.cell 0 (v := .bool true) rfl
  have c4 := hb.cell 4 (v := .int .u32 (f : Int)) rfl
  have c5 := hb.cell 5 (v := .int .u32 1) rfl
  go_enter Try.func21, Try.ntmps21
  go_wp2_with (first
    | (go_at_call 26; refine (made_yes g _ c0).mono ?_; rintro e w' ⟨rfl, rfl⟩)
    | (go_at_call 32; refine (bload ⟨g, 5, none⟩ 1 _ c5).mono ?_; rintro e w' ⟨rfl, rfl⟩))
  go_ret2
  exact ⟨rfl, rfl⟩
theorem first_no (g f by_ su : Nat) (w : World) (hb : Blk w g (mcells false f by_ su)) :
    Calls Try.prog 21 #[.pointer (some ⟨g, 0, none⟩)] w fun e w' => e = .returned (.tuple #[.int .u32 0, .bool false]) ∧ w = w' := by
  have c0 := hb.cell 0 (v := .bool true) rfl
  have c5 := hb.cell 5 (v := .int .u32 0) rfl
  go_enter Try.func21, Try.ntmps21
  go_wp2_with (first
    | (go_at_call 26; refine (made_yes g _ c0).mono ?_; rintro e w' ⟨rfl, rfl⟩)
    | (go_at_call 32; refine (bload ⟨g, 5, none⟩ 0 _ c5).mono ?_; rintro e w' ⟨rfl, rfl⟩))
  go_ret2
  exact ⟨rfl, rfl⟩
theorem new_any (w : World) :
    Calls Try.prog 17 #[] w fun e w' => e = .returned (.pointer (some ⟨w.heap.size, 0, none⟩)) ∧ w.alloc (.cells (mcells false 0 0 0) 56) = w' := by
  go_enter Try.func17, Try.ntmps17
  go_wp2
  go_ret
  exact ⟨rfl, rfl⟩
end Go.Proofs.Ythhlokhhhponbaa
