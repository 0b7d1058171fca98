/-
  The walk of SumTable: a byte behind others turns their sum as the table says.
-/
import Derived.Test.YthhlokhhhponbaaSum
import Derived.Test.YthhlokhhhponbaaTable
import Derived.RegionTactic
import Derived.BigRegion
import Derived.Deep.RegionWith
import Derived.Deep.RegionHeld3
namespace Go.Proofs.Ythhlokhhhponbaa
open Go.RowKit
set_option linter.unusedVariables false

/-- a block g of old stays, and nothing older has turned -/
structure Stay (g : Nat) (w w' : World) : Prop where
  lt : g < w'.heap.size
  le : w.heap.size ≤ w'.heap.size
  below : Below w.heap.size w w'
theorem Stay.drew {g : Nat} {w w' : World} (h : Stay g w w') : Stay g w w'.drew := ⟨h.lt, h.le, h.below.drew⟩
theorem Stay.alloc {g : Nat} {w w' : World} (h : Stay g w w') (o : Obj) : Stay g w (w'.alloc o) := ⟨by have := h.lt; simp; omega, by have := h.le; simp; omega, h.below.alloc h.le o⟩
theorem Stay.cell {g j : Nat} {v : Value} {w w' : World} (h : Stay g w w') (hc : w'.cell? ⟨g, j, none⟩ = some v) (o : Obj) : (w'.alloc o).cell? ⟨g, j, none⟩ = some v :=
  (World.cell?_alloc_lt w' o _ h.lt).trans hc

theorem one_len (c : Nat) : [c].length ≤ 1000000 := by simp

set_option maxRecDepth 100000 in
set_option maxHeartbeats 400000 in
theorem tab_law (s c : Nat) (w : World) (hs : s < 4294967296) (hc : c < 256) :
    Calls Try.prog 10 #[.int .u32 s, .int .u8 c] w fun e w' => e = .returned (.bool true) ∧ Below w.heap.size w w' := by
  have hz := (zero_of_info info_tab).1
  have hf := flip_u32 s hs
  go_enter Try.func10, Try.ntmps10
  go_wp2_with (first
    | (go_at_call 22; refine (alive_any _).mono ?_; rintro e w1 ⟨rfl, hb1⟩)
    | (go_at_call 11; refine (table_any _).mono ?_; rintro e w2 ⟨rfl, hb2⟩)
    | (refine wpList_store_row rfl 24 (.tmp 6) (.tmp 9) rfl w2.heap.size tab rfl rfl 24 _ (heap_alloc_new w2 _) tab_info (by rw [cells_size, tab_size]) (cells_one _) ?_))
  rw [World.setRow_alloc_new]
  obtain ⟨j, hj, hj2, hjd⟩ : ∃ j : Nat, bits .xor .u8 (((SumMath.flip s : Nat) : Int) % 256) (c : Int) = (j : Int) ∧ j < 256 ∧ j = (SumMath.flip s % 256) ^^^ c := by
    refine ⟨(SumMath.flip s % 256) ^^^ c, ?_, Nat.xor_lt_two_pow (n := 8) (Nat.mod_lt _ (by decide)) hc, rfl⟩
    rw [show ((SumMath.flip s : Nat) : Int) % 256 = ((SumMath.flip s % 256 : Nat) : Int) by omega]
    exact u8_xor_nat _ _ (Nat.mod_lt _ (by decide)) hc
  have hfl := SumMath.flip_lt s
  have hbt := SumMath.by_table s c
  rw [← hjd] at hbt
  have hcell : (w2.alloc (.cells tab 24)).cell? ⟨w2.heap.size, j, none⟩ = some (.int .u32 ((SumMath.steps 8 j : Nat) : Int)) := by
    rw [cell_of_row _ _ j tab 24 (0, 0) (heap_alloc_new w2 _)]
    exact cells_get _ j hj2
  have hbel : Below w.heap.size w (w2.alloc (.cells tab 24)) := (hb1.trans (hb2.mono hb1.size)).alloc (Nat.le_trans hb1.size hb2.size) _
  have hlt : w2.heap.size < (w2.alloc (.cells tab 24)).heap.size := by simp
  have hle : w.heap.size ≤ w2.heap.size := Nat.le_trans hb1.size hb2.size
  have hst := SumMath.steps_lt 8 (show j < 4294967296 by omega)
  generalize w2.alloc (.cells tab 24) = w3 at hcell hbel hlt
  generalize w2.heap.size = g at hcell hlt hle
  generalize SumMath.steps 8 j = v at hcell hst hbt
  generalize SumMath.flip s = t at hfl hj hbt
  have hx1 : bits .xor .u32 ((t : Int) / 256) (v : Int) = ((t / 256 ^^^ v : Nat) : Int) := by
    rw [show (t : Int) / 256 = ((t / 256 : Nat) : Int) by omega]
    exact xor_u32 _ _ (by omega) hst
  have hx2 := SumMath.xor_lt (show t / 256 < 4294967296 by omega) hst
  have hx3 := flip_u32 _ hx2
  have HBT := hide (show ((SumMath.more s [c] : Nat) : Int) = ((SumMath.flip (t / 256 ^^^ v) : Nat) : Int) by rw [hbt])
  have HJD := hide hjd
  clear hbt hjd hb1 hb2 hz hf
  have hstay : Stay g w w3 := ⟨hlt, hbel.size, hbel⟩
  have hw8 : IntKind.u8.wrap (t : Int) = (t : Int) % 256 := IntKind.wrap_u8 _
  have hnew : Bytes (w3.alloc (.cells #[.int .u8 (c : Int)] 5)).drew (some ⟨w3.heap.size, 0, none⟩) [c] := Bytes.drewN (Bytes.new w3 [c] (by simpa using hc) _ rfl _ _ _ rfl) 1
  have hji : (0 : Int) ≤ (j : Int) := by omega
  have hji2 : (j : Int) < 256 := by omega
  clear hbel hlt
  go_region_held3 (fun w' => w'.cell? ⟨g, j, none⟩ = some (.int .u32 (v : Int)) ∧ Stay g w w')
    (first | exact ⟨hcell, hstay.drew⟩ | exact ⟨hstay.cell hcell _, (hstay.alloc _).drew⟩ | assumption)
    (first | (go_at_call 15; refine (more_is [c] ((SumMath.flip (t / 256 ^^^ v) : Nat) : Int) _ _ _ _ _ HBT.out hs rfl hnew (one_len c)).mono ?_; rintro e w' ⟨rfl, rfl⟩))
  go_wp2
  go_ret
  exact ⟨rfl, ((hstay.alloc _).drew).below⟩
end Go.Proofs.Ythhlokhhhponbaa
