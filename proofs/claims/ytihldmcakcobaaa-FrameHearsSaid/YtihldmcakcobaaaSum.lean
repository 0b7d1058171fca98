/-
  What the functions of package sum make of their arguments: step, eightSteps, More and Sum answer what the plain mathematics says, of any bytes, and leave the world alone.
-/
import Derived.Test.YtihldmcakcobaaaRows
import Derived.WalkKit
import Derived.WalkSpells
import Derived.WalkLawsBesides
import Derived.Lib.SlBytesConst
import Derived.Deep.QuietTactic
import Derived.BigQuiet
import Derived.Test.YtihldmcakcobaaaMath
namespace Go.Proofs.Ytihldmcakcobaaa
open Go.RowKit

theorem ret_int {k : IntKind} {a b : Int} (h : a = b) : Ending.returned (.int k a) = .returned (.int k b) := by rw [h]
theorem ret_true {b : Bool} (h : b = true) : Ending.returned (.bool b) = .returned (.bool true) := by rw [h]
theorem below_drewN {B : Nat} {a w : World} (h : Below B a w) (n : Nat) : Below B a (w.drewN n) := ⟨h.os, h.tape, h.output, h.size, h.block⟩
theorem hide {p : Prop} (h : p) : Hid p := h

/-- a slice of bytes that can be read: each is below 256, and lies where it should -/
def Bytes (w : World) (A : Option Addr) (l : List Nat) : Prop :=
  (∀ c ∈ l, c < 256) ∧ (l = [] ∨ ∃ b off, A = some ⟨b, off, none⟩ ∧ b < w.heap.size ∧ ∀ i, i < l.length → w.cell? ⟨b, off + i, none⟩ = some (.int .u8 ((l.getD i 0 : Nat) : Int)))

theorem Bytes.byte {w : World} {A : Option Addr} {l : List Nat} (h : Bytes w A l) (i : Nat) : l.getD i 0 < 256 := by
  rcases Nat.lt_or_ge i l.length with hi | hi
  · rw [List.getD_eq_getElem?_getD, List.getElem?_eq_getElem hi]
    exact h.1 _ (List.getElem_mem hi)
  · rw [List.getD_eq_getElem?_getD, List.getElem?_eq_none hi]; decide

theorem xor_u32 (a b : Nat) (ha : a < 4294967296) (hb : b < 4294967296) : bits .xor .u32 (a : Int) (b : Int) = ((a ^^^ b : Nat) : Int) := u32_xor_nat a b ha hb

theorem bit_u32 (n : Nat) (h : n < 4294967296) : bits .and .u32 (n : Int) 1 = ((n % 2 : Nat) : Int) := by
  rw [show bits .and .u32 (n : Int) 1 = ((n &&& 1 : Nat) : Int) from u32_and_nat n 1 h (by omega), nat_mask1]

set_option maxHeartbeats 400000 in
theorem step_any (n : Nat) (w : World) (h : n < 4294967296) :
    Calls Try.prog 37 #[.int .u32 n] w fun e w' => e = .returned (.int .u32 (SumMath.step n : Nat)) ∧ w = w' := by
  rcases Nat.mod_two_eq_zero_or_one n with ho | ho
  · have ht : (bits .and .u32 (n : Int) 1 == 1) = false := by rw [bit_u32 n h, ho]; rfl
    have H := hide ho; clear ho
    go_enter Try.func37, Try.ntmps37
    go_wp2
    go_ret
    exact ⟨ret_int (by rw [SumMath.step_even n H]; omega), rfl⟩
  · have ht : (bits .and .u32 (n : Int) 1 == 1) = true := by rw [bit_u32 n h, ho]; rfl
    have H := hide ho; clear ho
    go_enter Try.func37, Try.ntmps37
    go_wp2
    go_ret
    exact ⟨ret_int (by rw [SumMath.step_odd n H, show ((n : Int) / 2) = ((n / 2 : Nat) : Int) by omega]; exact xor_u32 (n / 2) 3988292384 (by omega) (by omega)), rfl⟩

set_option maxHeartbeats 400000 in
theorem eight_any (n : Nat) (w : World) (h : n < 4294967296) :
    Calls Try.prog 36 #[.int .u32 n] w fun e w' => e = .returned (.int .u32 (SumMath.steps 8 n : Nat)) ∧ w = w' := by
  go_enter Try.func36, Try.ntmps36
  go_wp2
  go_loop [0, 3] (fun t i => ∃ k : Nat, k ≤ 8 ∧ i = .int .i64 k ∧ t = .int .u32 (SumMath.steps k n : Nat)) (fun _ i => 8 - (intOf i).toNat)
  case atStart => exact ⟨0, by omega, rfl, rfl⟩
  case round =>
    obtain ⟨k, hk, rfl, rfl⟩ := hrel
    have hs := SumMath.steps_lt k h
    have H : Hid (SumMath.steps (k + 1) n = SumMath.step (SumMath.steps k n)) := SumMath.steps_succ k n
    by_cases hlt : k < 8
    · go_wp2_with (go_at_call 37; refine (step_any _ _ hs).mono ?_; rintro e w' ⟨rfl, rfl⟩)
      go_round
      case rel => exact ⟨k + 1, by omega, by go_num, by rw [H.out]⟩
      case measure => simp [intOf]; omega
    · obtain rfl : k = 8 := by omega
      go_wp2
      go_ret
      exact ⟨rfl, rfl⟩

theorem flip_u32 (n : Nat) (h : n < 4294967296) : bits .xor .u32 IntKind.u32.max (n : Int) = ((SumMath.flip n : Nat) : Int) := by
  rw [show IntKind.u32.max = ((4294967295 : Nat) : Int) from rfl, xor_u32 4294967295 n (by omega) h, Nat.xor_comm, SumMath.flip_xor h]

theorem take_snoc (l : List Nat) (k : Nat) (h : k < l.length) : l.take (k + 1) = l.take k ++ [l.getD k 0] := by
  rw [List.take_succ_eq_append_getElem h, List.getD_eq_getElem?_getD, List.getElem?_eq_getElem h]; rfl

theorem Bytes.at {w : World} {A : Option Addr} {l : List Nat} (h : Bytes w A l) {k : Nat} (hk : k < l.length) :
    ∃ b off, A = some ⟨b, off, none⟩ ∧ b < w.heap.size ∧ ∀ i, i < l.length → w.cell? ⟨b, off + i, none⟩ = some (.int .u8 ((l.getD i 0 : Nat) : Int)) := by
  rcases h.2 with rfl | h1
  · simp at hk
  · exact h1

set_option maxHeartbeats 400000 in
theorem more_any (s : Nat) (l : List Nat) (A : Option Addr) (cap : Nat) (w : World) (h : s < 4294967296) (hB : Bytes w A l) (hm : l.length ≤ 1000000) :
    Calls Try.prog 34 #[.int .u32 s, .slice A l.length cap] w fun e w' => e = .returned (.int .u32 (SumMath.more s l : Nat)) ∧ w = w' := by
  have hf := flip_u32 s h
  have hs : IntKind.u32.signed = false := rfl
  go_enter Try.func34, Try.ntmps34
  go_wp2
  clear hf
  go_loop [5, 7, 12] (fun n _ i => ∃ k : Nat, k ≤ l.length ∧ i = .int .i64 k ∧ n = .int .u32 (SumMath.put (SumMath.flip s) (l.take k) : Nat)) (fun _ _ i => l.length - (intOf i).toNat)
  case atStart => exact ⟨0, by omega, rfl, rfl⟩
  case round =>
    obtain ⟨k, hk, rfl, rfl⟩ := hrel
    have hp := SumMath.put_lt (l.take k) (SumMath.flip_lt s) (fun c hc => hB.1 c (List.mem_of_mem_take hc))
    by_cases hlt : k < l.length
    · obtain ⟨b, off, rfl, hb, hcell⟩ := hB.at hlt
      have hc := hcell k hlt
      have hc2 := hB.byte k
      have H := hide (take_snoc l k hlt)
      clear hcell
      generalize l.getD k 0 = c at hc hc2 H
      generalize SumMath.flip s = t at hp H
      have hx : bits .xor .u32 ((SumMath.put t (l.take k) : Nat) : Int) (c : Int) = ((SumMath.put t (l.take k) ^^^ c : Nat) : Int) := xor_u32 _ _ hp (by omega)
      have hx2 := SumMath.xor_lt hp (show c < 4294967296 by omega)
      have H2 := hide (show SumMath.put t (l.take (k + 1)) = SumMath.steps 8 (SumMath.put t (l.take k) ^^^ c) by rw [H]; exact SumMath.put_snoc _ _ _)
      clear H
      go_wp2_with (go_at_call 36; refine (eight_any _ _ hx2).mono ?_; rintro e w' ⟨rfl, rfl⟩)
      go_round
      case rel => exact ⟨k + 1, by omega, by go_num, by rw [H2.out]⟩
      case measure => simp [intOf]; omega
    · obtain rfl : k = l.length := by omega
      rw [List.take_length] at hp
      have hf2 := flip_u32 _ hp
      have H := hide (show SumMath.more s l = SumMath.flip (SumMath.put (SumMath.flip s) l) from rfl)
      rw [List.take_length]
      go_wp2
      go_ret
      exact ⟨ret_int (by rw [H.out]), rfl⟩

/-- More, where the length is written otherwise -/
theorem more_at (l : List Nat) (s n : Nat) (A : Option Addr) (cap : Nat) (w : World) (h : s < 4294967296) (hn : l.length = n) (hB : Bytes w A l) (hm : n ≤ 1000000) :
    Calls Try.prog 34 #[.int .u32 s, .slice A n cap] w fun e w' => e = .returned (.int .u32 (SumMath.more s l : Nat)) ∧ w = w' := by
  subst hn; exact more_any s l A cap w h hB hm

set_option maxHeartbeats 400000 in
theorem sum_at (l : List Nat) (n : Nat) (A : Option Addr) (cap : Nat) (w : World) (hn : l.length = n) (hB : Bytes w A l) (hm : n ≤ 1000000) :
    Calls Try.prog 26 #[.slice A n cap] w fun e w' => e = .returned (.int .u32 (SumMath.more 0 l : Nat)) ∧ w = w' := by
  have H := hide hn; clear hn
  go_enter Try.func26, Try.ntmps26
  go_wp2_with (go_at_call 34; refine (more_at l 0 _ _ _ _ (by omega) H hB hm).mono ?_; rintro e w' ⟨rfl, rfl⟩)
  go_ret
  exact ⟨rfl, rfl⟩

theorem Bytes.empty (w : World) (A : Option Addr) : Bytes w A [] := ⟨by simp, .inl rfl⟩
theorem Bytes.of_below {w w' : World} {A : Option Addr} {l : List Nat} {B : Nat} (h : Bytes w A l) (hb : Below B w w') (hB : w.heap.size ≤ B) : Bytes w' A l := by
  refine ⟨h.1, ?_⟩
  rcases h.2 with rfl | ⟨b, off, rfl, hlt, hc⟩
  · exact .inl rfl
  · refine .inr ⟨b, off, rfl, ?_, fun i hi => ?_⟩
    · have := hb.size; omega
    · rw [hb.cell (p := ⟨b, off + i, none⟩) (by show b < B; omega)]; exact hc i hi

theorem Bytes.later {w w' : World} {A : Option Addr} {l : List Nat} (h : Bytes w A l) (hb : Below w.heap.size w w') (o : Obj) : Bytes (w'.alloc o) A l :=
  h.of_below (hb.alloc hb.size o) (Nat.le_refl _)

/-- a block of bytes that was just made -/
theorem Bytes.new (w : World) (l : List Nat) (hl : ∀ c ∈ l, c < 256) (b : Nat) (hb : w.heap.size = b) (cs : Array Value) (t : TypeId) (m : Nat × Nat) (hcs : cs = (l.map fun c : Nat => Value.int .u8 (c : Int)).toArray) :
    Bytes (w.alloc (.cells cs t m)) (some ⟨b, 0, none⟩) l := by
  subst hb
  refine ⟨hl, .inr ⟨_, 0, rfl, by simp, fun i hi => ?_⟩⟩
  rw [cell_of_row _ w.heap.size (0 + i) cs t m (heap_alloc_new w _), hcs]
  simp [List.getElem?_eq_getElem hi]

theorem conv_bytes (w : World) (b : Nat) (C : Array Value) (n c : Nat) (hb : w.heap.size = b) :
    (convert 28 28 (.slice (some ⟨b, 0, none⟩) n c)).run Try.prog (w.alloc (.cells C 5)) = .ok (.slice (some ⟨b, 0, none⟩) n c) (w.alloc (.cells C 5 (C.size, C.size + 1))) := by
  subst hb
  exact Lib.run_convert_bytes_const (P := Try.prog) w 28 5 C n c Try.underlying28 Try.underlying5

theorem Bytes.take {w : World} {A : Option Addr} {l : List Nat} (h : Bytes w A l) (i : Nat) : Bytes w A (l.take i) := by
  refine ⟨fun c hc => h.1 c (List.mem_of_mem_take hc), ?_⟩
  rcases h.2 with rfl | ⟨b, off, rfl, hlt, hc⟩
  · exact .inl (by simp)
  · refine .inr ⟨b, off, rfl, hlt, fun j hj => ?_⟩
    rw [List.length_take] at hj
    rw [hc j (by omega)]
    simp [List.getD_eq_getElem?_getD, show j < i by omega]
theorem Bytes.drop {w : World} {A : Option Addr} {l : List Nat} (h : Bytes w A l) (i cap : Nat) (hc : l.length ≤ cap) : Bytes w (if cap = i then A else A.map (·.add i)) (l.drop i) := by
  refine ⟨fun c hc => h.1 c (List.mem_of_mem_drop hc), ?_⟩
  rcases h.2 with rfl | ⟨b, off, rfl, hlt, hcell⟩
  · exact .inl (by simp)
  · rcases Nat.lt_or_ge i l.length with hi | hi
    · rw [if_neg (by omega)]
      refine .inr ⟨b, off + i, by simp [Addr.add], hlt, fun j hj => ?_⟩
      rw [List.length_drop] at hj
      rw [show off + i + j = off + (i + j) by omega, hcell (i + j) (by omega)]
      simp [List.getD_eq_getElem?_getD]
    · exact .inl (List.drop_of_length_le hi)
theorem Bytes.drewN {w : World} {A : Option Addr} {l : List Nat} (h : Bytes w A l) (m : Nat) : Bytes (w.drewN m) A l := h

/-- a block of the call's own: n bytes, by their number -/
def Row (w : World) (b n : Nat) (f : Nat → Nat) : Prop :=
  b < w.heap.size ∧ ∀ t, t < n → w.cell? ⟨b, t, none⟩ = some (.int .u8 ((f t : Nat) : Int)) ∧ w.frozen? ⟨b, t, none⟩ = false
theorem Row.drew {w : World} {b n : Nat} {f : Nat → Nat} (h : Row w b n f) : Row w.drew b n f := h
theorem Row.drewN {w : World} {b n : Nat} {f : Nat → Nat} (h : Row w b n f) (m : Nat) : Row (w.drewN m) b n f := h
theorem Row.below {w w' : World} {b n B : Nat} {f : Nat → Nat} (h : Row w b n f) (hb : Below B w w') (hB : b < B) : Row w' b n f :=
  ⟨by have := hb.size; have := h.1; omega, fun t ht => by
    have h1 := h.2 t ht
    exact ⟨(hb.cell (p := ⟨b, t, none⟩) hB).trans h1.1, (hb.frozen (p := ⟨b, t, none⟩) hB).trans h1.2⟩⟩
theorem Row.store {w : World} {b n : Nat} {f g : Nat → Nat} (h : Row w b n f) (k v : Nat) (hg : ∀ t, t < n → g t = if t = k then v else f t) : Row (w.setCell ⟨b, k, none⟩ (.int .u8 (v : Int))) b n g := by
  refine ⟨by simpa [World.setCell] using h.1, fun t ht => ⟨?_, by rw [World.frozen?_setCell]; exact (h.2 t ht).2⟩⟩
  rw [hg t ht]
  by_cases e : t = k
  · subst e
    rw [if_pos rfl]
    exact World.cell?_setCell_same _ _ _ (h.2 t ht).1
  · rw [if_neg e, World.cell?_setCell_other]
    · exact (h.2 t ht).1
    · intro h1; injection h1 with _ h2; exact e h2.symm
theorem Row.bytes {w : World} {b n : Nat} {f : Nat → Nat} (h : Row w b n f) (hf : ∀ t, t < n → f t < 256) : Bytes w (some ⟨b, 0, none⟩) ((List.range n).map f) := by
  refine ⟨fun c hc => ?_, .inr ⟨b, 0, rfl, h.1, fun i hi => ?_⟩⟩
  · simp at hc; obtain ⟨t, ht, rfl⟩ := hc; exact hf t ht
  · simp at hi
    rw [Nat.zero_add, (h.2 i hi).1]
    simp [List.getD_eq_getElem?_getD, hi]

theorem info_u8 : (Try.prog.info? 5).map (fun i => (i.zero, i.size, i.bytes)) = some (some (.int .u8 0), 1, 1) := by kernel_rfl
/-- n zero bytes -/
def zrow (n : Nat) : Array Value := madeCells (Value.int .u8 0).cells n
theorem zrow_get {n t : Nat} (h : t < n) : (zrow n)[t]? = some (.int .u8 0) := by
  simp [zrow, madeCells, Value.cells, h, Nat.mod_one]
theorem make_bytes (n : Nat) (hn : n ≤ 1000000) (W : World) :
    (Instr.makeSlice 28 (.int .i64 (n : Int)) (.int .i64 (n : Int))).run Try.prog W = .ok (.slice (some ⟨W.heap.size, 0, none⟩) n n) (W.alloc (.cells (zrow n) 5)) := by
  obtain ⟨i, hi, hz, hs, hb⟩ := info_parts info_u8
  have hr := run_make (P := Try.prog) W 28 5 i _ Try.underlying28 hi hz .i64 .i64 n n (by omega) (by omega) (by rw [hb]; omega) (by omega)
  simp only [Int.toNat_natCast, hs, Nat.mul_one] at hr
  exact hr
theorem Row.made (W : World) (n : Nat) (t : TypeId) : Row (W.alloc (.cells (zrow n) t)) W.heap.size n (fun _ => 0) := by
  refine ⟨by simp, fun k hk => ⟨?_, ?_⟩⟩
  · rw [cell_of_row _ W.heap.size k (zrow n) t (0, 0) (heap_alloc_new W _), zrow_get hk]; rfl
  · have := heap_alloc_new W (.cells (zrow n) t)
    unfold World.frozen?
    rw [this]
    simp

theorem more_a : SumMath.more 0 [97] = 3904355907 := by decide +kernel
theorem more_9 : SumMath.more 0 [49, 50, 51, 52, 53, 54, 55, 56, 57] = 3421780262 := by decide +kernel

/-- More, of known bytes -/
theorem more_is (l : List Nat) (v : Int) (s n : Nat) (A : Option Addr) (cap : Nat) (w : World) (hv : ((SumMath.more s l : Nat) : Int) = v) (h : s < 4294967296) (hn : l.length = n) (hB : Bytes w A l) (hm : l.length ≤ 1000000) :
    Calls Try.prog 34 #[.int .u32 s, .slice A n cap] w fun e w' => e = .returned (.int .u32 v) ∧ w = w' := by
  subst hv; exact more_at l s n A cap w h hn hB (by omega)

/-- Sum of known bytes -/
theorem sum_is (l : List Nat) (v : Int) (n : Nat) (A : Option Addr) (cap : Nat) (w : World) (hv : ((SumMath.more 0 l : Nat) : Int) = v) (hn : l.length = n) (hB : Bytes w A l) (hm : l.length ≤ 1000000) :
    Calls Try.prog 26 #[.slice A n cap] w fun e w' => e = .returned (.int .u32 v) ∧ w = w' := by
  subst hv; exact sum_at l n A cap w hn hB (by omega)

theorem sum_q (l : List Nat) (n : Nat) (A : Option Addr) (cap : Nat) (w : World) (m : Nat) (hn : l.length = n) (hB : Bytes w A l) (hm : n ≤ 1000000) :
    Calls Try.prog 26 #[.slice A n cap] (w.drewN m) fun e w' => e = .returned (.int .u32 (SumMath.more 0 l : Nat)) ∧ ∃ k, w' = w.drewN k :=
  Calls.quiet_of_same ((sum_at l n A cap (w.drewN m) hn (hB.drewN m) hm).mono fun _ _ ⟨he, hw⟩ => ⟨he, hw.symm⟩)
theorem more_q (l : List Nat) (s n : Nat) (A : Option Addr) (cap : Nat) (w : World) (m : Nat) (h : s < 4294967296) (hn : l.length = n) (hB : Bytes w A l) (hm : n ≤ 1000000) :
    Calls Try.prog 34 #[.int .u32 s, .slice A n cap] (w.drewN m) fun e w' => e = .returned (.int .u32 (SumMath.more s l : Nat)) ∧ ∃ k, w' = w.drewN k :=
  Calls.quiet_of_same ((more_at l s n A cap (w.drewN m) h hn (hB.drewN m) hm).mono fun _ _ ⟨he, hw⟩ => ⟨he, hw.symm⟩)

end Go.Proofs.Ytihldmcakcobaaa
