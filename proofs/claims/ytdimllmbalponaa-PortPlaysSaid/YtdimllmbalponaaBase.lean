/-
  What hangs on no program: bytes, rows, slices of a call's own, regions that draw (laid by tools/extract.py out of s01's and s03's texts).
-/
import Derived.Test.YtdimllmbalponaaRows
import Derived.Test.YtdimllmbalponaaMath
import Derived.WalkKit
import Derived.WalkSpells
import Derived.WalkLawsBesides
import Derived.Lib.SlBytesConst
import Derived.Deep.QuietTactic
import Derived.BigQuiet
import Derived.OpenShut
import Derived.Deep.RegionHeld
import Derived.Maps.AppendAt
import Derived.Deep.WholeRow
import Derived.RangeFuncNested
import Derived.RangeFuncBound
import Derived.RangeFuncCalls
import Derived.RangeFuncLeaves
import Derived.RangeFuncBox
import Derived.Shelf.Abstract
import Derived.Shelf.RegionOpen
import Derived.OwnWalkIn
import Derived.TacticsInMore
import Derived.LoopNIn
import Derived.LoopIn
import Derived.Laws.StructEq
import Derived.Stop.BytesEq
import Derived.Laws.BytesArg
import Derived.BigRegion
import Derived.Laws.AppendOwn
import Derived.Orders
import Derived.RegionTactic
import Derived.ControlIn
namespace Go.Proofs.Ytdimllmbalponaa
open Go.RowKit Go.Shelf Go.ChangeShapes Go.WideShapes
set_option linter.unusedVariables false

theorem ret_int {k : IntKind} {a b : Int} (h : a = b) : Ending.returned (.int k a) = .returned (.int k b) := by rw [h]
theorem ret_true {b : Bool} (h : b = true) : Ending.returned (.bool b) = .returned (.bool true) := by rw [h]
theorem below_drewN {B : Nat} {a w : World} (h : Below B a w) (n : Nat) : Below B a (w.drewN n) := ⟨h.os, h.tape, h.output, h.size, h.block⟩
theorem hide {p : Prop} (h : p) : Hid p := h
/-- a slice of bytes that can be read: each is below 256, and lies where it should -/
def Bytes (w : World) (A : Option Addr) (l : List Nat) : Prop :=
  (∀ c ∈ l, c < 256) ∧ (l = [] ∨ ∃ b off, A = some ⟨b, off, none⟩ ∧ b < w.heap.size ∧ ∀ i, i < l.length → w.cell? ⟨b, off + i, none⟩ = some (.int .u8 ((l.getD i 0 : Nat) : Int)))
theorem Bytes.byte {w : World} {A : Option Addr} {l : List Nat} (h : Bytes w A l) (i : Nat) : l.getD i 0 < 256 := by
  rcases Nat.lt_or_ge i l.length with hi | hi
  · rw [List.getD_eq_getElem?_getD, List.getElem?_eq_getElem hi]
    exact h.1 _ (List.getElem_mem hi)
  · rw [List.getD_eq_getElem?_getD, List.getElem?_eq_none hi]; decide
theorem take_snoc (l : List Nat) (k : Nat) (h : k < l.length) : l.take (k + 1) = l.take k ++ [l.getD k 0] := by
  rw [List.take_succ_eq_append_getElem h, List.getD_eq_getElem?_getD, List.getElem?_eq_getElem h]; rfl
theorem Bytes.at {w : World} {A : Option Addr} {l : List Nat} (h : Bytes w A l) {k : Nat} (hk : k < l.length) :
    ∃ b off, A = some ⟨b, off, none⟩ ∧ b < w.heap.size ∧ ∀ i, i < l.length → w.cell? ⟨b, off + i, none⟩ = some (.int .u8 ((l.getD i 0 : Nat) : Int)) := by
  rcases h.2 with rfl | h1
  · simp at hk
  · exact h1
theorem Bytes.empty (w : World) (A : Option Addr) : Bytes w A [] := ⟨by simp, .inl rfl⟩
theorem Bytes.of_below {w w' : World} {A : Option Addr} {l : List Nat} {B : Nat} (h : Bytes w A l) (hb : Below B w w') (hB : w.heap.size ≤ B) : Bytes w' A l := by
  refine ⟨h.1, ?_⟩
  rcases h.2 with rfl | ⟨b, off, rfl, hlt, hc⟩
  · exact .inl rfl
  · refine .inr ⟨b, off, rfl, ?_, fun i hi => ?_⟩
    · have := hb.size; omega
    · rw [hb.cell (p := ⟨b, off + i, none⟩) (by show b < B; omega)]; exact hc i hi
theorem Bytes.later {w w' : World} {A : Option Addr} {l : List Nat} (h : Bytes w A l) (hb : Below w.heap.size w w') (o : Obj) : Bytes (w'.alloc o) A l :=
  h.of_below (hb.alloc hb.size o) (Nat.le_refl _)
/-- a block of bytes that was just made -/
theorem Bytes.new (w : World) (l : List Nat) (hl : ∀ c ∈ l, c < 256) (b : Nat) (hb : w.heap.size = b) (cs : Array Value) (t : TypeId) (m : Nat × Nat) (hcs : cs = (l.map fun c : Nat => Value.int .u8 (c : Int)).toArray) :
    Bytes (w.alloc (.cells cs t m)) (some ⟨b, 0, none⟩) l := by
  subst hb
  refine ⟨hl, .inr ⟨_, 0, rfl, by simp, fun i hi => ?_⟩⟩
  rw [cell_of_row _ w.heap.size (0 + i) cs t m (heap_alloc_new w _), hcs]
  simp [List.getElem?_eq_getElem hi]
theorem conv_bytes (w : World) (b : Nat) (C : Array Value) (n c : Nat) (hb : w.heap.size = b) :
    (convert 37 37 (.slice (some ⟨b, 0, none⟩) n c)).run Try.prog (w.alloc (.cells C 5)) = .ok (.slice (some ⟨b, 0, none⟩) n c) (w.alloc (.cells C 5 (C.size, C.size + 1))) := by
  subst hb
  exact Lib.run_convert_bytes_const (P := Try.prog) w 37 5 C n c Try.underlying37 Try.underlying5
theorem Bytes.take {w : World} {A : Option Addr} {l : List Nat} (h : Bytes w A l) (i : Nat) : Bytes w A (l.take i) := by
  refine ⟨fun c hc => h.1 c (List.mem_of_mem_take hc), ?_⟩
  rcases h.2 with rfl | ⟨b, off, rfl, hlt, hc⟩
  · exact .inl (by simp)
  · refine .inr ⟨b, off, rfl, hlt, fun j hj => ?_⟩
    rw [List.length_take] at hj
    rw [hc j (by omega)]
    simp [List.getD_eq_getElem?_getD, show j < i by omega]
theorem Bytes.drop {w : World} {A : Option Addr} {l : List Nat} (h : Bytes w A l) (i cap : Nat) (hc : l.length ≤ cap) : Bytes w (if cap = i then A else A.map (·.add i)) (l.drop i) := by
  refine ⟨fun c hc => h.1 c (List.mem_of_mem_drop hc), ?_⟩
  rcases h.2 with rfl | ⟨b, off, rfl, hlt, hcell⟩
  · exact .inl (by simp)
  · rcases Nat.lt_or_ge i l.length with hi | hi
    · rw [if_neg (by omega)]
      refine .inr ⟨b, off + i, by simp [Addr.add], hlt, fun j hj => ?_⟩
      rw [List.length_drop] at hj
      rw [show off + i + j = off + (i + j) by omega, hcell (i + j) (by omega)]
      simp [List.getD_eq_getElem?_getD]
    · exact .inl (List.drop_of_length_le hi)
theorem Bytes.drewN {w : World} {A : Option Addr} {l : List Nat} (h : Bytes w A l) (m : Nat) : Bytes (w.drewN m) A l := h
/-- a block of the call's own: n bytes, by their number -/
def Row (w : World) (b n : Nat) (f : Nat → Nat) : Prop :=
  b < w.heap.size ∧ ∀ t, t < n → w.cell? ⟨b, t, none⟩ = some (.int .u8 ((f t : Nat) : Int)) ∧ w.frozen? ⟨b, t, none⟩ = false
theorem Row.drew {w : World} {b n : Nat} {f : Nat → Nat} (h : Row w b n f) : Row w.drew b n f := h
theorem Row.drewN {w : World} {b n : Nat} {f : Nat → Nat} (h : Row w b n f) (m : Nat) : Row (w.drewN m) b n f := h
theorem Row.below {w w' : World} {b n B : Nat} {f : Nat → Nat} (h : Row w b n f) (hb : Below B w w') (hB : b < B) : Row w' b n f :=
  ⟨by have := hb.size; have := h.1; omega, fun t ht => by
    have h1 := h.2 t ht
    exact ⟨(hb.cell (p := ⟨b, t, none⟩) hB).trans h1.1, (hb.frozen (p := ⟨b, t, none⟩) hB).trans h1.2⟩⟩
theorem Row.store {w : World} {b n : Nat} {f g : Nat → Nat} (h : Row w b n f) (k v : Nat) (hg : ∀ t, t < n → g t = if t = k then v else f t) : Row (w.setCell ⟨b, k, none⟩ (.int .u8 (v : Int))) b n g := by
  refine ⟨by simpa [World.setCell] using h.1, fun t ht => ⟨?_, by rw [World.frozen?_setCell]; exact (h.2 t ht).2⟩⟩
  rw [hg t ht]
  by_cases e : t = k
  · subst e
    rw [if_pos rfl]
    exact World.cell?_setCell_same _ _ _ (h.2 t ht).1
  · rw [if_neg e, World.cell?_setCell_other]
    · exact (h.2 t ht).1
    · intro h1; injection h1 with _ h2; exact e h2.symm
theorem Row.bytes {w : World} {b n : Nat} {f : Nat → Nat} (h : Row w b n f) (hf : ∀ t, t < n → f t < 256) : Bytes w (some ⟨b, 0, none⟩) ((List.range n).map f) := by
  refine ⟨fun c hc => ?_, .inr ⟨b, 0, rfl, h.1, fun i hi => ?_⟩⟩
  · simp at hc; obtain ⟨t, ht, rfl⟩ := hc; exact hf t ht
  · simp at hi
    rw [Nat.zero_add, (h.2 i hi).1]
    simp [List.getD_eq_getElem?_getD, hi]
theorem info_u8 : (Try.prog.info? 5).map (fun i => (i.zero, i.size, i.bytes)) = some (some (.int .u8 0), 1, 1) := by kernel_rfl
/-- n zero bytes -/
def zrow (n : Nat) : Array Value := madeCells (Value.int .u8 0).cells n
theorem zrow_get {n t : Nat} (h : t < n) : (zrow n)[t]? = some (.int .u8 0) := by
  simp [zrow, madeCells, Value.cells, h, Nat.mod_one]
theorem make_bytes (n : Nat) (hn : n ≤ 1000000) (W : World) :
    (Instr.makeSlice 37 (.int .i64 (n : Int)) (.int .i64 (n : Int))).run Try.prog W = .ok (.slice (some ⟨W.heap.size, 0, none⟩) n n) (W.alloc (.cells (zrow n) 5)) := by
  obtain ⟨i, hi, hz, hs, hb⟩ := info_parts info_u8
  have hr := run_make (P := Try.prog) W 37 5 i _ Try.underlying37 hi hz .i64 .i64 n n (by omega) (by omega) (by rw [hb]; omega) (by omega)
  simp only [Int.toNat_natCast, hs, Nat.mul_one] at hr
  exact hr
theorem Row.made (W : World) (n : Nat) (t : TypeId) : Row (W.alloc (.cells (zrow n) t)) W.heap.size n (fun _ => 0) := by
  refine ⟨by simp, fun k hk => ⟨?_, ?_⟩⟩
  · rw [cell_of_row _ W.heap.size k (zrow n) t (0, 0) (heap_alloc_new W _), zrow_get hk]; rfl
  · have := heap_alloc_new W (.cells (zrow n) t)
    unfold World.frozen?
    rw [this]
    simp
theorem row_bytes {w : World} {a : Option Addr} {len cap : Nat} {zs : List Int}
    (h : (a = none ∧ len = 0 ∧ cap = 0 ∧ zs = []) ∨
      ∃ x, a = some x ∧ len ≤ cap ∧ cap ≤ maxLen ∧ zs.length = cap ∧ (∀ i, i < zs.length → w.cell? (x.add i) = some (.int .u8 (zs.getD i 0))) ∧ ∀ n ∈ zs, (Lit.int .u8 n).wf = true) :
    ∃ l : List Nat, l.length = len ∧ len ≤ cap ∧ cap ≤ maxLen ∧ Bytes w a l := by
  rcases h with ⟨rfl, rfl, rfl, rfl⟩ | ⟨x, rfl, hl, hm, hz, hcell, hwz⟩
  · exact ⟨[], rfl, Nat.le_refl _, Nat.zero_le _, Bytes.empty _ _⟩
  · have hb : ∀ n ∈ zs, 0 ≤ n ∧ n ≤ 255 := fun n hn => bounds_u8 (hwz n hn)
    refine ⟨(zs.take len).map Int.toNat, by simp; omega, hl, hm, ?_, ?_⟩
    · intro c hc
      simp only [List.mem_map] at hc
      obtain ⟨n, hn, rfl⟩ := hc
      have := hb n (List.mem_of_mem_take hn)
      omega
    · rcases Nat.eq_zero_or_pos len with h0 | h0
      · subst h0; exact .inl rfl
      · have h1 := hcell 0 (by omega)
        obtain ⟨b, off, spot⟩ := x
        have hspot : spot = none := by simpa [Addr.add] using World.cell?_spot h1
        subst hspot
        refine .inr ⟨b, off, rfl, World.block_lt_of_cell? w _ h1, fun i hi => ?_⟩
        simp at hi
        have h2 := hcell i (by omega)
        have h3 : zs[i]? = some zs[i] := List.getElem?_eq_getElem (by omega)
        have h4 := hb zs[i] (List.getElem_mem _)
        rw [show (⟨b, off + i, none⟩ : Addr) = (⟨b, off, none⟩ : Addr).add i by unfold Addr.add; split <;> simp_all, h2]
        have h5 : i < len := by omega
        simp [List.getD_eq_getElem?_getD, h5, h3]
        omega
theorem u32_nat {a : Int} (h : (Lit.int .u32 a).wf = true) : ∃ n : Nat, a = (n : Int) ∧ n < 4294967296 := by
  have := bounds_u32 h
  exact ⟨a.toNat, by omega, by omega⟩
theorem u8_nat {a : Int} (h : (Lit.int .u8 a).wf = true) : ∃ n : Nat, a = (n : Int) ∧ n < 256 := by
  have := bounds_u8 h
  exact ⟨a.toNat, by omega, by omega⟩
theorem u16_nat {a : Int} (h : (Lit.int .u16 a).wf = true) : ∃ n : Nat, a = (n : Int) ∧ n < 65536 := by
  have := bounds_u16 h
  exact ⟨a.toNat, by omega, by omega⟩
namespace SumMath
theorem set_lt (l : List Nat) (q v : Nat) (hv : v < 256) (hl : ∀ c ∈ l, c < 256) : ∀ c ∈ l.set q v, c < 256 := by
  intro c hc
  rcases List.mem_or_eq_of_mem_set hc with h | h
  · exact hl c h
  · rw [h]; exact hv
end SumMath
theorem append_nil_run (w : World) (g c : Nat) (cs : Array Value) (hg : w.heap[g]? = some (.cells cs 5 (0, 0))) (ty : TypeId) :
    (Builtin.append_ #[37, 37] ty #[.slice (some ⟨g, 0, none⟩) 0 0, .slice none 0 c]).run Try.prog w = .ok (.slice (some ⟨g, 0, none⟩) 0 0) w := by
  obtain ⟨i, hi, hz, hs, hb⟩ := info_parts info_u8
  simp [Builtin.append_, run_underlying Try.underlying37, sizeOf, typeInfo, hi, Builtin.lenOf, Builtin.firstCells, storeCells]
theorem wpList_copyc {ops : Array Oper} {rest : List Oper} {o : Oper} {a : Act} {Q : Exit → Act → World → Prop} (w : World) (hgd : o.guard = none) (s x : Operand)
    (ho : o.op = .call { callee := .builtin .append, args := #[s, x], argTypes := #[37, 37] })
    (g : Nat) (hs : a.eval s = .slice (some ⟨g, 0, none⟩) 0 0) (hg : w.heap[g]? = some (.cells #[] 5 (0, 0)))
    (A : Option Addr) (n c : Nat) (l : List Nat) (hx : a.eval x = .slice A n c) (hB : Bytes w A l) (hn : l.length = n) (hm : n ≤ 1000000)
    (h : ∀ g' c' w' cur, n ≤ c' → c' ≤ maxLen → g ≤ g' → w'.heap[g']? = some (.cells cur 5 (0, 0)) → cur.size = c' → Row w' g' n (fun t => l.getD t 0) → Below g w w' → wpList Try.prog ops Q rest (a.put o.dst (.slice (some ⟨g', 0, none⟩) n c')) w') :
    wpList Try.prog ops Q (o :: rest) a w := by
  have hgl : g < w.heap.size := by
    rcases Nat.lt_or_ge g w.heap.size with h1 | h1
    · exact h1
    · rw [Array.getElem?_eq_none h1] at hg; cases hg
  rcases A with _ | ad
  · have hl : l = [] := by
      rcases hB.2 with h1 | ⟨b, off, h1, _⟩
      · exact h1
      · cases h1
    subst hl
    obtain rfl : n = 0 := hn.symm
    refine wpList_plain hgd fun K hK => ?_
    have hrun := append_nil_run w g c #[] hg o.type
    unfold Oper.wp
    simp [execOp, ho, resolve, invoke, builtin, hs, hx, hrun, Result.andThen]
    exact hK _ _ (h g 0 w #[] (Nat.le_refl _) (Nat.zero_le _) (Nat.le_refl _) hg rfl ⟨hgl, fun t ht => absurd ht (Nat.not_lt_zero _)⟩ (Below.refl _ _))
  · obtain ⟨i, hi, hz, hs1, hb⟩ := info_parts info_u8
    have hown : w.ownsRow g 5 1 (.slice (some ⟨g, 0, none⟩) 0 0) 0 [] := ⟨rfl, .inr ⟨g, 0, #[], rfl, Nat.le_refl _, hg, Nat.le_refl _, Nat.zero_le _, rfl, rfl⟩⟩
    refine wpList_append_own w hgd s x _ ho g 5 i (.int .u8 0) 1 1 Try.underlying37 hi hz hs1 hb rfl (by omega) _ 0 [] hs hown ad n c (l.map fun u : Nat => Value.int .u8 (u : Int)) hx (by simp; exact hn) ?_ ?_ (by simp only [maxLen]; omega) (by omega) (Nat.le_of_lt hgl) ?_
    · intro j u hu
      rw [List.getElem?_map] at hu
      obtain ⟨e, he, rfl⟩ := Option.map_eq_some_iff.1 hu
      have hj : j < l.length := by
        rcases Nat.lt_or_ge j l.length with h1 | h1
        · exact h1
        · rw [List.getElem?_eq_none h1] at he; cases he
      obtain ⟨b, off, h1, _, hc⟩ := hB.at hj
      injection h1 with h1
      subst h1
      have h2 := hc j hj
      rw [List.getD_eq_getElem?_getD, he] at h2
      rw [show (⟨b, off, none⟩ : Addr).add j = ⟨b, off + j, none⟩ by unfold Addr.add; split <;> simp_all]
      exact h2
    · intro u hu
      obtain ⟨e, _, rfl⟩ := List.mem_map.1 hu
      rfl
    · intro v' w' hown' hgrow hnil
      rw [Nat.zero_add, List.nil_append] at hown'
      have hbel : Below g w w' := (Below.refl _ _).grown hgrow (Nat.le_of_lt hgl) (by simp [Value.ownBlock])
      rcases hown'.2 with ⟨rfl, _⟩ | ⟨g', cap, cur, rfl, hgg, hheap, hncap, hcapm, hcs, htake⟩
      · exact absurd (hnil.1 rfl).1 (by simp)
      · refine h g' cap w' cur hncap hcapm hgg hheap (by simpa using hcs) ⟨?_, fun t ht => ⟨?_, ?_⟩⟩ hbel
        · rcases Nat.lt_or_ge g' w'.heap.size with h1 | h1
          · exact h1
          · rw [Array.getElem?_eq_none h1] at hheap; cases hheap
        · show _ = some (Value.int .u8 ((l.getD t 0 : Nat) : Int))
          rw [hown'.cellAt t (by omega), List.getElem?_map, List.getD_eq_getElem?_getD, List.getElem?_eq_getElem (by omega)]
          rfl
        · exact hown'.frozenAt t
theorem wpList_copy {ops : Array Oper} {rest : List Oper} {o : Oper} {a : Act} {Q : Exit → Act → World → Prop} (w : World) (hgd : o.guard = none) (s x : Operand)
    (ho : o.op = .call { callee := .builtin .append, args := #[s, x], argTypes := #[37, 37] })
    (g : Nat) (hs : a.eval s = .slice (some ⟨g, 0, none⟩) 0 0) (hg : w.heap[g]? = some (.cells #[] 5 (0, 0)))
    (A : Option Addr) (n c : Nat) (l : List Nat) (hx : a.eval x = .slice A n c) (hB : Bytes w A l) (hn : l.length = n) (hm : n ≤ 1000000)
    (h : ∀ g' c' w', n ≤ c' → c' ≤ maxLen → g ≤ g' → Row w' g' n (fun t => l.getD t 0) → Below g w w' → wpList Try.prog ops Q rest (a.put o.dst (.slice (some ⟨g', 0, none⟩) n c')) w') :
    wpList Try.prog ops Q (o :: rest) a w := wpList_copyc w hgd s x ho g hs hg A n c l hx hB hn hm fun g' c' w' _ h1 h2 h3 _ _ h4 h5 => h g' c' w' h1 h2 h3 h4 h5
/-- bytes as cells -/
def bys (l : List Nat) : Array Value := (l.map fun c : Nat => Value.int .u8 (c : Int)).toArray
theorem bys_size (l : List Nat) : (bys l).size = l.length := by simp [bys]
/-- a state's bytes -/
def st (z m : Int) : List Nat := [(z / 16777216 % 256).toNat, (z / 65536 % 256).toNat, (z / 256 % 256).toNat, (z % 256).toNat, (m / 256).toNat, (m % 256).toNat]
theorem bcl {B b o : Nat} {w w' : World} (h : Below B w w') (hb : b < B) : w'.cell? ⟨b, o, none⟩ = w.cell? ⟨b, o, none⟩ := h.cell (p := ⟨b, o, none⟩) hb
theorem bal (w : World) (o : Obj) : Below w.heap.size w (w.alloc o) := (Below.refl _ w).alloc (Nat.le_refl _) o
/-- What a body that holds a range over a function, and never panics, must achieve: as the kit's own, but blind to the slots at a panic's exit, as a region that draws wants it. -/
def postM (fn : Func) (R : Ending → World → Prop) : Exit → Act → World → Prop
  | .normal, a, w | .ret, a, w => LeavesInM Fence.wide 2 Try.prog fn a.tmps R a.defers .returning w
  | .outgrown, _, w => R .outgrown w
  | _, _, _ => False
/-- A contract from a body that holds a range over a function. -/
theorem calls_of_wp_marks {f : FuncId} {fn : Func} {c : Code} {args : Array Value} {w : World} {R : Ending → World → Prop}
    (hf : Try.prog.funcs[f]? = some fn) (hb : fn.body = some c)
    (h : c.wp Try.prog (postM fn R) { tmps := args ++ Array.replicate (fn.ntmps - args.size) undef, defers := [] } w) : Calls Try.prog f args w R :=
  callsIn_wide.1 (callsIn_of_wp_marks hf hb trivial (wpIn_mono ((wpIn_wide (n := 2)).2 h) (fun e a w h => by
    cases e with
    | normal => exact h
    | ret => exact h
    | outgrown => exact h
    | panic c => exact h.elim
    | exit id => exact h
    | goto t => exact h)))
/-- The way out of a body that held a range over a function. -/
theorem marks_done {fn : Func} {tmps : Array Value} {W : World} {v : Value} {D : Nat} {R : Ending → World → Prop} (hK : W.heap[D]? = some (.deferred (some [])))
    (hr : (results fn tmps).run Try.prog (W.putObj D (.deferred none)) = .ok v (W.putObj D (.deferred none))) (h : R (.returned v) (W.putObj D (.deferred none))) :
    postM fn R .ret { tmps := tmps, defers := [{ target := .collected D, args := #[] }] } W := by
  refine ⟨by simp, .inl ⟨_, _, rfl, run_takeDeferred hK, ?_⟩⟩
  exact ⟨_, hr, h⟩
theorem below_put {B D : Nat} {w W : World} (h : Below B w W) (hD : B ≤ D) (hK : W.heap[D]? = some (.deferred (some []))) (o : Obj) : Below B w (W.putObj D o) :=
  h.trans ((Below.refl B W).grown (grownBy_putObj' W D o) (by have := (Array.getElem?_eq_some_iff.1 hK).1; omega) (fun k e => by cases e; omega))
/-- a frame's bytes ahead of the sum -/
def enc0 (o s m : Int) (p : List Nat) : List Nat := (st s m ++ [o.toNat]) ++ p
/-- a frame's bytes -/
def enc (o s m : Int) (p : List Nat) : List Nat := enc0 o s m p ++ SumMath.four (SumMath.more 0 (enc0 o s m p))
theorem u8_inj {p q : List Nat} (h : ∀ c ∈ p, c < 256) (h' : ∀ c ∈ q, c < 256) : (p.map UInt8.ofNat == q.map UInt8.ofNat) = decide (p = q) := by
  rw [Bool.eq_iff_iff]
  simp only [beq_iff_eq, decide_eq_true_eq]
  constructor
  · intro e
    have e2 : (p.map UInt8.ofNat).map UInt8.toNat = (q.map UInt8.ofNat).map UInt8.toNat := by rw [e]
    have hid : ∀ l : List Nat, (∀ c ∈ l, c < 256) → (l.map UInt8.ofNat).map UInt8.toNat = l := by
      intro l hl
      rw [List.map_map]
      have : l.map (UInt8.toNat ∘ UInt8.ofNat) = l.map id := List.map_congr_left fun c hc => by
        have := hl c hc
        simp [Nat.mod_eq_of_lt this]
      rw [this, List.map_id]
    rw [hid p h, hid q h'] at e2
    exact e2
  · rintro rfl; rfl
/-- bytes as a string -/
def str (l : List Nat) : ByteArray := strOfNums (l.map fun c : Nat => (c : Int))
theorem str_of (w : World) (A : Option Addr) (n cap : Nat) (l : List Nat) (hB : Bytes w A l) (hn : l.length = n) :
    (convert 37 9 (.slice A n cap)).run Try.prog w = .ok (.string (str l)) w := by
  subst hn
  rcases hB.2 with rfl | ⟨b, off, rfl, _, hc⟩
  · show (convert 37 9 (.slice A 0 cap)).run Try.prog w = _
    rcases A with _ | ad
    · exact run_convert_bytes_nil (P := Try.prog) w 37 5 Try.underlying37 Try.underlying5 0 cap 9 Try.underlying9
    · rw [run_convert_bytes_string w 37 9 5 _ 0 cap Try.underlying37 Try.underlying5 Try.underlying9,
        run_bytesToString w ad 0 cap [] (by simp [loadCells, loadCellsFrom])]
      rfl
  · exact run_convert_bytes_arg (P := Try.prog) w 37 5 Try.underlying37 Try.underlying5 b off _ cap (l.map fun c : Nat => (c : Int)) (by simp) (fun i hi => by
      rw [hc i hi]
      simp [List.getD_eq_getElem?_getD, hi]) 9 Try.underlying9
theorem str_list (l : List Nat) : (str l).toList = l.map UInt8.ofNat := by
  unfold str strOfNums
  simp [ByteArray.toList_eq]
theorem str_eq {p q : List Nat} (h : ∀ c ∈ p, c < 256) (h' : ∀ c ∈ q, c < 256) : ((str p).toList == (str q).toList) = decide (p = q) := by
  rw [str_list, str_list, u8_inj h h']
theorem wpList_built {P : Program} {ops : Array Oper} {rest : List Oper} {o : Oper} {a : Act} {w : World} {Q : Exit → Act → World → Prop} (hg : o.guard = none) (t : TypeId) (parts : Array (Nat × Operand)) (ho : o.op = .build t parts)
    (cells : Array Value) (hb : P.built t (parts.map fun (i, x) => (i, a.eval x)).toList = some cells)
    (h : wpList P ops Q rest (a.put o.dst (.agg cells)) w) : wpList P ops Q (o :: rest) a w :=
  wpList_build hg t parts ho (by rw [hb]; rfl) (by rw [hb]; exact h)
section
variable {H : Type} {enc : TypeId × Value → H} {w : World} {base : Nat} {spare : Nat → Bool} {held : Bool}
/-- BYTES THAT CAME IN. -/
theorem bytes_of {fuel : Nat} {a : Option Addr} {len cap : Nat} {x : DataW H × List MemPlace} (h : DataW.trod enc Try.prog w 0 (fun _ => true) true fuel 37 [.slice a len cap] = some x) :
    ∃ l : List Nat, l.length = len ∧ len ≤ cap ∧ cap ≤ maxLen ∧ Bytes w a l := by
  rcases open_ints Try.underlying37 Try.underlying5 (by kernel_rfl) h with ⟨hcs, _⟩ | ⟨b, len', cap', zs, hcs, _, hl, hm, hz, _, hc, hwf⟩
  · simp at hcs
    exact row_bytes (.inl ⟨hcs.1, hcs.2.1, hcs.2.2, rfl⟩)
  · simp at hcs
    obtain ⟨rfl, rfl, rfl⟩ := hcs
    simp only [if_true] at hz
    exact row_bytes (.inr ⟨b, rfl, hl, hm, hz, hc, hwf⟩)
end
/-- bytes of the call's own: none at all, or a block from base on -/
def Mine (base : Nat) (W : World) (A : Option Addr) (n : Nat) (f : Nat → Nat) : Prop := n = 0 ∨ ∃ g, A = some ⟨g, 0, none⟩ ∧ base ≤ g ∧ Row W g n f
set_option maxHeartbeats 1000000 in
theorem clone_nil (w : World) : Calls Try.prog 41 #[.slice none 0 0] w fun e w' => e = .returned (.slice none 0 0) ∧ w = w' := by
  have hn := Lib.run_eql_slice_nil (P := Try.prog)
  go_enter Try.func41, Try.ntmps41
  go_wp2
  go_ret
  exact ⟨rfl, rfl⟩
/-- the whole block of such a slice -/
def Capd (base : Nat) (W : World) (A : Option Addr) (c : Nat) : Prop := ∃ g cur, A = some ⟨g, 0, none⟩ ∧ base ≤ g ∧ W.heap[g]? = some (.cells cur 5 (0, 0)) ∧ cur.size = c
theorem Capd.kept {base : Nat} {W W' : World} {A : Option Addr} {c : Nat} (h : Capd base W A c) (hb : ∀ g, A = some ⟨g, 0, none⟩ → W'.heap[g]? = W.heap[g]?) : Capd base W' A c := by
  obtain ⟨g, cur, hA, hg, hh, hs⟩ := h
  exact ⟨g, cur, hA, hg, (hb g hA).trans hh, hs⟩
theorem Capd.store {base : Nat} {W : World} {A : Option Addr} {c g t : Nat} {v : Value} (h : Capd base W A c) (hA : A = some ⟨g, 0, none⟩) : Capd base (W.setCell ⟨g, t, none⟩ v) A c := by
  obtain ⟨g', cur, hA', hg, hh, hs⟩ := h
  obtain rfl : g = g' := by rw [hA] at hA'; injection hA' with h1; injection h1
  refine ⟨g, cur.setIfInBounds t v, hA, hg, ?_, by simpa using hs⟩
  show (W.heap.modify g _)[g]? = _
  rw [Array.getElem?_modify, if_pos rfl, hh]
  rfl
set_option maxHeartbeats 1000000 in
theorem clone_cap (b : List Nat) (n : Nat) (ad : Addr) (cap : Nat) (w : World) (hn : b.length = n) (hm : n ≤ 1000000) (hB : Bytes w (some ad) b) :
    Calls Try.prog 41 #[.slice (some ad) n cap] w fun e w' => ∃ A c, e = .returned (.slice A n c) ∧ n ≤ c ∧ c ≤ maxLen ∧ Mine w.heap.size w' A n (fun t => b.getD t 0) ∧ Capd w.heap.size w' A c ∧ Below w.heap.size w w' := by
  have hnil := Lib.run_eql_slice_nil (P := Try.prog)
  have Hn := hide hn
  have hl := (hB.of_below (bal w (.cells #[] 5)) (Nat.le_refl _))
  have HL := hide hl
  clear hn hB hl
  go_enter Try.func41, Try.ntmps41
  go_wp2_with (refine wpList_copyc _ rfl (.tmp 5) (.tmp 6) rfl w.heap.size rfl (heap_alloc_new w _) (some ad) n cap b rfl HL.out Hn.out hm ?_; intro g c w1 cur hnc hcm hg hcur hcs hR hb1)
  go_ret
  exact ⟨_, _, rfl, hnc, hcm, .inr ⟨g, rfl, hg, hR⟩, ⟨g, cur, rfl, hg, hcur, hcs⟩, (bal w _).trans (hb1.mono (Nat.le_refl _))⟩
theorem clone_some (b : List Nat) (n : Nat) (ad : Addr) (cap : Nat) (w : World) (hn : b.length = n) (hm : n ≤ 1000000) (hB : Bytes w (some ad) b) :
    Calls Try.prog 41 #[.slice (some ad) n cap] w fun e w' => ∃ A c, e = .returned (.slice A n c) ∧ n ≤ c ∧ c ≤ maxLen ∧ Mine w.heap.size w' A n (fun t => b.getD t 0) ∧ Below w.heap.size w w' :=
  (clone_cap b n ad cap w hn hm hB).mono fun e w' ⟨A, c, h1, h2, h3, h4, _, h5⟩ => ⟨A, c, h1, h2, h3, h4, h5⟩
/-- the mask, laid from within a byte on -/
def laid (at_ : Int) (mask : Nat) : Nat := mask * 2 ^ (at_ % 8).toNat
/-- what is laid over byte t -/
def over (at_ : Int) (mask : Nat) (t : Nat) : Nat := if at_ / 8 ≤ (t : Int) ∧ (t : Int) < at_ / 8 + 5 then laid at_ mask / 2 ^ (8 * ((t : Int) - at_ / 8).toNat) % 256 else 0
theorem Mine.kept {base : Nat} {W W' : World} {A : Option Addr} {n : Nat} {f : Nat → Nat} (h : Mine base W A n f) (hb : ∀ g, A = some ⟨g, 0, none⟩ → 0 < n → W'.heap[g]? = W.heap[g]?) : Mine base W' A n f := by
  rcases Nat.eq_zero_or_pos n with h0 | h0
  · exact .inl h0
  · rcases h with h | ⟨g, rfl, hg, hR⟩
    · exact .inl h
    · have he := hb g rfl h0
      have hg' : g < W'.heap.size := by
        rw [Array.getElem?_eq_getElem hR.1] at he
        exact (Array.getElem?_eq_some_iff.1 he).1
      exact .inr ⟨g, rfl, hg, hg', fun t ht => ⟨(World.cell?_of_block (a := ⟨g, t, none⟩) he).trans (hR.2 t ht).1, (World.frozen?_of_block (a := ⟨g, t, none⟩) he).trans (hR.2 t ht).2⟩⟩
theorem Mine.same {base : Nat} {W : World} {A : Option Addr} {n : Nat} {f g : Nat → Nat} (h : Mine base W A n f) (hfg : ∀ t, t < n → f t = g t) : Mine base W A n g := by
  rcases h with h | ⟨b, rfl, hg, hR⟩
  · exact .inl h
  · exact .inr ⟨b, rfl, hg, hR.1, fun t ht => by rw [← hfg t ht]; exact hR.2 t ht⟩
theorem getD_lt {b : List Nat} (h : ∀ c ∈ b, c < 256) (t : Nat) : b.getD t 0 < 256 := by
  rcases Nat.lt_or_ge t b.length with ht | ht
  · rw [List.getD_eq_getElem?_getD, List.getElem?_eq_getElem ht]; exact h _ (List.getElem_mem ht)
  · rw [List.getD_eq_getElem?_getD, List.getElem?_eq_none ht]; decide
theorem ext_getD {a b : List Nat} (hl : a.length = b.length) (h : ∀ t, t < a.length → a.getD t 0 = b.getD t 0) : a = b := by
  apply List.ext_getElem hl
  intro t h1 h2
  have := h t h1
  rwa [List.getD_eq_getElem?_getD, List.getElem?_eq_getElem h1, List.getD_eq_getElem?_getD, List.getElem?_eq_getElem h2] at this
/-- a slice of the call's own with these bytes -/
def OwnB (w : World) (base : Nat) (v : Value) (l : List Nat) : Prop := w.ownsRow base 5 1 v l.length (l.map fun u : Nat => Value.int .u8 (u : Int))
theorem OwnB.slice {w : World} {base : Nat} {v : Value} {l : List Nat} (h : OwnB w base v l) (h0 : 0 < l.length) (hl : ∀ c ∈ l, c < 256) : ∃ g c, v = .slice (some ⟨g, 0, none⟩) l.length c ∧ base ≤ g ∧ g < w.heap.size ∧ l.length ≤ c ∧ c ≤ maxLen ∧ Bytes w (some ⟨g, 0, none⟩) l := by
  rcases h.2 with ⟨rfl, h1⟩ | ⟨g, cap, cur, rfl, hgg, hheap, hncap, hcapm, hcs, htake⟩
  · omega
  · have hlt : g < w.heap.size := by
      rcases Nat.lt_or_ge g w.heap.size with h1 | h1
      · exact h1
      · rw [Array.getElem?_eq_none h1] at hheap; cases hheap
    refine ⟨g, cap, rfl, hgg, hlt, hncap, hcapm, hl, .inr ⟨g, 0, rfl, hlt, fun j hj => ?_⟩⟩
    rw [Nat.zero_add, h.cellAt j (by omega), List.getElem?_map, List.getD_eq_getElem?_getD, List.getElem?_eq_getElem hj]
    rfl
theorem own_row {w : World} {base g : Nat} {l : List Nat} (h : w.heap[g]? = some (.cells (bys l) 5 (0, 0))) (hg : base ≤ g) (hl : l.length ≤ maxLen) : OwnB w base (.slice (some ⟨g, 0, none⟩) l.length l.length) l :=
  ⟨by simp, .inr ⟨g, l.length, bys l, rfl, hg, h, Nat.le_refl _, hl, by simp [bys_size], by simp only [bys, Nat.mul_one]; exact List.take_of_length_le (by simp)⟩⟩
theorem OwnB.later {w w' : World} {base B : Nat} {v : Value} {l : List Nat} (h : OwnB w base v l) (hb : Below B w w') (hB : ∀ g, v.ownBlock = some g → g < B) : OwnB w' base v l := by
  rcases h.2 with ⟨rfl, h1⟩ | ⟨g, cap, cur, rfl, hgg, hheap, hrest⟩
  · exact ⟨h.1, .inl ⟨rfl, h1⟩⟩
  · exact ⟨h.1, .inr ⟨g, cap, cur, rfl, hgg, (hb.block g (hB g rfl)).trans hheap, hrest⟩⟩
theorem wp_onto {o : Oper} {a : Act} {w : World} {K : Act → World → Prop} {Q : Exit → Act → World → Prop} (s x : Operand)
    (ho : o.op = .call { callee := .builtin .append, args := #[s, x], argTypes := #[37, 37] })
    (base : Nat) (v : Value) (l : List Nat) (hs : a.eval s = v) (hown : OwnB w base v l) (ad : Addr) (m c : Nat) (r : List Nat) (hx : a.eval x = .slice (some ad) m c) (hr : r.length = m) (hB : Bytes w (some ad) r) (hm : l.length + m ≤ 1000000) (hbase : base ≤ w.heap.size)
    (h : ∀ v' w', OwnB w' base v' (l ++ r) → Below base w w' → K (a.put o.dst v') w') : o.wp Try.prog a w K Q := by
  obtain ⟨i, hi, hz, hs1, hb⟩ := info_parts info_u8
  refine wp_append_own w s x 37 ho base 5 i (.int .u8 0) 1 1 Try.underlying37 hi hz hs1 hb rfl (by omega) v l.length (l.map fun u : Nat => Value.int .u8 (u : Int)) hs hown ad m c (r.map fun u : Nat => Value.int .u8 (u : Int)) hx (by simp; exact hr) ?_ ?_ (by simp only [maxLen]; omega) (by omega) hbase ?_
  · intro j u hu
    rw [List.getElem?_map] at hu
    obtain ⟨e, he, rfl⟩ := Option.map_eq_some_iff.1 hu
    have hj : j < r.length := by
      rcases Nat.lt_or_ge j r.length with h1 | h1
      · exact h1
      · rw [List.getElem?_eq_none h1] at he; cases he
    obtain ⟨b, off, h1, _, hc⟩ := hB.at hj
    injection h1 with h1
    subst h1
    have h2 := hc j hj
    rw [List.getD_eq_getElem?_getD, he] at h2
    rw [show (⟨b, off, none⟩ : Addr).add j = ⟨b, off + j, none⟩ by unfold Addr.add; split <;> simp_all]
    exact h2
  · intro u hu
    obtain ⟨e, _, rfl⟩ := List.mem_map.1 hu
    rfl
  · intro v' w' h2 h3 h4
    refine h v' w' ?_ ?_
    · unfold OwnB
      rw [List.map_append, List.length_append, hr]
      exact h2
    · refine (Below.refl _ _).grown h3 hbase ?_
      intro b hb'
      rcases hown.2 with ⟨rfl, _⟩ | ⟨g, cap, cur, rfl, hgg, _⟩
      · cases hb'
      · simp [Value.ownBlock] at hb'
        omega
theorem pow_mod {r : Nat} (h : r < 8) : (2 : Int) ^ r % 256 = ((2 ^ r : Nat) : Int) := by
  have : ∀ r : Fin 8, (2 : Int) ^ r.val % 256 = ((2 ^ r.val : Nat) : Int) := by decide
  exact this ⟨r, h⟩
/-- block g, of the call's own, has these n bytes, and room for c -/
structure OwnS (w : World) (base g n c : Nat) (l : List Nat) : Prop where
  len : l.length = n
  lt : ∀ x ∈ l, x < 256
  base : base ≤ g
  le : n ≤ c
  cap : c ≤ maxLen
  row : ∃ cur, w.heap[g]? = some (.cells cur 5 (0, 0)) ∧ cur.size = c ∧ cur.toList.take n = l.map fun u : Nat => Value.int .u8 (u : Int)
theorem OwnS.own {w : World} {base g n c : Nat} {l : List Nat} (h : OwnS w base g n c l) : w.ownsRow base 5 1 (.slice (some ⟨g, 0, none⟩) n c) n (l.map fun u : Nat => Value.int .u8 (u : Int)) := by
  obtain ⟨cur, h1, h2, h3⟩ := h.row
  exact ⟨by simp [h.len], .inr ⟨g, c, cur, rfl, h.base, h1, h.le, h.cap, by simpa using h2, by simpa using h3⟩⟩
theorem OwnS.blk {w : World} {base g n c : Nat} {l : List Nat} (h : OwnS w base g n c l) : g < w.heap.size := by
  obtain ⟨cur, h1, _⟩ := h.row
  exact (Array.getElem?_eq_some_iff.1 h1).1
theorem OwnS.bytes {w : World} {base g n c : Nat} {l : List Nat} (h : OwnS w base g n c l) : Bytes w (some ⟨g, 0, none⟩) l := by
  refine ⟨h.lt, .inr ⟨g, 0, rfl, h.blk, fun j hj => ?_⟩⟩
  rw [Nat.zero_add, h.own.cellAt j (by have := h.len; omega), List.getElem?_map, List.getD_eq_getElem?_getD, List.getElem?_eq_getElem hj]
  rfl
theorem OwnS.cell {w : World} {base g n c : Nat} {l : List Nat} (h : OwnS w base g n c l) (t : Nat) (ht : t < n) : w.cell? ⟨g, t, none⟩ = some (.int .u8 ((l.getD t 0 : Nat) : Int)) ∧ w.frozen? ⟨g, t, none⟩ = false := by
  refine ⟨?_, h.own.frozenAt t⟩
  rw [h.own.cellAt t (by omega), List.getElem?_map, List.getD_eq_getElem?_getD, List.getElem?_eq_getElem (by rw [h.len]; exact ht)]
  rfl
theorem OwnS.kept {w w' : World} {base g n c : Nat} {l : List Nat} (h : OwnS w base g n c l) (hb : w'.heap[g]? = w.heap[g]?) : OwnS w' base g n c l := by
  obtain ⟨cur, h1, h2⟩ := h.row
  exact ⟨h.len, h.lt, h.base, h.le, h.cap, cur, hb.trans h1, h2⟩
theorem OwnS.later {w w' : World} {base g n c B : Nat} {l : List Nat} (h : OwnS w base g n c l) (hb : Below B w w') (hB : g < B) : OwnS w' base g n c l := h.kept (hb.block g hB)
theorem OwnS.drew {w : World} {base g n c : Nat} {l : List Nat} (h : OwnS w base g n c l) : OwnS w.drew base g n c l := h.kept rfl
theorem OwnS.from {w : World} {base g n c b : Nat} {l : List Nat} (h : OwnS w base g n c l) (hb : b ≤ g) : OwnS w b g n c l := { h with base := hb }
theorem OwnS.store {w : World} {base g n c : Nat} {l : List Nat} (h : OwnS w base g n c l) (t v : Nat) (hv : v < 256) (ht : t < n) : OwnS (w.setCell ⟨g, t, none⟩ (.int .u8 (v : Int))) base g n c (l.set t v) := by
  obtain ⟨cur, h1, h2, h3⟩ := h.row
  refine ⟨by rw [List.length_set]; exact h.len, SumMath.set_lt l t v hv h.lt, h.base, h.le, h.cap, cur.setIfInBounds t (.int .u8 (v : Int)), ?_, by simpa using h2, ?_⟩
  · show (w.heap.modify g _)[g]? = _
    rw [Array.getElem?_modify, if_pos rfl, h1]
    rfl
  · rw [Array.toList_setIfInBounds, List.take_set, h3, List.map_set]
theorem OwnS.of_row {w : World} {base g n c : Nat} {f : Nat → Nat} {cur : Array Value} (h1 : w.heap[g]? = some (.cells cur 5 (0, 0))) (h2 : cur.size = c) (hR : Row w g n f) (hf : ∀ t, t < n → f t < 256) (hb : base ≤ g) (hn : n ≤ c) (hc : c ≤ maxLen) : OwnS w base g n c ((List.range n).map f) := by
  refine ⟨by simp, fun x hx => by obtain ⟨t, ht, rfl⟩ := List.mem_map.1 hx; exact hf t (List.mem_range.1 ht), hb, hn, hc, cur, h1, h2, ?_⟩
  refine List.ext_getElem? fun t => ?_
  by_cases ht : t < n
  · have h := (hR.2 t ht).1
    rw [List.getElem?_take_of_lt ht]
    simp only [List.map_map, List.getElem?_map, List.getElem?_range ht, Option.map_some, Function.comp]
    unfold World.cell? at h
    rw [h1] at h
    simpa using h
  · rw [List.getElem?_eq_none (by simp; omega), List.getElem?_eq_none (by simp; omega)]
theorem OwnS.made {w : World} {base : Nat} (l : List Nat) (hl : ∀ x ∈ l, x < 256) (hm : l.length ≤ maxLen) (hb : base ≤ w.heap.size) : OwnS (w.alloc (.cells (bys l) 5)) base w.heap.size l.length l.length l :=
  ⟨rfl, hl, hb, Nat.le_refl _, hm, bys l, heap_alloc_new w _, by simp [bys_size], by simp only [bys]; exact List.take_of_length_le (by simp)⟩
/-- append onto such a slice -/
theorem wp_ontoS {o : Oper} {a : Act} {w : World} {K : Act → World → Prop} {Q : Exit → Act → World → Prop} (s x : Operand)
    (ho : o.op = .call { callee := .builtin .append, args := #[s, x], argTypes := #[37, 37] })
    (base g n cp : Nat) (l : List Nat) (hs : a.eval s = .slice (some ⟨g, 0, none⟩) n cp) (hown : OwnS w base g n cp l) (A : Option Addr) (m c : Nat) (r : List Nat) (hx : a.eval x = .slice A m c) (hr : r.length = m) (hB : Bytes w A r) (hm : n + m ≤ 2000000) (hbase : base ≤ w.heap.size)
    (h : ∀ g' c' w', OwnS w' base g' (n + m) c' (l ++ r) → w.grownBy w' (some g) → K (a.put o.dst (.slice (some ⟨g', 0, none⟩) (n + m) c')) w') : o.wp Try.prog a w K Q := by
  obtain ⟨i, hi, hz, hs1, hb⟩ := info_parts info_u8
  rcases A with _ | ad
  · have hl : r = [] := by
      rcases hB.2 with h1 | ⟨b, off, h1, _⟩
      · exact h1
      · cases h1
    subst hl
    obtain rfl : m = 0 := hr.symm
    have hrun : (Builtin.append_ #[37, 37] o.type #[.slice (some ⟨g, 0, none⟩) n cp, .slice none 0 c]).run Try.prog w = .ok (.slice (some ⟨g, 0, none⟩) n cp) w := by
      simp [Builtin.append_, run_underlying Try.underlying37, sizeOf, typeInfo, hi, Builtin.lenOf, Builtin.firstCells, storeCells, hown.le]
    unfold Oper.wp
    simp [execOp, ho, resolve, invoke, builtin, hs, hx, hrun, Result.andThen]
    have h2 := h g cp w (by rw [List.append_nil]; exact hown) ⟨rfl, rfl, rfl, Nat.le_refl _, fun _ _ _ => rfl⟩
    exact h2
  · refine wp_append_own w s x 37 ho base 5 i (.int .u8 0) 1 1 Try.underlying37 hi hz hs1 hb rfl (by omega) (.slice (some ⟨g, 0, none⟩) n cp) n (l.map fun u : Nat => Value.int .u8 (u : Int)) hs hown.own ad m c (r.map fun u : Nat => Value.int .u8 (u : Int)) hx (by simp; exact hr) ?_ ?_ (by simp only [maxLen]; omega) (by omega) hbase ?_
    · intro j u hu
      rw [List.getElem?_map] at hu
      obtain ⟨e, he, rfl⟩ := Option.map_eq_some_iff.1 hu
      have hj : j < r.length := by
        rcases Nat.lt_or_ge j r.length with h1 | h1
        · exact h1
        · rw [List.getElem?_eq_none h1] at he; cases he
      obtain ⟨b, off, h1, _, hc⟩ := hB.at hj
      injection h1 with h1
      subst h1
      have h2 := hc j hj
      rw [List.getD_eq_getElem?_getD, he] at h2
      rw [show (⟨b, off, none⟩ : Addr).add j = ⟨b, off + j, none⟩ by unfold Addr.add; split <;> simp_all]
      exact h2
    · intro u hu
      obtain ⟨e, _, rfl⟩ := List.mem_map.1 hu
      rfl
    · intro v' w' h2 h3 h4
      rcases h2.2 with ⟨rfl, _⟩ | ⟨g', cap, cur, rfl, hgg, hheap, hncap, hcapm, hcs, htake⟩
      · exact absurd (h4.1 rfl).1 (by simp)
      · refine h g' cap w' ⟨by simp [hown.len, hr], ?_, hgg, hncap, hcapm, cur, hheap, by simpa using hcs, by simpa using htake⟩ h3
        intro y hy
        rcases List.mem_append.1 hy with hy | hy
        · exact hown.lt y hy
        · exact hB.1 y hy
theorem wpList_ontoS {ops : Array Oper} {rest : List Oper} {o : Oper} {a : Act} {w : World} {Q : Exit → Act → World → Prop} (hgd : o.guard = none) (s x : Operand)
    (ho : o.op = .call { callee := .builtin .append, args := #[s, x], argTypes := #[37, 37] })
    (base g n cp : Nat) (l : List Nat) (hs : a.eval s = .slice (some ⟨g, 0, none⟩) n cp) (hown : OwnS w base g n cp l) (A : Option Addr) (m c : Nat) (r : List Nat) (hx : a.eval x = .slice A m c) (hr : r.length = m) (hB : Bytes w A r) (hm : n + m ≤ 2000000) (hbase : base ≤ w.heap.size)
    (h : ∀ g' c' w', OwnS w' base g' (n + m) c' (l ++ r) → w.grownBy w' (some g) → wpList Try.prog ops Q rest (a.put o.dst (.slice (some ⟨g', 0, none⟩) (n + m) c')) w') : wpList Try.prog ops Q (o :: rest) a w :=
  wpList_plain hgd fun _ hK => wp_ontoS s x ho base g n cp l hs hown A m c r hx hr hB hm hbase fun g' c' w' h1 h2 => hK _ _ (h g' c' w' h1 h2)
theorem grown_below {w w' : World} {g base : Nat} (h : w.grownBy w' (some g)) (hg : base ≤ g) (hb : base ≤ w.heap.size) : Below base w w' :=
  (Below.refl _ _).grown h hb (fun b e => by injection e with e; omega)
theorem str_app7 (l : List Nat) : str l ++ ({ data := #[7] } : ByteArray) = str (l ++ [7]) := by
  apply ByteArray.ext
  simp [str, strOfNums]
theorem str_size (l : List Nat) : (str l).size = l.length := by
  simp [str, strOfNums, ByteArray.size]
def dstOf (ops : Array Oper) (i : Nat) : Option Tmp := (ops[i]?).bind (·.dst)
/-- the act where the operations of l are done -/
def canon (ops : Array Oper) (l : Array Bool) (vals : Nat → Value) (a : Act) : Nat → Act
  | 0 => a
  | n + 1 => if l.getD n false = true then (canon ops l vals a n).put (dstOf ops n) (vals n) else canon ops l vals a n
def upd (vals : Nat → Value) (i : Nat) (v : Value) (j : Nat) : Value := if j = i then v else vals j
def apartB (ops : Array Oper) : Bool := (List.range ops.size).all fun j => (List.range j).all fun i => (dstOf ops i).isNone || !(decide (dstOf ops i = dstOf ops j))
theorem apart_of {ops : Array Oper} (h : apartB ops = true) {i j : Nat} (hi : i < ops.size) (hj : j < ops.size) (hij : i ≠ j) : ∀ d, dstOf ops i = some d → dstOf ops j ≠ some d := by
  have key : ∀ i j, i < j → j < ops.size → ∀ d, dstOf ops i = some d → dstOf ops j ≠ some d := by
    intro i j hij hj d h1 h2
    have h3 := List.all_eq_true.1 (List.all_eq_true.1 h j (List.mem_range.2 hj)) i (List.mem_range.2 hij)
    rw [h1, h2] at h3
    simp at h3
  intro d h1 h2
  rcases Nat.lt_or_gt_of_ne hij with h3 | h3
  · exact key i j h3 hj d h1 h2
  · exact key j i h3 hi d h2 h1
theorem getD_set {l : Array Bool} {i j : Nat} (hi : i < l.size) : (l.setIfInBounds i true).getD j false = if j = i then true else l.getD j false := by
  rw [Array.getD_eq_getD_getElem?, Array.getElem?_setIfInBounds, Array.getD_eq_getD_getElem?]
  by_cases h : i = j
  · subst h; simp [hi]
  · rw [if_neg h, if_neg (fun e => h e.symm)]
theorem canon_set {ops : Array Oper} (hd : apartB ops = true) {l : Array Bool} {vals : Nat → Value} {a : Act} {i : Nat} {v : Value} (hi : i < ops.size) (hl : l.size = ops.size) (h0 : l.getD i false = false) :
    ∀ n, n ≤ ops.size → canon ops (l.setIfInBounds i true) (upd vals i v) a n = if i < n then (canon ops l vals a n).put (dstOf ops i) v else canon ops l vals a n := by
  intro n
  induction n with
  | zero => intro _; rfl
  | succ n ih =>
    intro hn
    have ih := ih (by omega)
    have hil : i < l.size := by omega
    show (if (l.setIfInBounds i true).getD n false = true then (canon ops (l.setIfInBounds i true) (upd vals i v) a n).put (dstOf ops n) (upd vals i v n) else canon ops (l.setIfInBounds i true) (upd vals i v) a n) = if i < n + 1 then (if l.getD n false = true then (canon ops l vals a n).put (dstOf ops n) (vals n) else canon ops l vals a n).put (dstOf ops i) v else (if l.getD n false = true then (canon ops l vals a n).put (dstOf ops n) (vals n) else canon ops l vals a n)
    rw [getD_set hil, ih]
    by_cases hin : n = i
    · subst hin
      simp [h0, upd]
    · have hu : upd vals i v n = vals n := by simp [upd, hin]
      rw [if_neg hin, hu]
      by_cases hlt : i < n
      · have h1 : i < n + 1 := by omega
        simp only [hlt, h1, if_true]
        by_cases hln : l.getD n false = true
        · simp only [hln, if_true]
          exact Act.put_comm _ _ _ (apart_of hd hi (by omega) (fun e => hin e.symm))
        · simp only [hln]
          rfl
      · have h1 : ¬ i < n + 1 := by omega
        simp only [hlt, h1, if_false]
theorem put_get (a : Act) (d k : Nat) (v : Value) : (a.put (some d) v).tmps.getD k undef = if d = k ∧ d < a.tmps.size then v else a.tmps.getD k undef := by
  show (a.tmps.setIfInBounds d v).getD k undef = _
  rw [Array.getD_eq_getD_getElem?, Array.getElem?_setIfInBounds, Array.getD_eq_getD_getElem?]
  by_cases h : d = k
  · subst h
    by_cases h2 : d < a.tmps.size
    · simp [h2]
    · simp [h2]
  · simp [h]
theorem put_size (a : Act) (d : Option Tmp) (v : Value) : (a.put d v).tmps.size = a.tmps.size := by cases d <;> simp [Act.put]
theorem canon_size (ops : Array Oper) (l : Array Bool) (vals : Nat → Value) (a : Act) : ∀ n, (canon ops l vals a n).tmps.size = a.tmps.size
  | 0 => rfl
  | n + 1 => by
    unfold canon
    split
    · rw [put_size]; exact canon_size ops l vals a n
    · exact canon_size ops l vals a n
theorem canon_get {ops : Array Oper} (hd : apartB ops = true) {l : Array Bool} {vals : Nat → Value} {a : Act} {j k : Nat} (hj : l.getD j false = true) (hk : dstOf ops j = some k) (hs : k < a.tmps.size) :
    ∀ n, j < n → n ≤ ops.size → (canon ops l vals a n).tmps.getD k undef = vals j := by
  intro n
  induction n with
  | zero => intro h; omega
  | succ n ih =>
    intro hjn hn
    unfold canon
    by_cases e : j = n
    · subst e
      rw [if_pos hj, hk, put_get, if_pos ⟨rfl, by rw [canon_size]; exact hs⟩]
    · have ih := ih (by omega) (by omega)
      split
      · have h := apart_of hd (by omega : j < ops.size) (by omega : n < ops.size) e k hk
        rcases hdn : dstOf ops n with _ | d
        · exact ih
        · rw [put_get, if_neg (by rintro ⟨rfl, _⟩; exact h hdn)]
          exact ih
      · exact ih
theorem canon_old {ops : Array Oper} {l : Array Bool} {vals : Nat → Value} {a : Act} {k : Nat} : ∀ n, ((List.range n).all fun j => !(decide (dstOf ops j = some k))) = true → (canon ops l vals a n).tmps.getD k undef = a.tmps.getD k undef
  | 0, _ => rfl
  | n + 1, h => by
    rw [List.range_succ, List.all_append, Bool.and_eq_true] at h
    have ih := canon_old (vals := vals) (a := a) (l := l) n h.1
    have h2 : dstOf ops n ≠ some k := by simpa using h.2
    unfold canon
    split
    · rcases hdn : dstOf ops n with _ | d
      · exact ih
      · rw [put_get, if_neg (by rintro ⟨rfl, _⟩; exact h2 hdn)]
        exact ih
    · exact ih
section
variable {md : Region.Mode} {ops : Array Oper} {Q : Exit → Act → World → Prop}
/-- no guards; each one's slot its own; none waits for one behind it -/
def plainB (md : Region.Mode) (ops : Array Oper) : Bool := apartB ops && (List.range ops.size).all fun i => match ops[i]? with | some o => o.guard.isNone && o.after.all fun e => !(Region.binds md e) || decide (e.on < i) | none => true
end
section
variable {md : Region.Mode} {ops : Array Oper} {Q : Exit → Act → World → Prop}
/-- what holds where the operations of l are done -/
structure Inv (md : Region.Mode) (ops : Array Oper) (C : World → Prop) (F : Nat → Value → World → Prop) (T : Nat → Nat) (l : Array Bool) (vals : Nat → Value) (W : World) : Prop where
  siz : l.size = ops.size
  com : C W
  fact : ∀ j, l.getD j false = true → l.getD (T j) false = false → F j (vals j) W
  clo : ∀ j o, ops[j]? = some o → l.getD j false = true → ∀ e ∈ o.after, Region.binds md e = true → l.getD e.on false = true
end
section
variable {md : Region.Mode} {ops : Array Oper} {Q : Exit → Act → World → Prop}
/-- what waits for k has not come up ahead of it -/
theorem Inv.ahead {C : World → Prop} {F : Nat → Value → World → Prop} {T : Nat → Nat} {l : Array Bool} {vals : Nat → Value} {W : World} (h : Inv md ops C F T l vals W) {k : Nat} (hk : l.getD k false = false) (j : Nat)
    (hj : ((ops[j]?).any fun o => o.after.any fun e => Region.binds md e && decide (e.on = k)) = true) : l.getD j false = false := by
  rcases hl : l.getD j false with _ | _
  · rfl
  · exfalso
    rcases ho : ops[j]? with _ | o
    · rw [ho] at hj; cases hj
    · rw [ho] at hj
      obtain ⟨e, he, h2⟩ : ∃ e, e ∈ o.after ∧ (Region.binds md e && decide (e.on = k)) = true := by
        have hj : (o.after.any fun e => Region.binds md e && decide (e.on = k)) = true := hj
        rw [Array.any_eq_true] at hj
        obtain ⟨i, hi, h2⟩ := hj
        exact ⟨o.after[i], Array.getElem_mem hi, h2⟩
      rw [Bool.and_eq_true, decide_eq_true_eq] at h2
      have h3 := h.clo j o ho hl e he h2.1
      rw [h2.2, hk] at h3
      cases h3
end
section
variable {md : Region.Mode} {ops : Array Oper} {Q : Exit → Act → World → Prop}
def Step (P : Program) (md : Region.Mode) (ops : Array Oper) (Q : Exit → Act → World → Prop) (a : Act) (C : World → Prop) (F : Nat → Value → World → Prop) (T : Nat → Nat) (i : Nat) (o : Oper) : Prop :=
  ∀ (l : Array Bool) (vals : Nat → Value) (W : World), Inv md ops C F T l vals W → l.getD i false = false → (∀ e ∈ o.after, Region.binds md e = true → l.getD e.on false = true) →
    o.wp P (canon ops l vals a ops.size) W (fun a' W' => ∃ v, a' = (canon ops l vals a ops.size).put o.dst v ∧ C W' ∧ F i v W' ∧ ∀ j, j ≠ i → T j ≠ i → l.getD j false = true → l.getD (T j) false = false → F j (vals j) W') Q
end
section
variable {md : Region.Mode} {ops : Array Oper} {Q : Exit → Act → World → Prop}
def AllFrom (p : Nat → Oper → Prop) : Nat → List Oper → Prop
  | _, [] => True
  | i, o :: r => p i o ∧ AllFrom p (i + 1) r
end
section
variable {md : Region.Mode} {ops : Array Oper} {Q : Exit → Act → World → Prop}
theorem AllFrom.at {p : Nat → Oper → Prop} : ∀ {l : List Oper} {i : Nat}, AllFrom p i l → ∀ {j : Nat} {o : Oper}, l[j]? = some o → p (i + j) o
  | [], _, _, j, o, h => by simp at h
  | x :: r, i, hp, 0, o, h => by
    obtain rfl : x = o := by simpa using h
    exact hp.1
  | x :: r, i, hp, j + 1, o, h => by
    have := AllFrom.at hp.2 (j := j) (o := o) (by simpa using h)
    rwa [show i + (j + 1) = i + 1 + j by omega]
end
section
variable {md : Region.Mode} {ops : Array Oper} {Q : Exit → Act → World → Prop}
theorem fwd_of {md : Region.Mode} {ops : Array Oper} (h : plainB md ops = true) : apartB ops = true ∧ ∀ (i : Nat) (o : Oper), ops[i]? = some o → o.guard = none ∧ ∀ e ∈ o.after, Region.binds md e = true → e.on < i := by
  unfold plainB at h
  rw [Bool.and_eq_true] at h
  refine ⟨h.1, fun i o ho => ?_⟩
  have hi : i < ops.size := (Array.getElem?_eq_some_iff.1 ho).1
  have h2 := List.all_eq_true.1 h.2 i (List.mem_range.2 hi)
  rw [ho] at h2
  simp only [Bool.and_eq_true, Option.isNone_iff_eq_none, Array.all_eq_true_iff_forall_mem, Bool.or_eq_true, Bool.not_eq_true', decide_eq_true_eq] at h2
  exact ⟨h2.1, fun e he hb => (h2.2 e he).resolve_left (by rw [hb]; simp)⟩
end
section
variable {md : Region.Mode} {ops : Array Oper} {Q : Exit → Act → World → Prop}
def cnt (l : Array Bool) : Nat := (l.toList.filter id).length
end
section
variable {md : Region.Mode} {ops : Array Oper} {Q : Exit → Act → World → Prop}
theorem cnt_set {l : Array Bool} {i : Nat} (hi : i < l.size) (h : l.getD i false = false) : cnt (l.setIfInBounds i true) = cnt l + 1 := by
  obtain ⟨l⟩ := l
  simp only [cnt, List.setIfInBounds_toArray, List.size_toArray] at *
  simp only [Array.getD_eq_getD_getElem?, List.getElem?_toArray] at h
  induction l generalizing i with
  | nil => simp at hi
  | cons b r ih =>
    cases i with
    | zero => simp at h; subst h; simp
    | succ i =>
      have := ih (i := i) (by simpa using hi) (by simpa using h)
      cases b <;> simp [List.set_cons_succ] at this ⊢ <;> omega
end
section
variable {md : Region.Mode} {ops : Array Oper} {Q : Exit → Act → World → Prop}
theorem cnt_all {l : Array Bool} (h : cnt l = l.size) : ∀ i, i < l.size → l.getD i false = true := by
  obtain ⟨l⟩ := l
  simp only [cnt, List.size_toArray] at *
  intro i hi
  have h2 := List.length_filter_eq_length_iff.1 h l[i] (List.getElem_mem hi)
  simpa [Array.getD_eq_getD_getElem?, hi] using h2
end
section
variable {md : Region.Mode} {ops : Array Oper} {Q : Exit → Act → World → Prop}
theorem cnt_le (l : Array Bool) : cnt l ≤ l.size := by
  obtain ⟨l⟩ := l
  simpa [cnt] using List.length_filter_le id l
end
section
variable {md : Region.Mode} {ops : Array Oper} {Q : Exit → Act → World → Prop}
theorem least_open {md : Region.Mode} {ops : Array Oper} (hf : ∀ (i : Nat) (o : Oper), ops[i]? = some o → ∀ e ∈ o.after, Region.binds md e = true → e.on < i) {l : Array Bool} (hl : l.size = ops.size) {i : Nat} (hi : i < ops.size) (h : l.getD i false = false) : Region.ready md ops l ≠ [] := by
  induction i using Nat.strongRecOn with
  | _ i ih =>
    by_cases hx : ∃ k, k < i ∧ l.getD k false = false
    · obtain ⟨k, hk, h1⟩ := hx
      exact ih k hk (by omega) h1
    · refine List.ne_nil_of_mem (a := i) ?_
      unfold Region.ready
      rw [List.mem_filter]
      refine ⟨List.mem_range.2 hi, ?_⟩
      obtain ⟨o, ho⟩ : ∃ o, ops[i]? = some o := ⟨_, Array.getElem?_eq_getElem hi⟩
      have hlt : l.getD i true = false := by
        rw [Array.getD_eq_getD_getElem?, Array.getElem?_eq_getElem (by omega)] at h ⊢
        simpa using h
      rw [hlt, ho]
      simp only [Bool.not_false, Bool.true_and, Option.map_some, Option.getD_some, Array.all_eq_true_iff_forall_mem]
      intro e he
      rcases hbb : Region.binds md e with _ | _
      · simp
      · have h3 := hf i o ho e he hbb
        have : l.getD e.on false = true := by
          rcases hb : l.getD e.on false with _ | _
          · exact absurd ⟨e.on, h3, hb⟩ hx
          · rfl
        simp [this]
end
section
variable {md : Region.Mode} {ops : Array Oper} {Q : Exit → Act → World → Prop}
theorem wpAny_facts (P : Program) {a : Act} {C : World → Prop} {F : Nat → Value → World → Prop} {T : Nat → Nat} (hp : plainB md ops = true) (hs : AllFrom (Step P md ops Q a C F T) 0 ops.toList)
    (he : ∀ l vals W, Inv md ops C F T l vals W → (∀ i, i < ops.size → l.getD i false = true) → Q .normal (canon ops (Array.replicate ops.size true) vals a ops.size) W) :
    ∀ n l vals W, n + cnt l = ops.size → Inv md ops C F T l vals W → wpAny P md ops Q n l (canon ops l vals a ops.size) W := by
  obtain ⟨hd, hf⟩ := fwd_of hp
  intro n
  induction n with
  | zero =>
    intro l vals W hn hI
    have hall := cnt_all (l := l) (by rw [hI.siz]; omega)
    refine ⟨?_, ?_⟩
    · unfold Region.ready
      rw [List.filter_eq_nil_iff]
      intro i hi
      have h := hall i (by rw [hI.siz]; exact List.mem_range.1 hi)
      have h2 : l.getD i true = true := by
        have hi2 := List.mem_range.1 hi
        rw [Array.getD_eq_getD_getElem?, Array.getElem?_eq_getElem (by rw [hI.siz]; exact hi2)] at h ⊢
        simpa using h
      simp [h2]
    · have hl : l = Array.replicate ops.size true := by
        refine Array.ext (by rw [hI.siz]; simp) fun i h1 h2 => ?_
        have h := hall i h1
        rw [Array.getD_eq_getD_getElem?, Array.getElem?_eq_getElem h1] at h
        simpa using h
      rw [hI.siz] at hall
      have h3 := he l vals W hI hall
      rwa [← hl] at h3
  | succ n ih =>
    intro l vals W hn hI
    have hopen : ∃ i, i < ops.size ∧ l.getD i false = false := by
      refine Classical.byContradiction fun hx => ?_
      have : ∀ b ∈ l.toList, id b = true := by
        intro b hb
        obtain ⟨i, hi, rfl⟩ := List.getElem_of_mem hb
        rcases h2 : l.getD i false with _ | _
        · exact absurd ⟨i, by rw [← hI.siz]; simpa using hi, h2⟩ hx
        · rw [Array.getD_eq_getD_getElem?, Array.getElem?_eq_getElem (by simpa using hi)] at h2
          simpa using h2
      have h3 := List.length_filter_eq_length_iff.2 this
      have h4 := hI.siz
      simp only [cnt] at hn
      simp at h3
      omega
    obtain ⟨k, hk, hk0⟩ := hopen
    refine ⟨fun h => absurd h (least_open (fun i o h => (hf i o h).2) hI.siz hk hk0), fun i hi => ?_⟩
    unfold Region.ready at hi
    rw [List.mem_filter, Bool.and_eq_true] at hi
    obtain ⟨hir, hi1, hi2⟩ := hi
    have hilt := List.mem_range.1 hir
    obtain ⟨o, ho⟩ : ∃ o, ops[i]? = some o := ⟨_, Array.getElem?_eq_getElem hilt⟩
    have hi0 : l.getD i false = false := by
      have hil : i < l.size := by rw [hI.siz]; exact hilt
      rw [Array.getD_eq_getD_getElem?, Array.getElem?_eq_getElem hil] at hi1 ⊢
      simpa using hi1
    rw [ho] at hi2
    simp only [Option.map_some, Option.getD_some, Array.all_eq_true_iff_forall_mem] at hi2
    have hdep : ∀ e ∈ o.after, Region.binds md e = true → l.getD e.on false = true := by
      intro e he hb
      have := hi2 e he
      simpa [hb] using this
    have hst := (AllFrom.at hs (j := i) (o := o) (by simpa using ho))
    rw [Nat.zero_add] at hst
    have hst := hst l vals W hI hi0 hdep
    have hw : Region.wanted o (yielded ops (canon ops l vals a ops.size).tmps) = true := by simp [Region.wanted, (hf i o ho).1]
    unfold wpOp
    rw [ho]
    simp only [hw, if_true]
    refine .inl (Oper.wp_mono ?_ hst)
    rintro a' W' ⟨v, rfl, hC, hF, hrest⟩
    have hcs := canon_set hd (a := a) (vals := vals) (v := v) hilt hI.siz hi0 ops.size (Nat.le_refl _)
    rw [if_pos hilt] at hcs
    have hdst : dstOf ops i = o.dst := by simp [dstOf, ho]
    rw [hdst] at hcs
    rw [← hcs]
    have hil : i < l.size := by rw [hI.siz]; exact hilt
    refine ih _ _ _ (by rw [cnt_set hil hi0]; omega) ⟨by rw [Array.size_setIfInBounds]; exact hI.siz, hC, fun j hj hT => by
    rw [getD_set hil] at hj hT
    by_cases hji : j = i
    · subst hji; simpa [upd] using hF
    · rw [if_neg hji] at hj
      by_cases hTi : T j = i
      · rw [if_pos hTi] at hT; cases hT
      · rw [if_neg hTi] at hT
        have := hrest j hji hTi hj hT
        simpa [upd, hji] using this, fun j o' ho' hj e he hb => ?_⟩
    rw [getD_set hil] at hj ⊢
    by_cases hei : e.on = i
    · rw [if_pos hei]
    · rw [if_neg hei]
      by_cases hji : j = i
      · subst hji
        obtain rfl : o = o' := by rw [ho] at ho'; injection ho'
        exact hdep e he hb
      · rw [if_neg hji] at hj
        exact hI.clo j o' ho' hj e he hb
end
section
variable {md : Region.Mode} {ops : Array Oper} {Q : Exit → Act → World → Prop}
/-- a region that draws, by its operations' facts -/
theorem wp_region_facts {id : Nat} {a : Act} {w : World} (C : World → Prop) (F : Nat → Value → World → Prop) (T : Nat → Nat) (hm : Try.prog.follows .mixedOrders = true) (hp : plainB .any ops = true)
    (hC : C { w with drawn := w.drawn + 1 }) (hs : AllFrom (Step Try.prog .any ops Q a C F T) 0 ops.toList)
    (he : ∀ vals W, C W → (∀ j, j < ops.size → ops.size ≤ T j → F j (vals j) W) → Q .normal (canon ops (Array.replicate ops.size true) vals a ops.size) W) : (Code.region id ops true).wp Try.prog Q a w := by
  refine wp_region_any hm ?_
  have hc : canon ops (Array.replicate ops.size false) (fun _ => undef) a ops.size = a := by
    have h : ∀ n, canon ops (Array.replicate ops.size false) (fun _ => undef) a n = a := by
      intro n
      induction n with
      | zero => rfl
      | succ n ih =>
        unfold canon
        rw [ih]
        by_cases hn : n < ops.size
        · simp [Array.getD_eq_getD_getElem?, hn]
        · simp [Array.getD_eq_getD_getElem?, hn]
    exact h _
  have h := wpAny_facts (Q := Q) Try.prog hp hs (fun l vals W hI hall => he vals W hI.com fun j hj hT => hI.fact j (hall j hj) (by
    rw [Array.getD_eq_getD_getElem?, Array.getElem?_eq_none (by rw [hI.siz]; exact hT)]; rfl)) ops.size (Array.replicate ops.size false) (fun _ => undef) { w with drawn := w.drawn + 1 }
    (by simp [cnt]) ⟨by simp, hC, fun j hj => by
      rw [Array.getD_eq_getD_getElem?, Array.getElem?_replicate] at hj
      split at hj <;> simp at hj, fun j o _ hj => by
      rw [Array.getD_eq_getD_getElem?, Array.getElem?_replicate] at hj
      split at hj <;> simp at hj⟩
  rwa [hc] at h
end
section
variable {md : Region.Mode} {ops : Array Oper} {Q : Exit → Act → World → Prop}
theorem dep {o : Oper} {l : Array Bool} (h : ∀ e ∈ o.after, Region.binds .any e = true → l.getD e.on false = true) (j : Nat) (hj : (o.after.any fun e => Region.binds .any e && decide (e.on = j)) = true) : l.getD j false = true := by
  obtain ⟨e, he, h2⟩ : ∃ e, e ∈ o.after ∧ (Region.binds .any e && decide (e.on = j)) = true := by
    rw [Array.any_eq_true] at hj
    obtain ⟨k, hk, h2⟩ := hj
    exact ⟨o.after[k], Array.getElem_mem hk, h2⟩
  rw [Bool.and_eq_true, decide_eq_true_eq] at h2
  rw [← h2.2]
  exact h e he h2.1
end
section
variable {md : Region.Mode} {ops : Array Oper} {Q : Exit → Act → World → Prop}
/-- an operation that only gives a value -/
theorem step_still {i : Nat} {o : Oper} {a : Act} {C : World → Prop} {F : Nat → Value → World → Prop} {T : Nat → Nat}
    (h : ∀ l vals W, Inv md ops C F T l vals W → l.getD i false = false → (∀ e ∈ o.after, Region.binds md e = true → l.getD e.on false = true) → ∃ v, (execOp (canon ops l vals a ops.size).eval o).run Try.prog W = .ok (.value v) W ∧ F i v W) : Step Try.prog md ops Q a C F T i o := by
  intro l vals W hI hi hdep
  obtain ⟨v, hv, hF⟩ := h l vals W hI hi hdep
  unfold Oper.wp
  rw [hv]
  exact ⟨v, rfl, hI.com, hF, fun j _ _ hj hT => hI.fact j hj hT⟩
end
section
variable {md : Region.Mode} {ops : Array Oper} {Q : Exit → Act → World → Prop}
theorem ev_get {l : Array Bool} {vals : Nat → Value} {a : Act} (hd : apartB ops = true) (j k : Nat) (hj : l.getD j false = true) (hk : dstOf ops j = some k) (hs : k < a.tmps.size) (hn : j < ops.size) : (canon ops l vals a ops.size).eval (.tmp k) = vals j := by
  have h := canon_get hd (vals := vals) hj hk hs ops.size hn (Nat.le_refl _)
  simpa [Act.eval, Array.getD_eq_getD_getElem?] using h
end
section
variable {md : Region.Mode} {ops : Array Oper} {Q : Exit → Act → World → Prop}
theorem ev_old {l : Array Bool} {vals : Nat → Value} {a : Act} (k : Nat) (h : ((List.range ops.size).all fun j => !(decide (dstOf ops j = some k))) = true) : (canon ops l vals a ops.size).eval (.tmp k) = a.eval (.tmp k) := by
  have h := canon_old (vals := vals) (a := a) (l := l) ops.size h
  simpa [Act.eval, Array.getD_eq_getD_getElem?] using h
end
section
variable {md : Region.Mode} {ops : Array Oper} {Q : Exit → Act → World → Prop}
theorem AllFrom.cons {p : Nat → Oper → Prop} {i : Nat} {o : Oper} {r : List Oper} (h : p i o) (hr : AllFrom p (i + 1) r) : AllFrom p i (o :: r) := ⟨h, hr⟩
end
section
variable {md : Region.Mode} {ops : Array Oper} {Q : Exit → Act → World → Prop}
/-- an operation whose run is known: its slots by what was made here, or stood before -/
theorem step_run {i : Nat} {o : Oper} {a : Act} {C : World → Prop} {F : Nat → Value → World → Prop} {T : Nat → Nat} (hd : apartB ops = true)
    (h : ∀ l vals W (ρ : Operand → Value), Inv .any ops C F T l vals W → l.getD i false = false → (∀ e ∈ o.after, Region.binds .any e = true → l.getD e.on false = true) →
      (∀ j k, l.getD j false = true → dstOf ops j = some k → k < a.tmps.size → j < ops.size → ρ (.tmp k) = vals j) → (∀ k, ((List.range ops.size).all fun j => !(decide (dstOf ops j = some k))) = true → ρ (.tmp k) = a.eval (.tmp k)) → (∀ c, ρ (.const c) = c) →
      ∃ v W', (execOp ρ o).run Try.prog W = .ok (.value v) W' ∧ C W' ∧ F i v W' ∧ ∀ j, j ≠ i → T j ≠ i → l.getD j false = true → l.getD (T j) false = false → F j (vals j) W') : Step Try.prog .any ops Q a C F T i o := by
  intro l vals W hI hi hdep
  obtain ⟨v, W', hv, hC, hF, hr⟩ := h l vals W (canon ops l vals a ops.size).eval hI hi hdep (fun j k h1 h2 h3 h4 => ev_get hd j k h1 h2 h3 h4) (fun k h => ev_old k h) (fun c => rfl)
  unfold Oper.wp
  rw [hv]
  exact ⟨v, rfl, hC, hF, hr⟩
end
section
variable {md : Region.Mode} {ops : Array Oper} {Q : Exit → Act → World → Prop}
theorem step_skip {i : Nat} {o : Oper} {a : Act} {C : World → Prop} {F : Nat → Value → World → Prop} {T : Nat → Nat} (hd : apartB ops = true)
    (h : ∀ l vals W (ρ : Operand → Value), Inv .any ops C F T l vals W → l.getD i false = false → (∀ e ∈ o.after, Region.binds .any e = true → l.getD e.on false = true) →
      (∀ j k, l.getD j false = true → dstOf ops j = some k → k < a.tmps.size → j < ops.size → ρ (.tmp k) = vals j) → (∀ k, ((List.range ops.size).all fun j => !(decide (dstOf ops j = some k))) = true → ρ (.tmp k) = a.eval (.tmp k)) → (∀ c, ρ (.const c) = c) →
      ∃ W', (execOp ρ o).run Try.prog W = .ok .skip W' ∧ C W' ∧ F i undef W' ∧ ∀ j, j ≠ i → T j ≠ i → l.getD j false = true → l.getD (T j) false = false → F j (vals j) W') : Step Try.prog .any ops Q a C F T i o := by
  intro l vals W hI hi hdep
  obtain ⟨W', hv, hC, hF, hr⟩ := h l vals W (canon ops l vals a ops.size).eval hI hi hdep (fun j k h1 h2 h3 h4 => ev_get hd j k h1 h2 h3 h4) (fun k h => ev_old k h) (fun c => rfl)
  unfold Oper.wp
  rw [hv]
  exact ⟨undef, rfl, hC, hF, hr⟩
end
section
variable {md : Region.Mode} {ops : Array Oper} {Q : Exit → Act → World → Prop}
theorem step_is {i : Nat} {o : Oper} {a : Act} {C : World → Prop} {F : Nat → Value → World → Prop} {T : Nat → Nat} (hd : apartB ops = true)
    (h : ∀ l vals W (ρ : Operand → Value), Inv .any ops C F T l vals W → l.getD i false = false → (∀ e ∈ o.after, Region.binds .any e = true → l.getD e.on false = true) →
      (∀ j k, l.getD j false = true → dstOf ops j = some k → k < a.tmps.size → j < ops.size → ρ (.tmp k) = vals j) → (∀ k, ((List.range ops.size).all fun j => !(decide (dstOf ops j = some k))) = true → ρ (.tmp k) = a.eval (.tmp k)) → (∀ c, ρ (.const c) = c) →
      ∃ v, (execOp ρ o).run Try.prog W = .ok (.value v) W ∧ F i v W) : Step Try.prog .any ops Q a C F T i o :=
  step_run hd fun l vals W ρ hI hi hdep h1 h2 h3 => by
    obtain ⟨v, hv, hF⟩ := h l vals W ρ hI hi hdep h1 h2 h3
    exact ⟨v, W, hv, hI.com, hF, fun j _ _ hj hT => hI.fact j hj hT⟩
end
section
variable {md : Region.Mode} {ops : Array Oper} {Q : Exit → Act → World → Prop}
/-- a call of a function of one argument -/
theorem step_fn {i : Nat} {o : Oper} {a : Act} {C : World → Prop} {F : Nat → Value → World → Prop} {T : Nat → Nat} (f k : Nat) (ts : Array TypeId) (ho : o.op = .call { callee := .value (.func f), args := #[.tmp k], argTypes := ts })
    (eg : ∀ args w, (callFunc f args).run Try.prog w = .ok (.enter f args) w)
    (h : ∀ l vals W, Inv .any ops C F T l vals W → l.getD i false = false → (∀ e ∈ o.after, Region.binds .any e = true → l.getD e.on false = true) → ∃ v, (canon ops l vals a ops.size).eval (.tmp k) = v ∧ Calls Try.prog f #[v] W fun e W' => ∃ r, e = .returned r ∧ C W' ∧ F i r W' ∧ ∀ j, j ≠ i → T j ≠ i → l.getD j false = true → l.getD (T j) false = false → F j (vals j) W') : Step Try.prog .any ops Q a C F T i o := by
  intro l vals W hI hi hdep
  obtain ⟨v, hv, hcall⟩ := h l vals W hI hi hdep
  have hf : (canon ops l vals a ops.size).eval (.func f) = .func (.func f) #[] #[] := rfl
  unfold Oper.wp
  generalize hact : canon ops l vals a ops.size = A at hv hf hcall ⊢
  have hx : (execOp A.eval o).run Try.prog W = .ok (.enter f #[v]) W := by
    generalize A.eval = ρ at hv hf ⊢
    simp [execOp, ho, resolve, invoke, eg, hv, hf, go_sem]
  rw [hx]
  refine hcall.mono fun e W' hr => ?_
  obtain ⟨r, rfl, hk⟩ := hr
  exact ⟨r, rfl, hk⟩
end
theorem setCell_row {w : World} {g k : Nat} {v : Value} {cs : Array Value} {t : TypeId} {fr : Nat × Nat} (h : w.heap[g]? = some (.cells cs t fr)) : (w.setCell ⟨g, k, none⟩ v).heap[g]? = some (.cells (cs.setIfInBounds k v) t fr) := by
  show (w.heap.modify g _)[g]? = _
  rw [Array.getElem?_modify, if_pos rfl, h]
  rfl
theorem wp_cut2 {c : Code} {Q : Exit → Act → World → Prop} {a : Act} {w : World} (I : Act → World → Prop) (h1 : c.wp Try.prog (fun e a w => e = .normal ∧ I a w) a w) (h2 : ∀ a w, I a w → Q .normal a w) : c.wp Try.prog Q a w :=
  (wpIn_wide (n := 0)).1 (wpIn_mono ((wpIn_wide (n := 0)).2 h1) fun e a w h => by obtain ⟨rfl, h⟩ := h; exact h2 a w h)
theorem never {ops : Array Oper} {C : World → Prop} {F : Nat → Value → World → Prop} {T : Nat → Nat} {l : Array Bool} {vals : Nat → Value} {W : World} (hI : Inv .any ops C F T l vals W) {k : Nat} (hs : ops.size ≤ k) : l.getD k false = false := by
  rw [Array.getD_eq_getD_getElem?, Array.getElem?_eq_none (by rw [hI.siz]; exact hs)]; rfl
section
variable {md : Region.Mode} {ops : Array Oper} {Q : Exit → Act → World → Prop}
def depB (md : Region.Mode) (ops : Array Oper) (j k : Nat) : Bool := (ops[j]?).any fun o => o.after.any fun e => Region.binds md e && decide (e.on = k)
end
section
variable {md : Region.Mode} {ops : Array Oper} {Q : Exit → Act → World → Prop}
/-- what holds where the operations of l are done -/
structure InvV (md : Region.Mode) (ops : Array Oper) (C : World → Prop) (F : Nat → (Nat → Value) → World → Prop) (T : Nat → Nat) (l : Array Bool) (vals : Nat → Value) (W : World) : Prop where
  siz : l.size = ops.size
  com : C W
  fact : ∀ j, l.getD j false = true → l.getD (T j) false = false → F j vals W
  clo : ∀ j o, ops[j]? = some o → l.getD j false = true → ∀ e ∈ o.after, Region.binds md e = true → l.getD e.on false = true
end
section
variable {md : Region.Mode} {ops : Array Oper} {Q : Exit → Act → World → Prop}
/-- what waits for k has not come up ahead of it -/
theorem InvV.ahead {C : World → Prop} {F : Nat → (Nat → Value) → World → Prop} {T : Nat → Nat} {l : Array Bool} {vals : Nat → Value} {W : World} (h : InvV md ops C F T l vals W) {k : Nat} (hk : l.getD k false = false) (j : Nat)
    (hj : ((ops[j]?).any fun o => o.after.any fun e => Region.binds md e && decide (e.on = k)) = true) : l.getD j false = false := by
  rcases hl : l.getD j false with _ | _
  · rfl
  · exfalso
    rcases ho : ops[j]? with _ | o
    · rw [ho] at hj; cases hj
    · rw [ho] at hj
      obtain ⟨e, he, h2⟩ : ∃ e, e ∈ o.after ∧ (Region.binds md e && decide (e.on = k)) = true := by
        have hj : (o.after.any fun e => Region.binds md e && decide (e.on = k)) = true := hj
        rw [Array.any_eq_true] at hj
        obtain ⟨i, hi, h2⟩ := hj
        exact ⟨o.after[i], Array.getElem_mem hi, h2⟩
      rw [Bool.and_eq_true, decide_eq_true_eq] at h2
      have h3 := h.clo j o ho hl e he h2.1
      rw [h2.2, hk] at h3
      cases h3
end
section
variable {md : Region.Mode} {ops : Array Oper} {Q : Exit → Act → World → Prop}
def StepV (P : Program) (md : Region.Mode) (ops : Array Oper) (Q : Exit → Act → World → Prop) (a : Act) (C : World → Prop) (F : Nat → (Nat → Value) → World → Prop) (T : Nat → Nat) (i : Nat) (o : Oper) : Prop :=
  ∀ (l : Array Bool) (vals : Nat → Value) (W : World), InvV md ops C F T l vals W → l.getD i false = false → (∀ e ∈ o.after, Region.binds md e = true → l.getD e.on false = true) →
    o.wp P (canon ops l vals a ops.size) W (fun a' W' => ∃ v, a' = (canon ops l vals a ops.size).put o.dst v ∧ C W' ∧ F i (upd vals i v) W' ∧ ∀ j, j ≠ i → T j ≠ i → l.getD j false = true → l.getD (T j) false = false → F j vals W') Q
end
section
variable {md : Region.Mode} {ops : Array Oper} {Q : Exit → Act → World → Prop}
theorem wpAny_factsV (P : Program) {M : Nat → List Nat} (hMB : ∀ j k, k ∈ M j → k ≠ j → depB md ops j k = true) {a : Act} {C : World → Prop} {F : Nat → (Nat → Value) → World → Prop} {T : Nat → Nat} (hp : plainB md ops = true) (hM : ∀ j vals vals' W, (∀ k ∈ M j, vals k = vals' k) → F j vals W → F j vals' W) (hs : AllFrom (StepV P md ops Q a C F T) 0 ops.toList)
    (he : ∀ l vals W, InvV md ops C F T l vals W → (∀ i, i < ops.size → l.getD i false = true) → Q .normal (canon ops (Array.replicate ops.size true) vals a ops.size) W) :
    ∀ n l vals W, n + cnt l = ops.size → InvV md ops C F T l vals W → wpAny P md ops Q n l (canon ops l vals a ops.size) W := by
  obtain ⟨hd, hf⟩ := fwd_of hp
  intro n
  induction n with
  | zero =>
    intro l vals W hn hI
    have hall := cnt_all (l := l) (by rw [hI.siz]; omega)
    refine ⟨?_, ?_⟩
    · unfold Region.ready
      rw [List.filter_eq_nil_iff]
      intro i hi
      have h := hall i (by rw [hI.siz]; exact List.mem_range.1 hi)
      have h2 : l.getD i true = true := by
        have hi2 := List.mem_range.1 hi
        rw [Array.getD_eq_getD_getElem?, Array.getElem?_eq_getElem (by rw [hI.siz]; exact hi2)] at h ⊢
        simpa using h
      simp [h2]
    · have hl : l = Array.replicate ops.size true := by
        refine Array.ext (by rw [hI.siz]; simp) fun i h1 h2 => ?_
        have h := hall i h1
        rw [Array.getD_eq_getD_getElem?, Array.getElem?_eq_getElem h1] at h
        simpa using h
      rw [hI.siz] at hall
      have h3 := he l vals W hI hall
      rwa [← hl] at h3
  | succ n ih =>
    intro l vals W hn hI
    have hopen : ∃ i, i < ops.size ∧ l.getD i false = false := by
      refine Classical.byContradiction fun hx => ?_
      have : ∀ b ∈ l.toList, id b = true := by
        intro b hb
        obtain ⟨i, hi, rfl⟩ := List.getElem_of_mem hb
        rcases h2 : l.getD i false with _ | _
        · exact absurd ⟨i, by rw [← hI.siz]; simpa using hi, h2⟩ hx
        · rw [Array.getD_eq_getD_getElem?, Array.getElem?_eq_getElem (by simpa using hi)] at h2
          simpa using h2
      have h3 := List.length_filter_eq_length_iff.2 this
      have h4 := hI.siz
      simp only [cnt] at hn
      simp at h3
      omega
    obtain ⟨k, hk, hk0⟩ := hopen
    refine ⟨fun h => absurd h (least_open (fun i o h => (hf i o h).2) hI.siz hk hk0), fun i hi => ?_⟩
    unfold Region.ready at hi
    rw [List.mem_filter, Bool.and_eq_true] at hi
    obtain ⟨hir, hi1, hi2⟩ := hi
    have hilt := List.mem_range.1 hir
    obtain ⟨o, ho⟩ : ∃ o, ops[i]? = some o := ⟨_, Array.getElem?_eq_getElem hilt⟩
    have hi0 : l.getD i false = false := by
      have hil : i < l.size := by rw [hI.siz]; exact hilt
      rw [Array.getD_eq_getD_getElem?, Array.getElem?_eq_getElem hil] at hi1 ⊢
      simpa using hi1
    rw [ho] at hi2
    simp only [Option.map_some, Option.getD_some, Array.all_eq_true_iff_forall_mem] at hi2
    have hdep : ∀ e ∈ o.after, Region.binds md e = true → l.getD e.on false = true := by
      intro e he hb
      have := hi2 e he
      simpa [hb] using this
    have hst := (AllFrom.at hs (j := i) (o := o) (by simpa using ho))
    rw [Nat.zero_add] at hst
    have hst := hst l vals W hI hi0 hdep
    have hw : Region.wanted o (yielded ops (canon ops l vals a ops.size).tmps) = true := by simp [Region.wanted, (hf i o ho).1]
    unfold wpOp
    rw [ho]
    simp only [hw, if_true]
    refine .inl (Oper.wp_mono ?_ hst)
    rintro a' W' ⟨v, rfl, hC, hF, hrest⟩
    have hcs := canon_set hd (a := a) (vals := vals) (v := v) hilt hI.siz hi0 ops.size (Nat.le_refl _)
    rw [if_pos hilt] at hcs
    have hdst : dstOf ops i = o.dst := by simp [dstOf, ho]
    rw [hdst] at hcs
    rw [← hcs]
    have hil : i < l.size := by rw [hI.siz]; exact hilt
    refine ih _ _ _ (by rw [cnt_set hil hi0]; omega) ⟨by rw [Array.size_setIfInBounds]; exact hI.siz, hC, fun j hj hT => by
    rw [getD_set hil] at hj hT
    by_cases hji : j = i
    · subst hji; exact hF
    · rw [if_neg hji] at hj
      by_cases hTi : T j = i
      · rw [if_pos hTi] at hT; cases hT
      · rw [if_neg hTi] at hT
        refine hM j vals _ W' (fun k hk => ?_) (hrest j hji hTi hj hT)
        have hki : k ≠ i := by
          by_cases hkj : k = j
          · rw [hkj]; exact hji
          · rintro rfl
            have h5 := hI.ahead hi0 j (hMB j k hk hkj)
            rw [hj] at h5; cases h5
        simp [upd, hki], fun j o' ho' hj e he hb => ?_⟩
    rw [getD_set hil] at hj ⊢
    by_cases hei : e.on = i
    · rw [if_pos hei]
    · rw [if_neg hei]
      by_cases hji : j = i
      · subst hji
        obtain rfl : o = o' := by rw [ho] at ho'; injection ho'
        exact hdep e he hb
      · rw [if_neg hji] at hj
        exact hI.clo j o' ho' hj e he hb
end
section
variable {md : Region.Mode} {ops : Array Oper} {Q : Exit → Act → World → Prop}
/-- a region that draws, by its operations' facts -/
theorem wp_region_factsV {id : Nat} {a : Act} {w : World} (C : World → Prop) (F : Nat → (Nat → Value) → World → Prop) (T : Nat → Nat) (M : Nat → List Nat) (hMB : ∀ j k, k ∈ M j → k ≠ j → depB .any ops j k = true) (hM : ∀ j vals vals' W, (∀ k ∈ M j, vals k = vals' k) → F j vals W → F j vals' W) (hm : Try.prog.follows .mixedOrders = true) (hp : plainB .any ops = true)
    (hC : C { w with drawn := w.drawn + 1 }) (hs : AllFrom (StepV Try.prog .any ops Q a C F T) 0 ops.toList)
    (he : ∀ vals W, C W → (∀ j, j < ops.size → ops.size ≤ T j → F j vals W) → Q .normal (canon ops (Array.replicate ops.size true) vals a ops.size) W) : (Code.region id ops true).wp Try.prog Q a w := by
  refine wp_region_any hm ?_
  have hc : canon ops (Array.replicate ops.size false) (fun _ => undef) a ops.size = a := by
    have h : ∀ n, canon ops (Array.replicate ops.size false) (fun _ => undef) a n = a := by
      intro n
      induction n with
      | zero => rfl
      | succ n ih =>
        unfold canon
        rw [ih]
        by_cases hn : n < ops.size
        · simp [Array.getD_eq_getD_getElem?, hn]
        · simp [Array.getD_eq_getD_getElem?, hn]
    exact h _
  have h := wpAny_factsV (Q := Q) Try.prog hMB hp hM hs (fun l vals W hI hall => he vals W hI.com fun j hj hT => hI.fact j (hall j hj) (by
    rw [Array.getD_eq_getD_getElem?, Array.getElem?_eq_none (by rw [hI.siz]; exact hT)]; rfl)) ops.size (Array.replicate ops.size false) (fun _ => undef) { w with drawn := w.drawn + 1 }
    (by simp [cnt]) ⟨by simp, hC, fun j hj => by
      rw [Array.getD_eq_getD_getElem?, Array.getElem?_replicate] at hj
      split at hj <;> simp at hj, fun j o _ hj => by
      rw [Array.getD_eq_getD_getElem?, Array.getElem?_replicate] at hj
      split at hj <;> simp at hj⟩
  rwa [hc] at h
end
section
variable {md : Region.Mode} {ops : Array Oper} {Q : Exit → Act → World → Prop}
theorem step_runV {i : Nat} {o : Oper} {a : Act} {C : World → Prop} {F : Nat → (Nat → Value) → World → Prop} {T : Nat → Nat} (hd : apartB ops = true)
    (h : ∀ l vals W (ρ : Operand → Value), InvV .any ops C F T l vals W → l.getD i false = false → (∀ e ∈ o.after, Region.binds .any e = true → l.getD e.on false = true) →
      (∀ j k, l.getD j false = true → dstOf ops j = some k → k < a.tmps.size → j < ops.size → ρ (.tmp k) = vals j) → (∀ k, ((List.range ops.size).all fun j => !(decide (dstOf ops j = some k))) = true → ρ (.tmp k) = a.eval (.tmp k)) → (∀ c, ρ (.const c) = c) →
      ∃ v W', ((execOp ρ o).run Try.prog W = .ok (.value v) W' ∨ (v = undef ∧ (execOp ρ o).run Try.prog W = .ok .skip W')) ∧ C W' ∧ F i (upd vals i v) W' ∧ ∀ j, j ≠ i → T j ≠ i → l.getD j false = true → l.getD (T j) false = false → F j vals W') : StepV Try.prog .any ops Q a C F T i o := by
  intro l vals W hI hi hdep
  obtain ⟨v, W', hv, hC, hF, hr⟩ := h l vals W (canon ops l vals a ops.size).eval hI hi hdep (fun j k h1 h2 h3 h4 => ev_get hd j k h1 h2 h3 h4) (fun k h => ev_old k h) (fun c => rfl)
  unfold Oper.wp
  rcases hv with hv | ⟨rfl, hv⟩
  · rw [hv]; exact ⟨v, rfl, hC, hF, hr⟩
  · rw [hv]; exact ⟨undef, rfl, hC, hF, hr⟩
end
section
variable {md : Region.Mode} {ops : Array Oper} {Q : Exit → Act → World → Prop}
theorem step_isV {i : Nat} {o : Oper} {a : Act} {C : World → Prop} {F : Nat → (Nat → Value) → World → Prop} {T : Nat → Nat} (hd : apartB ops = true)
    (h : ∀ l vals W (ρ : Operand → Value), InvV .any ops C F T l vals W → l.getD i false = false → (∀ e ∈ o.after, Region.binds .any e = true → l.getD e.on false = true) →
      (∀ j k, l.getD j false = true → dstOf ops j = some k → k < a.tmps.size → j < ops.size → ρ (.tmp k) = vals j) → (∀ k, ((List.range ops.size).all fun j => !(decide (dstOf ops j = some k))) = true → ρ (.tmp k) = a.eval (.tmp k)) → (∀ c, ρ (.const c) = c) →
      ∃ v, (execOp ρ o).run Try.prog W = .ok (.value v) W ∧ F i (upd vals i v) W) : StepV Try.prog .any ops Q a C F T i o :=
  step_runV hd fun l vals W ρ hI hi hdep h1 h2 h3 => by
    obtain ⟨v, hv, hF⟩ := h l vals W ρ hI hi hdep h1 h2 h3
    exact ⟨v, W, .inl hv, hI.com, hF, fun j _ _ hj hT => hI.fact j hj hT⟩
end
section
variable {md : Region.Mode} {ops : Array Oper} {Q : Exit → Act → World → Prop}
/-- a call of a Go function, its arguments known -/
theorem step_fnV {i : Nat} {o : Oper} {a : Act} {C : World → Prop} {F : Nat → (Nat → Value) → World → Prop} {T : Nat → Nat} (hd : apartB ops = true) (f : Nat) (args : Array Operand) (ts : Array TypeId) (ho : o.op = .call { callee := .value (.func f), args := args, argTypes := ts })
    (eg : ∀ args w, (callFunc f args).run Try.prog w = .ok (.enter f args) w)
    (h : ∀ l vals W (ρ : Operand → Value), InvV .any ops C F T l vals W → l.getD i false = false → (∀ e ∈ o.after, Region.binds .any e = true → l.getD e.on false = true) →
      (∀ j k, l.getD j false = true → dstOf ops j = some k → k < a.tmps.size → j < ops.size → ρ (.tmp k) = vals j) → (∀ k, ((List.range ops.size).all fun j => !(decide (dstOf ops j = some k))) = true → ρ (.tmp k) = a.eval (.tmp k)) → (∀ c, ρ (.const c) = c) →
      ∃ vs, args.map ρ = vs ∧ Calls Try.prog f vs W fun e W' => ∃ r, e = .returned r ∧ C W' ∧ F i (upd vals i r) W' ∧ ∀ j, j ≠ i → T j ≠ i → l.getD j false = true → l.getD (T j) false = false → F j vals W') : StepV Try.prog .any ops Q a C F T i o := by
  intro l vals W hI hi hdep
  obtain ⟨vs, hv, hcall⟩ := h l vals W (canon ops l vals a ops.size).eval hI hi hdep (fun j k h1 h2 h3 h4 => ev_get hd j k h1 h2 h3 h4) (fun k h => ev_old k h) (fun c => rfl)
  have hf : (canon ops l vals a ops.size).eval (.func f) = .func (.func f) #[] #[] := rfl
  unfold Oper.wp
  generalize hact : canon ops l vals a ops.size = A at hv hf hcall ⊢
  have hx : (execOp A.eval o).run Try.prog W = .ok (.enter f vs) W := by
    generalize A.eval = ρ at hv hf ⊢
    simp [execOp, ho, resolve, invoke, eg, hv, hf, go_sem]
  rw [hx]
  refine hcall.mono fun e W' hr => ?_
  obtain ⟨r, rfl, hk⟩ := hr
  exact ⟨r, rfl, hk⟩
end
section
variable {md : Region.Mode} {ops : Array Oper} {Q : Exit → Act → World → Prop}
theorem neverV {C : World → Prop} {F : Nat → (Nat → Value) → World → Prop} {T : Nat → Nat} {l : Array Bool} {vals : Nat → Value} {W : World} (hI : InvV .any ops C F T l vals W) {k : Nat} (hs : ops.size ≤ k) : l.getD k false = false := by
  rw [Array.getD_eq_getD_getElem?, Array.getElem?_eq_none (by rw [hI.siz]; exact hs)]; rfl
end
end Go.Proofs.Ytdimllmbalponaa
