/-
  strings.Builder at this dump: what a builder of the call's own holds, and how writing goes on from it.
-/
import Derived.Test.YtohmenghlboalaaDoorPl
import Derived.Lib.FrozenHead2
import Derived.Lib.OthersKept
import Derived.Lib.Builder
import Derived.Lib.UnsafeStr
namespace Go.Proofs.YtohmenghlboalaaDoor
open Go.RowKit Go.Shelf
attribute [local go_sem] Oper.semAt_some
set_option linter.unusedVariables false
set_option linter.unusedSimpArgs false
set_option maxRecDepth 100000

/-- block b holds a builder whose bytes are l; all of it lies from block B on -/
def Bd (B b : Nat) (l : List UInt8) (W : World) : Prop := Lib.IsBuilderF 41 5 B b (Lib.byteCells l) W
/-- all blocks but b's and rows of bytes stand as they stood, and so does all below B -/
structure BdK (B b : Nat) (w W : World) : Prop where
  low : Below B w W
  kept : Lib.OthersKept 5 (some b) w W
theorem BdK.refl (B b : Nat) (w : World) : BdK B b w w := ⟨Below.refl _ _, Lib.OthersKept.refl _ _ _⟩
theorem BdK.trans {B b : Nat} {u v w : World} (h : BdK B b u v) (k : BdK B b v w) : BdK B b u w := ⟨h.low.trans k.low, h.kept.trans k.kept⟩
theorem Bd.lt {B b : Nat} {l : List UInt8} {W : World} (h : Bd B b l W) : b < W.heap.size := Or.elim h (·.lt) (·.lt)
theorem Bd.low {B b : Nat} {l : List UInt8} {W : World} (h : Bd B b l W) : B ≤ b := Or.elim h (·.1) (·.1)
theorem Bd.new (w : World) : Bd w.heap.size w.heap.size [] (w.alloc (.cells #[.pointer none, .slice none 0 0] 41)) := Lib.IsBuilderF.of (Lib.fresh_isBuilder _ _ w)
/-- it stays one where nothing has changed but above the world's end -/
theorem Bd.below {B b : Nat} {l : List UInt8} {w w' : World} (h : Bd B b l w) (hb : Below w.heap.size w w') : Bd B b l w' := by
  have old : ∀ {k : Nat} {o : Obj}, w.heap[k]? = some o → w'.heap[k]? = some o := fun e => (hb.block _ (Array.getElem?_eq_some_iff.1 e).1).trans e
  refine Or.imp ?_ ?_ h <;>
    (rintro ⟨h1, v, h2, h3, h4⟩
     exact ⟨h1, v, old h2, ⟨h3.1, h3.2.imp id fun ⟨g, c, cur, fz, e1, e2, e3, e4⟩ => ⟨g, c, cur, fz, e1, e2, old e3, e4⟩⟩, h4⟩)

theorem bd_info : (Tryd.prog.info? 41).map (·.size) = some 2 := by kernel_rfl
theorem bd_lies : liesAt Tryd.prog Tryd.prog.depth 41 (2 / Tryd.prog.cellsOf 41) 0 41 1 = true := by kernel_rfl
theorem bd_byte : (Tryd.prog.info? 5).map (fun i => (i.zero, i.size, i.bytes)) = some (some (.int .u8 0), 1, 1) := by kernel_rfl

/-- a builder whose own address stands in it -/
structure Bu (B b : Nat) (l : List UInt8) (v : Value) (W : World) : Prop where
  lo : B ≤ b
  row : W.heap[b]? = some (.cells #[.pointer (some ⟨b, 0, none⟩), v] 41 (0, 0))
  own : W.ownsRowF B 5 1 v l.length (Lib.byteCells l)
  ne : v.ownBlock ≠ some b
theorem Bu.bd {B b : Nat} {l : List UInt8} {v : Value} {W : World} (h : Bu B b l v W) : Bd B b l W :=
  .inr ⟨h.lo, v, h.row, by rw [Lib.byteCells_length]; exact h.own, h.ne⟩
theorem Bu.of {B b : Nat} {l : List UInt8} {W : World} (h : Lib.BuilderAtF 41 5 B b (.pointer (some ⟨b, 0, none⟩)) (Lib.byteCells l) W) : ∃ v, Bu B b l v W := by
  obtain ⟨h1, v, h2, h3, h4⟩ := h
  rw [Lib.byteCells_length] at h3
  exact ⟨v, h1, h2, h3, h4⟩

set_option maxHeartbeats 1000000 in
/-- copyCheck: behind it the builder's own address stands in it -/
theorem check_at (B b : Nat) (l : List UInt8) (w : World) (h : Bd B b l w) :
    Calls Tryd.prog 23 #[.pointer (some ⟨b, 0, none⟩)] w fun e w' => e = .returned (.tuple #[]) ∧ BdK B b w w' ∧ ∃ v, Bu B b l v w' := by
  obtain ⟨j, hj, hjs⟩ := Option.map_eq_some_iff.1 bd_info
  rcases h with h | h
  · have HK := hide (show BdK B b w (w.setCell ⟨b, 0, none⟩ (.pointer (some ⟨b, 0, none⟩))) from ⟨(Below.refl B w).setCell (p := ⟨b, 0, none⟩) h.1 _, (Lib.OthersKept.refl _ _ w).setCell ⟨b, 0, none⟩ rfl _⟩)
    have HB := hide (Bu.of (h.used (.pointer (some ⟨b, 0, none⟩))))
    have c0 := h.cell0
    have sh := h.shape
    have fz := h.frozen0
    clear h
    go_enter Tryd.func23, Tryd.ntmps23
    go_wp2
    rw [Lib.run_to_unsafe w ⟨b, 0, none⟩ Tryd.underlying38 Tryd.underlying65 hj (by rw [hjs]; decide) sh (Nat.succ_pos 1)]
    simp only [Result.andThen]
    rw [Oper.upon_value]
    go_wp2
    rw [run_callFunc_extern Tryd.func35 (by kernel_rfl) (by kernel_rfl) (by kernel_rfl) (e := Extern.AbiNoEscape.same) (by kernel_rfl), Lib.run_noEscape]
    simp only [Result.andThen]
    rw [Oper.upon_value]
    go_wp2
    rw [Lib.run_from_unsafe w ⟨b, 0, none⟩ Tryd.underlying65 Tryd.underlying38 hj sh bd_lies]
    simp only [Result.andThen]
    rw [Oper.upon_value]
    go_wp2
    go_end0
    exact ⟨rfl, HK.out, HB.out⟩
  · have HB := hide (Bu.of h)
    have c0 := h.cell0
    clear h
    go_enter Tryd.func23, Tryd.ntmps23
    go_wp2
    rw [Lib.run_neq_ptr_same w _ Tryd.underlying38 hj]
    go_wp2
    go_end0
    exact ⟨rfl, BdK.refl _ _ _, HB.out⟩

/-- what stands when append has laid bytes behind a builder's own (w0: the world in which it began; x: what it answered) -/
theorem Bu.more {B b : Nat} {l m : List UInt8} {v x : Value} {w1 w0 w2 : World} (h : Bu B b l v w1) (h0 : Below w1.heap.size w1 w0) (hg : w0.grownBy w2 v.ownBlock) (hx : w2.ownsRowF B 5 1 x (l ++ m).length (Lib.byteCells (l ++ m))) :
    w2.heap[b]? = some (.cells #[.pointer (some ⟨b, 0, none⟩), v] 41 (0, 0)) ∧ Bd B b (l ++ m) (w2.setCell ⟨b, 1, none⟩ x) ∧ BdK B b w1 (w2.setCell ⟨b, 1, none⟩ x) := by
  have hl : b < w1.heap.size := (Array.getElem?_eq_some_iff.1 h.row).1
  have hr : w2.heap[b]? = some (.cells #[.pointer (some ⟨b, 0, none⟩), v] 41 (0, 0)) :=
    (hg.block b (Nat.lt_of_lt_of_le hl h0.size) fun e => h.ne e.symm).trans ((h0.block b hl).trans h.row)
  have hk : Lib.OthersKept 5 (some b) w1 w0 := fun k o e _ _ => (h0.block k (Array.getElem?_eq_some_iff.1 e).1).trans e
  have hB : B ≤ w1.heap.size := Nat.le_trans h.lo (Nat.le_of_lt hl)
  refine ⟨hr, .inr ?_, ⟨?_, (hk.grown hg fun g e => ?_).setCell ⟨b, 1, none⟩ rfl _⟩⟩
  · exact Lib.BuilderAtF.put h.lo hr (by rw [Lib.byteCells_length]; exact hx) (by decide)
  · exact ((h0.mono hB).grown hg (Nat.le_trans hB h0.size) fun k e => (h.own.lt k e).1).setCell (p := ⟨b, 1, none⟩) h.lo _
  · obtain ⟨c, fz, e2⟩ := Lib.ownsRowF_kind h.own g e
    exact ⟨c, fz, (h0.block g (Array.getElem?_eq_some_iff.1 e2).1).trans e2⟩

set_option maxHeartbeats 2000000 in
/-- WriteByte -/
theorem wbyte_at (B b : Nat) (l : List UInt8) (c : UInt8) (w : World) (h : Bd B b l w) (hlen : l.length + 1 ≤ 140737488355328) :
    Calls Tryd.prog 16 #[.pointer (some ⟨b, 0, none⟩), .int .u8 (c.toNat : Nat)] w fun e w' => e = .returned .nilIface ∧ Bd B b (l ++ [c]) w' ∧ BdK B b w w' := by
  obtain ⟨i0, hi, hz0, hz1, hz2⟩ := info_parts bd_byte
  go_enter Tryd.func16, Tryd.ntmps16
  go_wp2_with (go_at_call 23; refine (check_at B b l _ h).mono ?_)
  rintro e w1 ⟨rfl, hK, v, hU⟩
  have HK := hide hK
  have HM := hide (fun (w0 w2 : World) (x : Value) h0 hg hx => hU.more (m := [c]) (w0 := w0) (w2 := w2) (x := x) h0 hg hx)
  have hown := hU.own
  have hs1 : B ≤ w1.heap.size := Nat.le_trans hU.lo (Nat.le_of_lt (Array.getElem?_eq_some_iff.1 hU.row).1)
  have c1 : w1.cell? ⟨b, 1, none⟩ = some v := by rw [cell_of_row _ _ _ _ _ _ hU.row]; rfl
  clear hK hU h
  go_wp2_with (at_builtin; refine wpList_append_ownF _ rfl _ _ 39 rfl B 5 i0 (.int .u8 0) 1 1 Tryd.underlying39 hi hz0 hz1 hz2 rfl (by decide) _ _ _ rfl (hown.alloc _) ⟨w1.heap.size, 0, none⟩ 1 1 [.int .u8 (c.toNat : Nat)] rfl rfl ?x1 ?x2 ?x3 ?x4 ?x5 ?_)
  case x1 =>
    intro k u hk
    rcases k with _ | k
    · obtain rfl : Value.int .u8 (c.toNat : Nat) = u := by simpa using hk
      simp [Addr.add]
    · simp at hk
  case x2 => intro u hu; obtain rfl := List.mem_singleton.1 hu; rfl
  case x3 => unfold maxLen; omega
  case x4 => omega
  case x5 => rw [World.size_alloc]; omega
  intro x w2 hx hg _
  obtain ⟨hr, hbd, hk⟩ := HM.out _ _ _ (bal w1 _) hg (by rw [Lib.byteCells_append, List.length_append]; exact hx)
  have d1 : w2.cell? ⟨b, 1, none⟩ = some v := by rw [cell_of_row _ _ _ _ _ _ hr]; rfl
  have f1 : w2.frozen? ⟨b, 1, none⟩ = false := by simp [World.frozen?, hr]
  obtain ⟨ao, n, cap, rfl⟩ : ∃ ao n cap, x = .slice ao n cap := by
    rcases hx.2 with ⟨e, _⟩ | ⟨g, cap, _, _, e, _⟩ <;> exact ⟨_, _, _, e⟩
  have HBd := hide hbd
  have HK2 := hide hk
  clear hx hg hr hbd hk hown
  go_wp2
  go_ret
  exact ⟨rfl, HBd.out, HK.out.trans HK2.out⟩

set_option maxHeartbeats 2000000 in
/-- WriteString -/
theorem wstr_at (B b : Nat) (l m : List UInt8) (w : World) (h : Bd B b l w) (hlen : l.length + m.length ≤ 140737488355328) :
    Calls Tryd.prog 15 #[.pointer (some ⟨b, 0, none⟩), .string ⟨m.toArray⟩] w fun e w' => e = .returned (.tuple #[.int .i64 (ByteArray.mk m.toArray).size, .nilIface]) ∧ Bd B b (l ++ m) w' ∧ BdK B b w w' := by
  obtain ⟨i0, hi, hz0, hz1, hz2⟩ := info_parts bd_byte
  have hms : (ByteArray.mk m.toArray).size = m.length := by simp [ByteArray.size]
  go_enter Tryd.func15, Tryd.ntmps15
  go_wp2_with (go_at_call 23; refine (check_at B b l _ h).mono ?_)
  rintro e w1 ⟨rfl, hK, v, hU⟩
  have HK := hide hK
  have HM := hide (fun (w2 : World) (x : Value) hg hx => hU.more (m := m) (w2 := w2) (x := x) (Below.refl _ _) hg hx)
  have hown := hU.own
  have hs1 : B ≤ w1.heap.size := Nat.le_trans hU.lo (Nat.le_of_lt (Array.getElem?_eq_some_iff.1 hU.row).1)
  have c1 : w1.cell? ⟨b, 1, none⟩ = some v := by rw [cell_of_row _ _ _ _ _ _ hU.row]; rfl
  clear hK hU h
  go_wp2_with (at_builtin; refine Lib.wpList_append_own_stringF _ rfl _ _ 39 9 rfl B 5 i0 Tryd.underlying39 Tryd.underlying9 hi hz0 hz1 hz2 _ _ _ rfl hown ⟨m.toArray⟩ rfl ?x3 ?x4 hs1 ?_)
  case x3 => unfold maxLen; omega
  case x4 => omega
  intro x w2 hx hg _
  obtain ⟨hr, hbd, hk⟩ := HM.out _ _ hg (by rw [Lib.byteCells_append, List.length_append]; exact hx)
  have d1 : w2.cell? ⟨b, 1, none⟩ = some v := by rw [cell_of_row _ _ _ _ _ _ hr]; rfl
  have f1 : w2.frozen? ⟨b, 1, none⟩ = false := by simp [World.frozen?, hr]
  obtain ⟨ao, n, cap, rfl⟩ : ∃ ao n cap, x = .slice ao n cap := by
    rcases hx.2 with ⟨e, _⟩ | ⟨g, cap, _, _, e, _⟩ <;> exact ⟨_, _, _, e⟩
  have HBd := hide hbd
  have HK2 := hide hk
  clear hx hg hr hbd hk hown hms
  go_wp2
  go_ret2
  exact ⟨rfl, HBd.out, HK.out.trans HK2.out⟩
end Go.Proofs.YtohmenghlboalaaDoor
