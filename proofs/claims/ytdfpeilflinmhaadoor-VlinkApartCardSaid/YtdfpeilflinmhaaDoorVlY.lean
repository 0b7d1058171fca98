/-
  VlinkApart: what comes in, and messages that are gathered.
-/
import Derived.Test.YtdfpeilflinmhaaDoorVlW
import Derived.Test.YtdfpeilflinmhaaDoorVlO
namespace Go.Proofs.YtdfpeilflinmhaaDoor
open Go.RowKit Go.Deep Go.ChangeShapes Go.WideShapes
set_option linter.unusedVariables false
set_option linter.unusedSimpArgs false

theorem vparts_of {c : Conf} (h : checkF c = 0) : ∀ k, k < c.parts.length → 0 ≤ (c.parts.getD k default).node ∧ (c.parts.getD k default).node < c.nodes := by
  unfold checkF checkW at h
  split at h
  · cases h
  split at h
  · cases h
  split at h
  · cases h
  rename_i h3
  exact fun k hk => ((Decidable.not_not.1 h3).2.1 k hk).1
section
variable {H : Type} {enc : TypeId × Value → H} {w : World}
set_option maxRecDepth 100000 in
theorem other_of {r : Reach} {base : Nat} {v : Value} {d : DataW H} {p : List MemPlace} (hv : Value.okWide Tryd.prog w r base 60 v) (h : DataW.Trod enc Tryd.prog w 0 (fun _ => true) true 60 v d p) :
    ∃ (z : Int) (A : Option Addr) (y : Ms) (m : Nat), v = .agg #[.int .u8 z, .slice A y.data.length m, .bool y.is] ∧ 0 ≤ z ∧ z ≤ 255 ∧ y.data.length ≤ m ∧ m ≤ maxLen ∧ Bytes w A y.data := by
  have k : Tryd.prog.cellsOf 60 = 3 := by kernel_rfl
  obtain ⟨cs, rfl, hsz⟩ := okWide_struct Tryd.underlying60 hv
  obtain ⟨c0, c1, c2, rfl⟩ := varray3 (hsz.trans k)
  obtain ⟨fuel, ht⟩ := h
  have ht' : DataW.trod enc Tryd.prog w 0 (fun _ => true) true fuel 60 [c0, c1, c2] = some (d, p) := by simpa [Value.cells] using ht
  clear ht hv hsz
  obtain ⟨xs, n, _, _, _, hxl, hfs⟩ := DataW.trod_struct Tryd.underlying60 ht'
  have hxl2 : xs.length = 2 := hxl
  have h0 : DataW.trod enc Tryd.prog w 0 (fun _ => true) true n 5 (([c0, c1, c2].drop 0).take (Tryd.prog.cellsOf 5)) = xs[0]? := hfs 0 _ rfl
  have h1 : DataW.trod enc Tryd.prog w 0 (fun _ => true) true n 58 (([c0, c1, c2].drop 1).take (Tryd.prog.cellsOf 58)) = xs[1]? := hfs 1 _ rfl
  rw [show Tryd.prog.cellsOf 5 = 1 by kernel_rfl, List.getElem?_eq_getElem (by omega)] at h0
  rw [show Tryd.prog.cellsOf 58 = 2 by kernel_rfl, List.getElem?_eq_getElem (by omega)] at h1
  simp only [List.drop_zero, List.drop_succ_cons, List.take_succ_cons, List.take_zero] at h0 h1
  obtain ⟨z, e0, _, i0⟩ := DataW.trod_int Tryd.underlying5 h0
  have hb := bounds_u8 i0
  simp at e0
  subst e0
  have k2 : Tryd.prog.cellsOf 58 = 2 := by kernel_rfl
  obtain ⟨v0, m0, y0, e0, t0⟩ := field_of Tryd.underlying58 (by kernel_rfl) h1 0 _ rfl (by omega)
  obtain ⟨v1, m1, y1, e1, t1⟩ := field_of Tryd.underlying58 (by kernel_rfl) h1 1 _ rfl (by omega)
  obtain ⟨a, len, cap, rfl⟩ : ∃ a len cap, v0 = .slice a len cap := by
    rcases open_ints Tryd.underlying53 Tryd.underlying5 (by kernel_rfl) t0 with ⟨hcs, _⟩ | ⟨b, len', cap', zs, hcs, _⟩
    · simp at hcs; exact ⟨_, _, _, hcs⟩
    · simp at hcs; exact ⟨_, _, _, hcs⟩
  obtain ⟨l, rfl, l1, l2, l3⟩ := bytes_of t0
  obtain ⟨bb, hbb, _⟩ := DataW.trod_bool Tryd.underlying4 t1
  simp at hbb
  subst hbb
  simp only [List.getElem?_cons_zero, List.getElem?_cons_succ, Option.some.injEq] at e0 e1
  subst e0 e1
  exact ⟨z, a, ⟨l, bb⟩, cap, rfl, hb.1, hb.2, l1, l2, l3⟩
end

/-- a message whose bytes lie in w -/
def MsV (w : World) (A : Option Addr) (m : Nat) (y : Ms) : Prop := y.data.length ≤ m ∧ m ≤ maxLen ∧ Bytes w A y.data
def msC (p : Ms × Value) : List Value := [p.2, .bool p.1.is]
theorem msC_len (p : Ms × Value) : (msC p).length = 2 := rfl
/-- messages in a row of one's own -/
structure MrAt (w W : World) (base : Nat) (v : Value) (R : List (Ms × Value)) : Prop where
  row : W.ownsRow base 58 2 v R.length (R.flatMap msC)
  ms : ∀ p ∈ R, ∃ A m, p.2 = .slice A p.1.data.length m ∧ MsV w A m p.1
theorem MrAt.nil (w W : World) (base : Nat) : MrAt w W base (.slice none 0 0) [] := ⟨⟨rfl, .inl ⟨rfl, rfl⟩⟩, fun p hp => by cases hp⟩
theorem MrAt.to {w W : World} {base m : Nat} {A : Option Addr} {R : List (Ms × Value)} (h : MrAt w W base (.slice A R.length m) R) (hb : ∀ j, j < w.heap.size → W.heap[j]? = w.heap[j]?) (hs : w.heap.size ≤ W.heap.size) : MsAt W A (R.map Prod.fst) := by
  unfold MsAt Lies
  rw [List.length_map]
  rcases Nat.eq_zero_or_pos R.length with h0 | h0
  · exact .inl h0
  · obtain ⟨g, c, he, _, hg, _, _, hc⟩ := ow_open h.row h0
    cases he
    refine .inr ⟨g, 0, rfl, hg, fun i hi => ?_⟩
    obtain ⟨p, hp⟩ : ∃ p, R[i]? = some p := ⟨_, List.getElem?_eq_getElem hi⟩
    have hgi : (R.map Prod.fst).getD i default = p.1 := by rw [List.getD_eq_getElem?_getD, List.getElem?_map, hp]; rfl
    rw [hgi, Nat.zero_add]
    obtain ⟨B, m2, e, h1, h2, h3⟩ := h.ms p (List.mem_of_getElem? hp)
    refine ⟨B, m2, ?_, ?_, h1, h2, h3.1, h3.2.imp id fun ⟨b, off, e, hlt, hc⟩ => ⟨b, off, e, Nat.lt_of_lt_of_le hlt hs, fun i hi => (World.cell?_of_block (a := ⟨b, off + i, none⟩) (hb b hlt)).trans (hc i hi)⟩⟩
    · rw [hc (i * 2) p.2 (by rw [show i * 2 = i * 2 + 0 by rfl, fm_at msC_len R i 0 p hp (by omega)]; rfl), e]
    · exact hc (i * 2 + 1) (.bool p.1.is) (by rw [fm_at msC_len R i 1 p hp (by omega)]; rfl)
theorem info_msg : (Tryd.prog.info? 58).map (fun i => (i.zero, i.size, i.bytes)) = some (some (.agg #[.slice none 0 0, .bool false]), 2, 32) := by kernel_rfl
theorem info_msg1 : (Tryd.prog.info? 58).map (·.size) = some 2 := by kernel_rfl
/-- one message while it is made -/
structure YkS (w5 W1 W : World) (yb : Nat) (cs : Array Value) : Prop where
  blk : W.heap[yb]? = some (.cells cs 58 (0, 0))
  oth : ∀ j, j ≠ yb → W.heap[j]? = W1.heap[j]?
  siz : W.heap.size = W1.heap.size
  bel : Below w5.heap.size w5 W
theorem YkS.set {w5 W1 W : World} {yb : Nat} {cs cs' : Array Value} (h : YkS w5 W1 W yb cs) (hy : w5.heap.size ≤ yb) : YkS w5 W1 (W.setRow yb cs') yb cs' :=
  ⟨setRow_heap _ _ _ _ _ _ h.blk, fun j hj => (setRow_other _ _ _ _ hj).trans (h.oth j hj), by simp [h.siz], below_setRow h.bel hy cs'⟩

/-- what stands beside a configuration: the other message, in the block behind it -/
structure OtS (w W : World) (c : Conf) (d : Ad) (z : Int) (A : Option Addr) (m : Nat) (y : Ms) : Prop where
  cf : CfS w W c d
  ot : W.heap[w.heap.size + 1]? = some (.cells #[.int .u8 z, .slice A y.data.length m, .bool y.is] 60 (0, 0))
section
variable {w W W' : World} {c : Conf} {d : Ad} {z : Int} {A : Option Addr} {m : Nat} {y : Ms}
theorem OtS.lt (h : OtS w W c d z A m y) : w.heap.size + 1 < W.heap.size := (Array.getElem?_eq_some_iff.1 h.ot).1
theorem OtS.below (h : OtS w W c d z A m y) (hb : Below W.heap.size W W') : OtS w W' c d z A m y := ⟨h.cf.below hb, (hb.block _ h.lt).trans h.ot⟩
theorem OtS.made (h : CfS w W c d) (hz : W.heap.size = w.heap.size + 1) : OtS w (W.alloc (.cells #[.int .u8 z, .slice A y.data.length m, .bool y.is] 60)) c d z A m y := by
  have n1 := heap_alloc_new W (.cells #[.int .u8 z, .slice A y.data.length m, .bool y.is] 60)
  exact ⟨h.below (bal W _), by rw [← hz]; exact n1⟩
theorem OtS.only (h0 : Glo w) (h1 : ConfAt w c d) (h : OtS w W c d z A m y) (hb : Below w.heap.size w W') (h2 : ∀ j, j < w.heap.size + 2 → W'.heap[j]? = W.heap[j]?) : OtS w W' c d z A m y :=
  ⟨h.cf.only h0 h1 hb (h2 _ (by omega)), (h2 _ (by omega)).trans h.ot⟩
end
theorem asks_first2 {wm W : World} {xa m : Nat} {A : Option Addr} {n : Nat} (hb : Below wm.heap.size wm W) (hx : W.heap[xa]? = some (.cells #[.slice A n m, .slice none 0 0] 37 (0, 0))) :
    AsH wm xa A n m [] (fun j => j < wm.heap.size ∨ j = xa ∨ (Value.slice none 0 0).ownBlock = some j) W :=
  ⟨fun j hj => hb.block j hj, hb.size, _, hx, ⟨rfl, .inl ⟨rfl, rfl⟩⟩, fun j => Iff.rfl⟩
/-- a slice of a payload's room -/
theorem sl_at (g o s : Nat) (h : o + 1 + s ≤ 64) (h1 : 1 ≤ s) : ∀ W : World, (Instr.sliceAt 38 (.pointer (some ⟨g, 0, none⟩)) (some (.int .i64 ((o : Int) + 1))) (some (.int .i64 ((o : Int) + 1 + (s : Int)))) none).run Tryd.prog W = .ok (.slice (some ⟨g, o + 1, none⟩) s (63 - o)) W := by
  intro W
  rw [run_sliceAt_array_lh W 38 ⟨g, 0, none⟩ (by kernel_rfl) .i64 .i64 _ _ (by omega) (by omega) (by rw [show Tryd.prog.arrayLen 38 = 64 by kernel_rfl]; omega)]
  rw [show ((o : Int) + 1 + (s : Int)).toNat = o + 1 + s by omega, show ((o : Int) + 1).toNat = o + 1 by omega]
  simp [slicedAt, show Tryd.prog.arrayLen 38 = 64 by kernel_rfl, show Tryd.prog.elem 38 = 5 by kernel_rfl, Tryd.sizeOf5]
  rw [if_neg (by omega), plain_add, Nat.zero_add]
/-- a new block that is written whole -/
theorem row_made (W : World) (zz pp : Array Value) (t : TypeId) : Below W.heap.size W ((W.alloc (.cells zz t)).setRow W.heap.size pp) ∧ ((W.alloc (.cells zz t)).setRow W.heap.size pp).heap[W.heap.size]? = some (.cells pp t (0, 0)) :=
  ⟨below_setRow (bal W _) (Nat.le_refl _) pp, setRow_heap _ _ _ _ _ _ (heap_alloc_new W _)⟩
theorem pay_cell {W : World} {g : Nat} {p : List Nat} {pp : Array Value} {t : TypeId} {fz : Nat × Nat} (h : W.heap[g]? = some (.cells pp t fz)) (hp : bys p = pp) {j : Nat} (hj : j < p.length) : W.cell? ⟨g, j, none⟩ = some (.int .u8 ((p.getD j 0 : Nat) : Int)) := by
  rw [cell_of_row _ _ _ _ _ _ h, ← hp]
  simp [bys, List.getD_eq_getElem?_getD, List.getElem?_eq_getElem hj]
theorem dtl_bytes {w : World} {A : Option Addr} {L : List Ms} (h : MsAt w A L) : ∀ z, ∀ b ∈ dtL L z, b < 256 := fun z b hb => by
  unfold dtL at hb
  split at hb
  · rename_i hz
    obtain ⟨_, _, _, _, _, _, _, _, _, _, hby⟩ := h.at hz.2
    exact hby.1 b hb
  · cases hb
end Go.Proofs.YtdfpeilflinmhaaDoor
