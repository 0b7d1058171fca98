/-
  A configuration that came in, over the light base: what its value is, and where its lists lie.
-/
import Derived.Test.YtdennekkbdlhdaaDoorPlO
import Derived.WalkKit
import Derived.OpenShut
import Derived.Below
import Derived.Deep.Slices
import Derived.Deep.Fields
import Derived.Lib.SmallJoins
namespace Go.Proofs.YtdennekkbdlhdaaDoor
open Go.RowKit Go.Deep Go.ChangeShapes Go.WideShapes
set_option linter.unusedVariables false

structure Pt where
  node : Int
  lo : Int
  hi : Int
deriving Inhabited, DecidableEq
structure Po where
  part : Int
  kind : Int
  dir : Int
  size : Int
  depth : Int
  fresh : Int
deriving Inhabited, DecidableEq
structure Lk where
  source : Int
  dests : List Int
  offset : Int
deriving Inhabited, DecidableEq
structure Conf where
  nodes : Int
  owners : List Int
  drift : Int
  reading : Int
  margin : Int
  bound : Int
  rejoin : Int
  quota : Int
  parts : List Pt
  windows : List (List Int)
  ports : List Po
  links : List Lk
deriving Inhabited, DecidableEq

def Parts (w : World) (A : Option Addr) (l : List Pt) : Prop :=
  (∀ p ∈ l, I64 p.node ∧ I64 p.lo ∧ I64 p.hi) ∧ Lies w A l.length 3 fun i b o =>
    w.cell? ⟨b, o, none⟩ = some (.int .i64 (l.getD i default).node) ∧ w.cell? ⟨b, o + 1, none⟩ = some (.int .i64 (l.getD i default).lo) ∧ w.cell? ⟨b, o + 2, none⟩ = some (.int .i64 (l.getD i default).hi)
def Ports (w : World) (A : Option Addr) (l : List Po) : Prop :=
  (∀ p ∈ l, I64 p.part ∧ I64 p.kind ∧ I64 p.dir ∧ I64 p.size ∧ I64 p.depth ∧ I64 p.fresh) ∧ Lies w A l.length 6 fun i b o =>
    w.cell? ⟨b, o, none⟩ = some (.int .i64 (l.getD i default).part) ∧ w.cell? ⟨b, o + 1, none⟩ = some (.int .i64 (l.getD i default).kind) ∧ w.cell? ⟨b, o + 2, none⟩ = some (.int .i64 (l.getD i default).dir) ∧
    w.cell? ⟨b, o + 3, none⟩ = some (.int .i64 (l.getD i default).size) ∧ w.cell? ⟨b, o + 4, none⟩ = some (.int .i64 (l.getD i default).depth) ∧ w.cell? ⟨b, o + 5, none⟩ = some (.int .i64 (l.getD i default).fresh)
def IntRows (w : World) (A : Option Addr) (l : List (List Int)) : Prop :=
  Lies w A l.length 1 fun i b o => ∃ Ai ci, w.cell? ⟨b, o, none⟩ = some (.slice Ai (l.getD i []).length ci) ∧ (l.getD i []).length ≤ ci ∧ ci ≤ maxLen ∧ Ints w Ai (l.getD i [])
def Links (w : World) (A : Option Addr) (l : List Lk) : Prop :=
  (∀ p ∈ l, I64 p.source ∧ I64 p.offset) ∧ Lies w A l.length 3 fun i b o => ∃ Ai ci,
    w.cell? ⟨b, o, none⟩ = some (.int .i64 (l.getD i default).source) ∧ w.cell? ⟨b, o + 1, none⟩ = some (.slice Ai (l.getD i default).dests.length ci) ∧ w.cell? ⟨b, o + 2, none⟩ = some (.int .i64 (l.getD i default).offset) ∧
    (l.getD i default).dests.length ≤ ci ∧ ci ≤ maxLen ∧ Ints w Ai (l.getD i default).dests

/-- where a configuration's lists lie, and what room they have -/
structure Ad where
  oA : Option Addr
  oC : Nat
  pA : Option Addr
  pC : Nat
  wA : Option Addr
  wC : Nat
  qA : Option Addr
  qC : Nat
  lA : Option Addr
  lC : Nat

def Conf.val (c : Conf) (d : Ad) : Value :=
  .agg #[.int .i64 c.nodes, .slice d.oA c.owners.length d.oC, .int .i64 c.drift, .int .i64 c.reading, .int .i64 c.margin, .int .i64 c.bound, .int .i64 c.rejoin, .int .i64 c.quota,
    .slice d.pA c.parts.length d.pC, .slice d.wA c.windows.length d.wC, .slice d.qA c.ports.length d.qC, .slice d.lA c.links.length d.lC]

structure ConfAt (w : World) (c : Conf) (d : Ad) : Prop where
  nodes : I64 c.nodes
  drift : I64 c.drift
  reading : I64 c.reading
  margin : I64 c.margin
  bound : I64 c.bound
  rejoin : I64 c.rejoin
  quota : I64 c.quota
  owners : Ints w d.oA c.owners
  parts : Parts w d.pA c.parts
  windows : IntRows w d.wA c.windows
  ports : Ports w d.qA c.ports
  links : Links w d.lA c.links
  oLen : c.owners.length ≤ d.oC ∧ d.oC ≤ maxLen
  pLen : c.parts.length ≤ d.pC ∧ d.pC ≤ maxLen
  wLen : c.windows.length ≤ d.wC ∧ d.wC ≤ maxLen
  qLen : c.ports.length ≤ d.qC ∧ d.qC ≤ maxLen
  lLen : c.links.length ≤ d.lC ∧ d.lC ≤ maxLen

/-! ### Behind what makes memory alone -/

theorem Parts.of_below {w w' : World} {A : Option Addr} {l : List Pt} {B : Nat} (h : Parts w A l) (hb : Below B w w') (hB : w.heap.size ≤ B) : Parts w' A l :=
  ⟨h.1, h.2.of_below hb hB fun _ _ _ _ hlt ⟨h0, h1, h2⟩ => ⟨cell_below hb hB hlt h0, cell_below hb hB hlt h1, cell_below hb hB hlt h2⟩⟩
theorem Ports.of_below {w w' : World} {A : Option Addr} {l : List Po} {B : Nat} (h : Ports w A l) (hb : Below B w w') (hB : w.heap.size ≤ B) : Ports w' A l :=
  ⟨h.1, h.2.of_below hb hB fun _ _ _ _ hlt ⟨h0, h1, h2, h3, h4, h5⟩ => ⟨cell_below hb hB hlt h0, cell_below hb hB hlt h1, cell_below hb hB hlt h2, cell_below hb hB hlt h3, cell_below hb hB hlt h4, cell_below hb hB hlt h5⟩⟩
theorem IntRows.of_below {w w' : World} {A : Option Addr} {l : List (List Int)} {B : Nat} (h : IntRows w A l) (hb : Below B w w') (hB : w.heap.size ≤ B) : IntRows w' A l :=
  Lies.of_below h hb hB fun _ _ _ _ hlt ⟨Ai, ci, h0, h1, h2, h3⟩ => ⟨Ai, ci, cell_below hb hB hlt h0, h1, h2, h3.of_below hb hB⟩
theorem Links.of_below {w w' : World} {A : Option Addr} {l : List Lk} {B : Nat} (h : Links w A l) (hb : Below B w w') (hB : w.heap.size ≤ B) : Links w' A l :=
  ⟨h.1, h.2.of_below hb hB fun _ _ _ _ hlt ⟨Ai, ci, h0, h1, h2, h3, h4, h5⟩ => ⟨Ai, ci, cell_below hb hB hlt h0, cell_below hb hB hlt h1, cell_below hb hB hlt h2, h3, h4, h5.of_below hb hB⟩⟩
theorem ConfAt.of_below {w w' : World} {c : Conf} {d : Ad} {B : Nat} (h : ConfAt w c d) (hb : Below B w w') (hB : w.heap.size ≤ B) : ConfAt w' c d :=
  { h with owners := h.owners.of_below hb hB, parts := h.parts.of_below hb hB, windows := h.windows.of_below hb hB, ports := h.ports.of_below hb hB, links := h.links.of_below hb hB }

theorem Ints.num {w : World} {A : Option Addr} {l : List Int} (h : Ints w A l) (k : Nat) : I64 (l.getD k 0) := by
  rcases Nat.lt_or_ge k l.length with hk | hk
  · rw [List.getD_eq_getElem?_getD, List.getElem?_eq_getElem hk]
    exact h.1 _ (List.getElem_mem hk)
  · rw [List.getD_eq_getElem?_getD, List.getElem?_eq_none hk]
    exact ⟨by decide, by decide⟩

theorem IntRows.at {w : World} {A : Option Addr} {l : List (List Int)} (h : IntRows w A l) {k : Nat} (hk : k < l.length) :
    ∃ b off Ai ci, A = some ⟨b, off, none⟩ ∧ b < w.heap.size ∧ w.cell? ⟨b, off + k, none⟩ = some (.slice Ai (l.getD k []).length ci) ∧ (l.getD k []).length ≤ ci ∧ ci ≤ maxLen ∧ Ints w Ai (l.getD k []) := by
  rcases h with h0 | ⟨b, off, rfl, hlt, hc⟩
  · omega
  · obtain ⟨Ai, ci, h1⟩ := hc k hk
    exact ⟨b, off, Ai, ci, rfl, hlt, by simpa using h1⟩
theorem Links.at {w : World} {A : Option Addr} {l : List Lk} (h : Links w A l) {k : Nat} (hk : k < l.length) :
    ∃ b off Ai ci, A = some ⟨b, off, none⟩ ∧ b < w.heap.size ∧ w.cell? ⟨b, off + k * 3, none⟩ = some (.int .i64 (l.getD k default).source) ∧ w.cell? ⟨b, off + k * 3 + 1, none⟩ = some (.slice Ai (l.getD k default).dests.length ci) ∧
      w.cell? ⟨b, off + k * 3 + 2, none⟩ = some (.int .i64 (l.getD k default).offset) ∧ (l.getD k default).dests.length ≤ ci ∧ ci ≤ maxLen ∧ Ints w Ai (l.getD k default).dests ∧ I64 (l.getD k default).source ∧ I64 (l.getD k default).offset := by
  have hm : l.getD k default ∈ l := by
    rw [List.getD_eq_getElem?_getD, List.getElem?_eq_getElem hk]
    exact List.getElem_mem hk
  rcases h.2 with h0 | ⟨b, off, rfl, hlt, hc⟩
  · omega
  · obtain ⟨Ai, ci, h1, h2, h3, h4, h5, h6⟩ := hc k hk
    exact ⟨b, off, Ai, ci, rfl, hlt, h1, h2, h3, h4, h5, h6, (h.1 _ hm).1, (h.1 _ hm).2⟩

/-- no list is longer than what memory bears -/
structure Borne (c : Conf) : Prop where
  owners : c.owners.length ≤ 281474976710656
  parts : c.parts.length ≤ 281474976710656
  windows : c.windows.length ≤ 281474976710656
  ports : c.ports.length ≤ 281474976710656
  links : c.links.length ≤ 281474976710656
  row : ∀ k, (c.windows.getD k []).length ≤ 281474976710656
  dests : ∀ k, (c.links.getD k default).dests.length ≤ 281474976710656

/-! ### Opened -/

section
variable {H : Type} {enc : TypeId × Value → H} {w : World}

theorem int_rows_of {fuel : Nat} {v : Value} {x : DataW H × List MemPlace} (h : DataW.trod enc Tryd.prog w 0 (fun _ => true) true fuel 30 [v] = some x) :
    ∃ (A : Option Addr) (L : List (List Int)) (c : Nat), v = .slice A L.length c ∧ L.length ≤ c ∧ c ≤ maxLen ∧ IntRows w A L := by
  obtain ⟨A, L, c, h1, h2, h3, h4, _⟩ := lies_of (α := List Int) (k := 1) (p := fun z b o => ∃ Ai ci, w.cell? ⟨b, o, none⟩ = some (.slice Ai z.length ci) ∧ z.length ≤ ci ∧ ci ≤ maxLen ∧ Ints w Ai z) Tryd.underlying30 (by kernel_rfl) (by omega)
    (fun n b o cs y hl hc ht => by
      match cs, hl with
      | [v'], _ =>
        obtain ⟨Ai, z, ci, rfl, g1, g2, g3⟩ := ints_of ht
        exact ⟨z, Ai, ci, by simpa using hc 0 (by omega), g1, g2, g3⟩) h
  exact ⟨A, L, c, h1, h2, h3, h4⟩

theorem parts_of {fuel : Nat} {v : Value} {x : DataW H × List MemPlace} (h : DataW.trod enc Tryd.prog w 0 (fun _ => true) true fuel 29 [v] = some x) :
    ∃ (A : Option Addr) (L : List Pt) (c : Nat), v = .slice A L.length c ∧ L.length ≤ c ∧ c ≤ maxLen ∧ Parts w A L := by
  have k : Tryd.prog.cellsOf 47 = 3 := by kernel_rfl
  obtain ⟨A, L, c, h1, h2, h3, h4, h5⟩ := lies_of (α := Pt) (k := 3) (p := fun z b o => (w.cell? ⟨b, o, none⟩ = some (.int .i64 z.node) ∧ w.cell? ⟨b, o + 1, none⟩ = some (.int .i64 z.lo) ∧ w.cell? ⟨b, o + 2, none⟩ = some (.int .i64 z.hi)) ∧ I64 z.node ∧ I64 z.lo ∧ I64 z.hi) Tryd.underlying29 k (by omega)
    (fun n b o cs y hl hc ht => by
      obtain ⟨z0, e0, i0⟩ := int_field Tryd.underlying47 (by kernel_rfl) ht 0 _ rfl rfl (by omega)
      obtain ⟨z1, e1, i1⟩ := int_field Tryd.underlying47 (by kernel_rfl) ht 1 _ rfl rfl (by omega)
      obtain ⟨z2, e2, i2⟩ := int_field Tryd.underlying47 (by kernel_rfl) ht 2 _ rfl rfl (by omega)
      exact ⟨⟨z0, z1, z2⟩, ⟨(hc 0 (by omega)).trans e0, (hc 1 (by omega)).trans e1, (hc 2 (by omega)).trans e2⟩, i0, i1, i2⟩) h
  refine ⟨A, L, c, h1, h2, h3, fun z hz => ?_, ?_⟩
  · rcases h5 with rfl | h5
    · cases hz
    · obtain ⟨b, o, hp⟩ := h5 z hz
      exact hp.2
  · rcases h4 with h4 | ⟨b, off, e, hlt, hp⟩
    · exact .inl h4
    · exact .inr ⟨b, off, e, hlt, fun i hi => (hp i hi).1⟩

theorem ports_of {fuel : Nat} {v : Value} {x : DataW H × List MemPlace} (h : DataW.trod enc Tryd.prog w 0 (fun _ => true) true fuel 31 [v] = some x) :
    ∃ (A : Option Addr) (L : List Po) (c : Nat), v = .slice A L.length c ∧ L.length ≤ c ∧ c ≤ maxLen ∧ Ports w A L := by
  have k : Tryd.prog.cellsOf 49 = 6 := by kernel_rfl
  obtain ⟨A, L, c, h1, h2, h3, h4, h5⟩ := lies_of (α := Po) (k := 6) (p := fun z b o => (w.cell? ⟨b, o, none⟩ = some (.int .i64 z.part) ∧ w.cell? ⟨b, o + 1, none⟩ = some (.int .i64 z.kind) ∧ w.cell? ⟨b, o + 2, none⟩ = some (.int .i64 z.dir) ∧
      w.cell? ⟨b, o + 3, none⟩ = some (.int .i64 z.size) ∧ w.cell? ⟨b, o + 4, none⟩ = some (.int .i64 z.depth) ∧ w.cell? ⟨b, o + 5, none⟩ = some (.int .i64 z.fresh)) ∧ I64 z.part ∧ I64 z.kind ∧ I64 z.dir ∧ I64 z.size ∧ I64 z.depth ∧ I64 z.fresh) Tryd.underlying31 k (by omega)
    (fun n b o cs y hl hc ht => by
      obtain ⟨z0, e0, i0⟩ := int_field Tryd.underlying49 (by kernel_rfl) ht 0 _ rfl rfl (by omega)
      obtain ⟨z1, e1, i1⟩ := int_field Tryd.underlying49 (by kernel_rfl) ht 1 _ rfl rfl (by omega)
      obtain ⟨z2, e2, i2⟩ := int_field Tryd.underlying49 (by kernel_rfl) ht 2 _ rfl rfl (by omega)
      obtain ⟨z3, e3, i3⟩ := int_field Tryd.underlying49 (by kernel_rfl) ht 3 _ rfl rfl (by omega)
      obtain ⟨z4, e4, i4⟩ := int_field Tryd.underlying49 (by kernel_rfl) ht 4 _ rfl rfl (by omega)
      obtain ⟨z5, e5, i5⟩ := int_field Tryd.underlying49 (by kernel_rfl) ht 5 _ rfl rfl (by omega)
      exact ⟨⟨z0, z1, z2, z3, z4, z5⟩, ⟨(hc 0 (by omega)).trans e0, (hc 1 (by omega)).trans e1, (hc 2 (by omega)).trans e2, (hc 3 (by omega)).trans e3, (hc 4 (by omega)).trans e4, (hc 5 (by omega)).trans e5⟩, i0, i1, i2, i3, i4, i5⟩) h
  refine ⟨A, L, c, h1, h2, h3, fun z hz => ?_, ?_⟩
  · rcases h5 with rfl | h5
    · cases hz
    · obtain ⟨b, o, hp⟩ := h5 z hz
      exact hp.2
  · rcases h4 with h4 | ⟨b, off, e, hlt, hp⟩
    · exact .inl h4
    · exact .inr ⟨b, off, e, hlt, fun i hi => (hp i hi).1⟩

theorem links_of {fuel : Nat} {v : Value} {x : DataW H × List MemPlace} (h : DataW.trod enc Tryd.prog w 0 (fun _ => true) true fuel 32 [v] = some x) :
    ∃ (A : Option Addr) (L : List Lk) (c : Nat), v = .slice A L.length c ∧ L.length ≤ c ∧ c ≤ maxLen ∧ Links w A L := by
  have k : Tryd.prog.cellsOf 51 = 3 := by kernel_rfl
  obtain ⟨A, L, c, h1, h2, h3, h4, h5⟩ := lies_of (α := Lk) (k := 3) (p := fun z b o => (∃ Ai ci, w.cell? ⟨b, o, none⟩ = some (.int .i64 z.source) ∧ w.cell? ⟨b, o + 1, none⟩ = some (.slice Ai z.dests.length ci) ∧ w.cell? ⟨b, o + 2, none⟩ = some (.int .i64 z.offset) ∧
      z.dests.length ≤ ci ∧ ci ≤ maxLen ∧ Ints w Ai z.dests) ∧ I64 z.source ∧ I64 z.offset) Tryd.underlying32 k (by omega)
    (fun n b o cs y hl hc ht => by
      obtain ⟨z0, e0, i0⟩ := int_field Tryd.underlying51 (by kernel_rfl) ht 0 _ rfl rfl (by omega)
      obtain ⟨v1, m1, y1, e1, t1⟩ := field_of Tryd.underlying51 (by kernel_rfl) ht 1 _ rfl (by omega)
      obtain ⟨z2, e2, i2⟩ := int_field Tryd.underlying51 (by kernel_rfl) ht 2 _ rfl rfl (by omega)
      obtain ⟨Ai, l, ci, rfl, g1, g2, g3⟩ := ints_of t1
      exact ⟨⟨z0, l, z2⟩, ⟨Ai, ci, (hc 0 (by omega)).trans e0, (hc 1 (by omega)).trans e1, (hc 2 (by omega)).trans e2, g1, g2, g3⟩, i0, i2⟩) h
  refine ⟨A, L, c, h1, h2, h3, fun z hz => ?_, ?_⟩
  · rcases h5 with rfl | h5
    · cases hz
    · obtain ⟨b, o, hp⟩ := h5 z hz
      exact hp.2
  · rcases h4 with h4 | ⟨b, off, e, hlt, hp⟩
    · exact .inl h4
    · exact .inr ⟨b, off, e, hlt, fun i hi => (hp i hi).1⟩

theorem array12 {α : Type} {cs : Array α} (h : cs.size = 12) : ∃ c0 c1 c2 c3 c4 c5 c6 c7 c8 c9 c10 c11, cs = #[c0, c1, c2, c3, c4, c5, c6, c7, c8, c9, c10, c11] := by
  obtain ⟨l⟩ := cs
  match l, h with
  | [c0, c1, c2, c3, c4, c5, c6, c7, c8, c9, c10, c11], _ => exact ⟨c0, c1, c2, c3, c4, c5, c6, c7, c8, c9, c10, c11, rfl⟩

set_option maxRecDepth 100000 in
/-- A CONFIGURATION THAT CAME IN. -/
theorem conf_of {r : Reach} {base : Nat} {v : Value} {d : DataW H} {p : List MemPlace} (hv : Value.okWide Tryd.prog w r base 34 v) (h : DataW.Trod enc Tryd.prog w 0 (fun _ => true) true 34 v d p) :
    ∃ (c : Conf) (a : Ad), v = c.val a ∧ ConfAt w c a := by
  have k : Tryd.prog.cellsOf 34 = 12 := by kernel_rfl
  obtain ⟨cs, rfl, hsz⟩ := okWide_struct Tryd.underlying34 hv
  obtain ⟨c0, c1, c2, c3, c4, c5, c6, c7, c8, c9, c10, c11, rfl⟩ := array12 (hsz.trans k)
  obtain ⟨fuel, ht⟩ := h
  have ht' : DataW.trod enc Tryd.prog w 0 (fun _ => true) true fuel 34 [c0, c1, c2, c3, c4, c5, c6, c7, c8, c9, c10, c11] = some (d, p) := by simpa [Value.cells] using ht
  clear ht hv hsz
  obtain ⟨z0, e0, i0⟩ := int_field Tryd.underlying34 (by kernel_rfl) ht' 0 _ rfl rfl (by omega)
  obtain ⟨z2, e2, i2⟩ := int_field Tryd.underlying34 (by kernel_rfl) ht' 2 _ rfl rfl (by omega)
  obtain ⟨z3, e3, i3⟩ := int_field Tryd.underlying34 (by kernel_rfl) ht' 3 _ rfl rfl (by omega)
  obtain ⟨z4, e4, i4⟩ := int_field Tryd.underlying34 (by kernel_rfl) ht' 4 _ rfl rfl (by omega)
  obtain ⟨z5, e5, i5⟩ := int_field Tryd.underlying34 (by kernel_rfl) ht' 5 _ rfl rfl (by omega)
  obtain ⟨z6, e6, i6⟩ := int_field Tryd.underlying34 (by kernel_rfl) ht' 6 _ rfl rfl (by omega)
  obtain ⟨z7, e7, i7⟩ := int_field Tryd.underlying34 (by kernel_rfl) ht' 7 _ rfl rfl (by omega)
  obtain ⟨v1, m1, y1, e1, t1⟩ := field_of Tryd.underlying34 (by kernel_rfl) ht' 1 _ rfl (by omega)
  obtain ⟨A1, l1, n1, rfl, g1, x1, r1⟩ := ints_of t1
  obtain ⟨v8, m8, y8, e8, t8⟩ := field_of Tryd.underlying34 (by kernel_rfl) ht' 8 _ rfl (by omega)
  obtain ⟨A8, l8, n8, rfl, g8, x8, r8⟩ := parts_of t8
  obtain ⟨v9, m9, y9, e9, t9⟩ := field_of Tryd.underlying34 (by kernel_rfl) ht' 9 _ rfl (by omega)
  obtain ⟨A9, l9, n9, rfl, g9, x9, r9⟩ := int_rows_of t9
  obtain ⟨v10, m10, y10, e10, t10⟩ := field_of Tryd.underlying34 (by kernel_rfl) ht' 10 _ rfl (by omega)
  obtain ⟨A10, l10, n10, rfl, g10, x10, r10⟩ := ports_of t10
  obtain ⟨v11, m11, y11, e11, t11⟩ := field_of Tryd.underlying34 (by kernel_rfl) ht' 11 _ rfl (by omega)
  obtain ⟨A11, l11, n11, rfl, g11, x11, r11⟩ := links_of t11
  simp only [List.getElem?_cons_zero, List.getElem?_cons_succ, Option.some.injEq] at e0 e1 e2 e3 e4 e5 e6 e7 e8 e9 e10 e11
  subst e0 e1 e2 e3 e4 e5 e6 e7 e8 e9 e10 e11
  exact ⟨⟨z0, l1, z2, z3, z4, z5, z6, z7, l8, l9, l10, l11⟩, ⟨A1, n1, A8, n8, A9, n9, A10, n10, A11, n11⟩, rfl,
    { nodes := i0, drift := i2, reading := i3, margin := i4, bound := i5, rejoin := i6, quota := i7, owners := r1, parts := r8, windows := r9, ports := r10, links := r11, oLen := ⟨g1, x1⟩, pLen := ⟨g8, x8⟩, wLen := ⟨g9, x9⟩, qLen := ⟨g10, x10⟩, lLen := ⟨g11, x11⟩ }⟩

end
end Go.Proofs.YtdennekkbdlhdaaDoor
