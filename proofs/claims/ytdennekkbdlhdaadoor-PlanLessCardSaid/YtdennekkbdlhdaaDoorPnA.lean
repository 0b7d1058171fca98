/-
  A demand that came in: what its value is, and where its lists lie; and what may be in it, number by number.
-/
import Derived.Test.YtdennekkbdlhdaaDoorPnM
import Derived.SizedLaws
import Derived.Handed
namespace Go.Proofs.YtdennekkbdlhdaaDoor
open Go.RowKit Go.Deep Go.ChangeShapes Go.WideShapes Go.Shelf
attribute [local go_sem] Oper.semAt_some
set_option linter.unusedVariables false
set_option linter.unusedSimpArgs false
set_option maxRecDepth 100000

def Tks (w : World) (A : Option Addr) (l : List Tk) : Prop :=
  (∀ p ∈ l, I64 p.node ∧ I64 p.mem ∧ I64 p.share) ∧ Lies w A l.length 3 fun i b o =>
    w.cell? ⟨b, o, none⟩ = some (.int .i64 (l.getD i default).node) ∧ w.cell? ⟨b, o + 1, none⟩ = some (.int .i64 (l.getD i default).mem) ∧ w.cell? ⟨b, o + 2, none⟩ = some (.int .i64 (l.getD i default).share)
def Sms (w : World) (A : Option Addr) (l : List Sm) : Prop :=
  (∀ p ∈ l, I64 p.src ∧ I64 p.kind ∧ I64 p.size ∧ I64 p.depth ∧ I64 p.fresh) ∧ Lies w A l.length 6 fun i b o => ∃ Ai ci,
    w.cell? ⟨b, o, none⟩ = some (.int .i64 (l.getD i default).src) ∧ w.cell? ⟨b, o + 1, none⟩ = some (.slice Ai (l.getD i default).dests.length ci) ∧ w.cell? ⟨b, o + 2, none⟩ = some (.int .i64 (l.getD i default).kind) ∧
    w.cell? ⟨b, o + 3, none⟩ = some (.int .i64 (l.getD i default).size) ∧ w.cell? ⟨b, o + 4, none⟩ = some (.int .i64 (l.getD i default).depth) ∧ w.cell? ⟨b, o + 5, none⟩ = some (.int .i64 (l.getD i default).fresh) ∧
    (l.getD i default).dests.length ≤ ci ∧ ci ≤ maxLen ∧ Ints w Ai (l.getD i default).dests
/-- where a demand's lists lie, and what room they have -/
structure Da where
  tA : Option Addr
  tC : Nat
  sA : Option Addr
  sC : Nat
def Dm.val (d : Dm) (a : Da) : Value := .agg #[.int .i64 d.nodes, .int .i64 d.drift, .int .i64 d.reading, .int .i64 d.rejoin, .int .i64 d.quota, .slice a.tA d.tasks.length a.tC, .slice a.sA d.streams.length a.sC]
/-- what memory bears of a demand's lists -/
structure Dsz (d : Dm) : Prop where
  tasks : d.tasks.length ≤ 281474976710656
  streams : d.streams.length ≤ 281474976710656
  dests : ∀ k, k < d.streams.length → (d.streams.getD k default).dests.length ≤ 281474976710656
structure DmAt0 (w : World) (d : Dm) (a : Da) : Prop where
  nodes : I64 d.nodes
  drift : I64 d.drift
  reading : I64 d.reading
  rejoin : I64 d.rejoin
  quota : I64 d.quota
  tasks : Tks w a.tA d.tasks
  streams : Sms w a.sA d.streams
  tLen : d.tasks.length ≤ a.tC ∧ a.tC ≤ maxLen
  sLen : d.streams.length ≤ a.sC ∧ a.sC ≤ maxLen
structure DmAt (w : World) (d : Dm) (a : Da) : Prop extends DmAt0 w d a where
  sz : Dsz d

theorem Tks.of_below {w w' : World} {A : Option Addr} {l : List Tk} {B : Nat} (h : Tks w A l) (hb : Below B w w') (hB : w.heap.size ≤ B) : Tks w' A l :=
  ⟨h.1, h.2.of_below hb hB fun _ _ _ _ hlt ⟨h0, h1, h2⟩ => ⟨cell_below hb hB hlt h0, cell_below hb hB hlt h1, cell_below hb hB hlt h2⟩⟩
theorem Sms.of_below {w w' : World} {A : Option Addr} {l : List Sm} {B : Nat} (h : Sms w A l) (hb : Below B w w') (hB : w.heap.size ≤ B) : Sms w' A l :=
  ⟨h.1, h.2.of_below hb hB fun _ _ _ _ hlt ⟨Ai, ci, h0, h1, h2, h3, h4, h5, h6, h7, h8⟩ => ⟨Ai, ci, cell_below hb hB hlt h0, cell_below hb hB hlt h1, cell_below hb hB hlt h2, cell_below hb hB hlt h3, cell_below hb hB hlt h4, cell_below hb hB hlt h5, h6, h7, h8.of_below hb hB⟩⟩
theorem DmAt.of_below {w w' : World} {d : Dm} {a : Da} {B : Nat} (h : DmAt w d a) (hb : Below B w w') (hB : w.heap.size ≤ B) : DmAt w' d a :=
  { h with tasks := h.tasks.of_below hb hB, streams := h.streams.of_below hb hB }
theorem Tks.at {w : World} {A : Option Addr} {l : List Tk} (h : Tks w A l) {k : Nat} (hk : k < l.length) :
    ∃ b off, A = some ⟨b, off, none⟩ ∧ b < w.heap.size ∧ w.cell? ⟨b, off + k * 3, none⟩ = some (.int .i64 (l.getD k default).node) ∧ w.cell? ⟨b, off + k * 3 + 1, none⟩ = some (.int .i64 (l.getD k default).mem) ∧ w.cell? ⟨b, off + k * 3 + 2, none⟩ = some (.int .i64 (l.getD k default).share) := by
  rcases h.2 with h0 | ⟨b, off, rfl, hlt, hc⟩
  · omega
  · exact ⟨b, off, rfl, hlt, hc k hk⟩
theorem Sms.at {w : World} {A : Option Addr} {l : List Sm} (h : Sms w A l) {k : Nat} (hk : k < l.length) :
    ∃ b off Ai ci, A = some ⟨b, off, none⟩ ∧ b < w.heap.size ∧ w.cell? ⟨b, off + k * 6, none⟩ = some (.int .i64 (l.getD k default).src) ∧ w.cell? ⟨b, off + k * 6 + 1, none⟩ = some (.slice Ai (l.getD k default).dests.length ci) ∧ w.cell? ⟨b, off + k * 6 + 2, none⟩ = some (.int .i64 (l.getD k default).kind) ∧
      w.cell? ⟨b, off + k * 6 + 3, none⟩ = some (.int .i64 (l.getD k default).size) ∧ w.cell? ⟨b, off + k * 6 + 4, none⟩ = some (.int .i64 (l.getD k default).depth) ∧ w.cell? ⟨b, off + k * 6 + 5, none⟩ = some (.int .i64 (l.getD k default).fresh) ∧
      (l.getD k default).dests.length ≤ ci ∧ ci ≤ maxLen ∧ Ints w Ai (l.getD k default).dests := by
  rcases h.2 with h0 | ⟨b, off, rfl, hlt, hc⟩
  · omega
  · obtain ⟨Ai, ci, h1⟩ := hc k hk
    exact ⟨b, off, Ai, ci, rfl, hlt, h1⟩

section
variable {H : Type} {enc : TypeId × Value → H} {w : World}
theorem tks_of {fuel : Nat} {v : Value} {x : DataW H × List MemPlace} (h : DataW.trod enc Tryd.prog w 0 (fun _ => true) true fuel 22 [v] = some x) :
    ∃ (A : Option Addr) (L : List Tk) (c : Nat), v = .slice A L.length c ∧ L.length ≤ c ∧ c ≤ maxLen ∧ Tks w A L := by
  have k : Tryd.prog.cellsOf 43 = 3 := by kernel_rfl
  obtain ⟨A, L, c, h1, h2, h3, h4, h5⟩ := lies_of (α := Tk) (k := 3) (p := fun z b o => (w.cell? ⟨b, o, none⟩ = some (.int .i64 z.node) ∧ w.cell? ⟨b, o + 1, none⟩ = some (.int .i64 z.mem) ∧ w.cell? ⟨b, o + 2, none⟩ = some (.int .i64 z.share)) ∧ I64 z.node ∧ I64 z.mem ∧ I64 z.share) Tryd.underlying22 k (by omega)
    (fun n b o cs y hl hc ht => by
      obtain ⟨z0, e0, i0⟩ := int_field Tryd.underlying43 (by kernel_rfl) ht 0 _ rfl rfl (by omega)
      obtain ⟨z1, e1, i1⟩ := int_field Tryd.underlying43 (by kernel_rfl) ht 1 _ rfl rfl (by omega)
      obtain ⟨z2, e2, i2⟩ := int_field Tryd.underlying43 (by kernel_rfl) ht 2 _ rfl rfl (by omega)
      exact ⟨⟨z0, z1, z2⟩, ⟨(hc 0 (by omega)).trans e0, (hc 1 (by omega)).trans e1, (hc 2 (by omega)).trans e2⟩, i0, i1, i2⟩) h
  refine ⟨A, L, c, h1, h2, h3, fun z hz => ?_, ?_⟩
  · rcases h5 with rfl | h5
    · cases hz
    · obtain ⟨b, o, hp⟩ := h5 z hz
      exact hp.2
  · rcases h4 with h4 | ⟨b, off, e, hlt, hp⟩
    · exact .inl h4
    · exact .inr ⟨b, off, e, hlt, fun i hi => (hp i hi).1⟩
theorem sms_of {fuel : Nat} {v : Value} {x : DataW H × List MemPlace} (h : DataW.trod enc Tryd.prog w 0 (fun _ => true) true fuel 23 [v] = some x) :
    ∃ (A : Option Addr) (L : List Sm) (c : Nat), v = .slice A L.length c ∧ L.length ≤ c ∧ c ≤ maxLen ∧ Sms w A L := by
  have k : Tryd.prog.cellsOf 53 = 6 := by kernel_rfl
  obtain ⟨A, L, c, h1, h2, h3, h4, h5⟩ := lies_of (α := Sm) (k := 6) (p := fun z b o => (∃ Ai ci, w.cell? ⟨b, o, none⟩ = some (.int .i64 z.src) ∧ w.cell? ⟨b, o + 1, none⟩ = some (.slice Ai z.dests.length ci) ∧ w.cell? ⟨b, o + 2, none⟩ = some (.int .i64 z.kind) ∧
      w.cell? ⟨b, o + 3, none⟩ = some (.int .i64 z.size) ∧ w.cell? ⟨b, o + 4, none⟩ = some (.int .i64 z.depth) ∧ w.cell? ⟨b, o + 5, none⟩ = some (.int .i64 z.fresh) ∧
      z.dests.length ≤ ci ∧ ci ≤ maxLen ∧ Ints w Ai z.dests) ∧ I64 z.src ∧ I64 z.kind ∧ I64 z.size ∧ I64 z.depth ∧ I64 z.fresh) Tryd.underlying23 k (by omega)
    (fun n b o cs y hl hc ht => by
      obtain ⟨z0, e0, i0⟩ := int_field Tryd.underlying53 (by kernel_rfl) ht 0 _ rfl rfl (by omega)
      obtain ⟨v1, m1, y1, e1, t1⟩ := field_of Tryd.underlying53 (by kernel_rfl) ht 1 _ rfl (by omega)
      obtain ⟨z2, e2, i2⟩ := int_field Tryd.underlying53 (by kernel_rfl) ht 2 _ rfl rfl (by omega)
      obtain ⟨z3, e3, i3⟩ := int_field Tryd.underlying53 (by kernel_rfl) ht 3 _ rfl rfl (by omega)
      obtain ⟨z4, e4, i4⟩ := int_field Tryd.underlying53 (by kernel_rfl) ht 4 _ rfl rfl (by omega)
      obtain ⟨z5, e5, i5⟩ := int_field Tryd.underlying53 (by kernel_rfl) ht 5 _ rfl rfl (by omega)
      obtain ⟨Ai, l, ci, rfl, g1, g2, g3⟩ := ints_of t1
      exact ⟨⟨z0, l, z2, z3, z4, z5⟩, ⟨Ai, ci, (hc 0 (by omega)).trans e0, (hc 1 (by omega)).trans e1, (hc 2 (by omega)).trans e2, (hc 3 (by omega)).trans e3, (hc 4 (by omega)).trans e4, (hc 5 (by omega)).trans e5, g1, g2, g3⟩, i0, i2, i3, i4, i5⟩) h
  refine ⟨A, L, c, h1, h2, h3, fun z hz => ?_, ?_⟩
  · rcases h5 with rfl | h5
    · cases hz
    · obtain ⟨b, o, hp⟩ := h5 z hz
      exact hp.2
  · rcases h4 with h4 | ⟨b, off, e, hlt, hp⟩
    · exact .inl h4
    · exact .inr ⟨b, off, e, hlt, fun i hi => (hp i hi).1⟩
theorem array7 {α : Type} {cs : Array α} (h : cs.size = 7) : ∃ c0 c1 c2 c3 c4 c5 c6, cs = #[c0, c1, c2, c3, c4, c5, c6] := by
  obtain ⟨l⟩ := cs
  match l, h with
  | [c0, c1, c2, c3, c4, c5, c6], _ => exact ⟨c0, c1, c2, c3, c4, c5, c6, rfl⟩
/-- A DEMAND THAT CAME IN. -/
theorem dem_of {r : Reach} {base : Nat} {v : Value} {d : DataW H} {p : List MemPlace} (hv : Value.okWide Tryd.prog w r base 25 v) (h : DataW.Trod enc Tryd.prog w 0 (fun _ => true) true 25 v d p) :
    ∃ (c : Dm) (a : Da), v = c.val a ∧ DmAt0 w c a := by
  have k : Tryd.prog.cellsOf 25 = 7 := by kernel_rfl
  obtain ⟨cs, rfl, hsz⟩ := okWide_struct Tryd.underlying25 hv
  obtain ⟨c0, c1, c2, c3, c4, c5, c6, rfl⟩ := array7 (hsz.trans k)
  obtain ⟨fuel, ht⟩ := h
  have ht' : DataW.trod enc Tryd.prog w 0 (fun _ => true) true fuel 25 [c0, c1, c2, c3, c4, c5, c6] = some (d, p) := by simpa [Value.cells] using ht
  clear ht hv hsz
  obtain ⟨z0, e0, i0⟩ := int_field Tryd.underlying25 (by kernel_rfl) ht' 0 _ rfl rfl (by omega)
  obtain ⟨z1, e1, i1⟩ := int_field Tryd.underlying25 (by kernel_rfl) ht' 1 _ rfl rfl (by omega)
  obtain ⟨z2, e2, i2⟩ := int_field Tryd.underlying25 (by kernel_rfl) ht' 2 _ rfl rfl (by omega)
  obtain ⟨z3, e3, i3⟩ := int_field Tryd.underlying25 (by kernel_rfl) ht' 3 _ rfl rfl (by omega)
  obtain ⟨z4, e4, i4⟩ := int_field Tryd.underlying25 (by kernel_rfl) ht' 4 _ rfl rfl (by omega)
  obtain ⟨v5, m5, y5, e5, t5⟩ := field_of Tryd.underlying25 (by kernel_rfl) ht' 5 _ rfl (by omega)
  obtain ⟨A5, l5, n5, rfl, g5, x5, r5⟩ := tks_of t5
  obtain ⟨v6, m6, y6, e6, t6⟩ := field_of Tryd.underlying25 (by kernel_rfl) ht' 6 _ rfl (by omega)
  obtain ⟨A6, l6, n6, rfl, g6, x6, r6⟩ := sms_of t6
  simp only [List.getElem?_cons_zero, List.getElem?_cons_succ, Option.some.injEq] at e0 e1 e2 e3 e4 e5 e6
  subst e0 e1 e2 e3 e4 e5 e6
  exact ⟨⟨z0, z1, z2, z3, z4, l5, l6⟩, ⟨A5, n5, A6, n6⟩, rfl, ⟨i0, i1, i2, i3, i4, r5, r6, ⟨g5, x5⟩, ⟨g6, x6⟩⟩⟩
end


section
variable {H : Type} {enc : TypeId × Value → H} {w : World} {P : Program} {M : Nat}
theorem weights_mem_all {e : TypeId} : ∀ {l : List (DataW H)} {d : DataW H}, d ∈ l → ∀ n ∈ d.weights P e, n ∈ DataW.weightsAll P e l
  | x :: l, d, hd, n, hn => by
    simp only [DataW.weightsAll, List.mem_append]
    rcases List.mem_cons.1 hd with rfl | h
    · exact .inl hn
    · exact .inr (weights_mem_all h n hn)
/-- a slice with its weights -/
theorem open_weight {t e : TypeId} {fuel : Nat} {A : Option Addr} {len cap : Nat} {x : DataW H × List MemPlace} (ht : P.underlying t = some (.slice e)) (h : DataW.trod enc P w 0 (fun _ => true) true fuel t [.slice A len cap] = some x)
    (hz : ∀ n ∈ x.1.weights P t, n ≤ M) :
    len * P.bytesOf e ≤ M ∧ ∀ i, i < len → ∃ (a : Addr) (cs' : List Value) (n : Nat) (y : DataW H × List MemPlace), A = some a ∧ w.cells? 0 (a.add (i * P.cellsOf e)) (P.cellsOf e) = some cs' ∧ DataW.trod enc P w 0 (fun _ => true) true n e cs' = some y ∧ ∀ k ∈ y.1.weights P e, k ≤ M := by
  rcases open_slice ht h with ⟨hcs, rfl⟩ | ⟨a, len', cap', m, n, D, Pl, hcs, _, hl, hm, hmm, rfl, hr⟩
  · simp at hcs
    obtain ⟨_, rfl, _⟩ := hcs
    exact ⟨by simp, fun i hi => by omega⟩
  · simp at hcs
    obtain ⟨rfl, rfl, rfl⟩ := hcs
    simp only [if_true] at hmm
    subst hmm
    simp only [DataW.weights, ht] at hz
    constructor
    · have h1 := hz _ List.mem_cons_self
      simp only [List.length_map, List.length_range] at h1
      exact Nat.le_trans (Nat.mul_le_mul_right _ (Nat.le_add_right _ _)) h1
    · intro i hi
      obtain ⟨cs', c1, h1⟩ := hr i (by omega)
      refine ⟨a, cs', n, _, rfl, c1, h1, fun k hk => hz k ?_⟩
      refine List.mem_cons_of_mem _ (List.mem_append_left _ (weights_mem_all (d := D i) ?_ k hk))
      exact List.mem_map.2 ⟨i, by simpa using hi, rfl⟩

/-- a struct's field with its weights -/
theorem field_weight {t : TypeId} {fs : Array Field} {fuel : Nat} {cs : List Value} {x : DataW H × List MemPlace} (hs : P.underlying t = some (.struct fs)) (hone : oneCellFields P fs = true)
    (h : DataW.trod enc P w 0 (fun _ => true) true fuel t cs = some x) (hz : ∀ n ∈ x.1.weights P t, n ≤ M) (i : Nat) (f : Field) (hf : fs[i]? = some f) (hi : i < P.cellsOf t) :
    ∃ v m y, cs[i]? = some v ∧ DataW.trod enc P w 0 (fun _ => true) true m f.type [v] = some y ∧ ∀ k ∈ y.1.weights P f.type, k ≤ M := by
  obtain ⟨xs, n, _, rfl, hl, hlen, hfs⟩ := DataW.trod_struct hs h
  have h1 := hfs i f hf
  obtain ⟨o, k⟩ := hone_of hone i f hf
  have hx : i < xs.length := by
    rw [hlen]
    rcases Nat.lt_or_ge i fs.size with h2 | h2
    · exact h2
    · rw [Array.getElem?_eq_none h2] at hf; cases hf
  rw [o, k, List.getElem?_eq_getElem hx] at h1
  have hi' : i < cs.length := by omega
  rw [List.drop_eq_getElem_cons hi', List.take_succ_cons, List.take_zero] at h1
  refine ⟨cs[i], n, xs[i], List.getElem?_eq_getElem hi', h1, fun k hk => hz k ?_⟩
  simp only [DataW.weights, hs]
  refine DataW.weights_mem_each (j := i) (t := f.type) (d := xs[i].1) ?_ ?_ k hk
  · rw [List.getElem?_map, Array.getElem?_toList, hf]; rfl
  · rw [List.getElem?_map, List.getElem?_eq_getElem hx]; rfl
end

section
variable {H : Type} {enc : TypeId × Value → H} {w : World}

theorem cells_one {a : Addr} {cs : List Value} {v : Value} {b o : Nat} (h : w.cells? 0 a 1 = some cs) (ha : a = ⟨b, o, none⟩) (hv : w.cell? ⟨b, o, none⟩ = some v) : cs = [v] := by
  subst ha
  obtain ⟨_, l1, g⟩ := World.cells?_some h
  match cs, l1 with
  | [u], _ =>
    have := g 0 (by omega)
    rw [plain_add, Nat.add_zero, hv] at this
    simpa using this.symm

theorem dem_sized {fuel : Nat} {c : Dm} {a : Da} {x : DataW H × List MemPlace} (hC : DmAt0 w c a) (h : DataW.trod enc Tryd.prog w 0 (fun _ => true) true fuel 25 (c.val a).cells.toList = some x)
    (hz : ∀ n ∈ x.1.weights Tryd.prog 25, n ≤ reachBytes) : Dsz c := by
  have k : Tryd.prog.cellsOf 25 = 7 := by kernel_rfl
  have kl : Tryd.prog.cellsOf 53 = 6 := by kernel_rfl
  have z1 : Tryd.prog.bytesOf 3 = 8 := by kernel_rfl
  have z2 : Tryd.prog.bytesOf 43 = 24 := by kernel_rfl
  have z5 : Tryd.prog.bytesOf 53 = 64 := by kernel_rfl
  have hM : reachBytes = 140737488351232 := rfl
  obtain ⟨v5, m5, y5, e5, t5, w5⟩ := field_weight Tryd.underlying25 (by kernel_rfl) h hz 5 _ rfl (by omega)
  obtain ⟨v6, m6, y6, e6, t6, w6⟩ := field_weight Tryd.underlying25 (by kernel_rfl) h hz 6 _ rfl (by omega)
  simp only [Dm.val, Value.cells, List.getElem?_cons_zero, List.getElem?_cons_succ, Option.some.injEq] at e5 e6
  subst e5 e6
  obtain ⟨s5, _⟩ := open_weight Tryd.underlying22 t5 w5
  obtain ⟨s6, r6⟩ := open_weight Tryd.underlying23 t6 w6
  rw [z2, hM] at s5
  rw [z5, hM] at s6
  refine ⟨by omega, by omega, fun i hi => ?_⟩
  obtain ⟨ad, cs', n, y, hA, hc, ht, hw⟩ := r6 i hi
  obtain ⟨b, off, Ai, ci, hA', _, h0, h1, h2, _⟩ := hC.streams.at hi
  rw [kl] at hc
  have e : ad = ⟨b, off, none⟩ := Option.some.inj (hA.symm.trans hA')
  subst e
  obtain ⟨_, l1, g⟩ := World.cells?_some hc
  obtain ⟨v, m, y', e1, t1, w1⟩ := field_weight Tryd.underlying53 (by kernel_rfl) ht hw 1 _ rfl (by omega)
  have g1 := g 1 (by omega)
  rw [plain_add, plain_add, e1, h1] at g1
  obtain rfl := Option.some.inj g1
  have := (open_weight Tryd.underlying28 t1 w1).1
  rw [z1, hM] at this
  omega
end

/-! ### number by number -/
theorem within_at (n a b : Int) (w : World) : Calls Tryd.prog 27 #[.int .i64 n, .int .i64 a, .int .i64 b] w fun e w' => e = .returned (.bool (inD n a b)) ∧ w = w' := by
  go_enter Tryd.func27, Tryd.ntmps27
  by_cases h1 : a ≤ n
  · by_cases h2 : n ≤ b
    · have HV := hide (show inD n a b = true by unfold inD; simp [h1, h2])
      go_wp2_with fail
      go_ret
      exact ⟨by rw [HV.out]; rfl, rfl⟩
    · have HV := hide (show inD n a b = false by unfold inD; simp [h2])
      go_wp2_with fail
      go_ret
      exact ⟨by rw [HV.out]; rfl, rfl⟩
  · have HV := hide (show inD n a b = false by unfold inD; simp [h1])
    go_wp2_with fail
    go_ret
    exact ⟨by rw [HV.out]; rfl, rfl⟩
def oneZ (n b : Int) : Bool := decide (0 ≤ n ∧ n < b)
theorem isOne_at (n b : Int) (w : World) : Calls Tryd.prog 28 #[.int .i64 n, .int .i64 b] w fun e w' => e = .returned (.bool (oneZ n b)) ∧ w = w' := by
  go_enter Tryd.func28, Tryd.ntmps28
  by_cases h1 : 0 ≤ n
  · by_cases h2 : n < b
    · have HV := hide (show oneZ n b = true from decide_eq_true (show 0 ≤ n ∧ n < b from ⟨h1, h2⟩))
      go_wp2_with fail
      go_ret
      exact ⟨by rw [HV.out]; rfl, rfl⟩
    · have HV := hide (show oneZ n b = false from decide_eq_false (fun (h : 0 ≤ n ∧ n < b) => h2 h.2))
      go_wp2_with fail
      go_ret
      exact ⟨by rw [HV.out]; rfl, rfl⟩
  · have HV := hide (show oneZ n b = false from decide_eq_false (fun (h : 0 ≤ n ∧ n < b) => h1 h.1))
    go_wp2_with fail
    go_ret
    exact ⟨by rw [HV.out]; rfl, rfl⟩
theorem rise_next {T : Nat} : ∀ {a : Int} {l : List Int} {k : Nat}, k < l.length → riseB T a (l.take (k + 1)) = (riseB T a (l.take k) && decide ((if k = 0 then a else l.getD (k - 1) 0) < l.getD k 0 ∧ l.getD k 0 < (T : Int)))
  | a, [], k, h => by cases h
  | a, x :: l, 0, h => by simp [riseB]
  | a, x :: l, k + 1, h => by
    rw [List.take_succ_cons, List.take_succ_cons]
    simp only [riseB]
    rw [rise_next (by simpa using h), Bool.and_assoc]
    congr 3
    cases k <;> simp
theorem rise_cut {T : Nat} {a : Int} {l : List Int} {k : Nat} (h : riseB T a (l.take k) = false) : riseB T a l = false := by
  induction k generalizing a l with
  | zero => simp [riseB] at h
  | succ k ih =>
    cases l with
    | nil => simp [riseB] at h
    | cons x l =>
      rw [List.take_succ_cons] at h
      simp only [riseB] at h ⊢
      cases hd : decide (a < x ∧ x < (T : Int)) with
      | false => rfl
      | true =>
        rw [hd] at h
        rw [ih h]; rfl
set_option maxHeartbeats 1000000 in
theorem toMay_at (l : List Int) (A : Option Addr) (c : Nat) (T : Nat) (w : World) (hI : Ints w A l) (hl : l.length ≤ 9223372036854775806) :
    Calls Tryd.prog 41 #[.slice A l.length c, .int .i64 (T : Nat)] w fun e w' => e = .returned (.bool (toB T l)) ∧ w = w' := by
  have HI := hide hI
  have HCut := hide (fun k (h : riseB T (-1) (l.take k) = false) => show toB T l = false by unfold toB; rw [rise_cut h]; rfl)
  have HNx := hide (fun k (h : k < l.length) => rise_next (T := T) (a := -1) h)
  have HAll := hide (fun (h : riseB T (-1) (l.take l.length) = true) => show toB T l = decide (0 < l.length) by
    rw [List.take_length] at h
    unfold toB; rw [h]
    cases l <;> simp)
  obtain ⟨m, hm⟩ : ∃ m, m = l.length := ⟨_, rfl⟩
  have HN := hide hm
  rw [← hm] at hl HNx HAll ⊢
  clear hI hm
  go_enter Tryd.func41, Tryd.ntmps41
  go_wp2_with fail
  go_loop [5, 10] (fun a i => ∃ k : Nat, k ≤ m ∧ i = .int .i64 k ∧ a = .int .i64 (if k = 0 then -1 else l.getD (k - 1) 0) ∧ riseB T (-1) (l.take k) = true) (fun _ i => m - (intOf i).toNat)
  case atStart => exact ⟨0, Nat.zero_le _, rfl, rfl, rfl⟩
  case round =>
    obtain ⟨k, hk, rfl, rfl, hall⟩ := hrel
    have HA := hide hall
    clear hall
    by_cases hlt : k < m
    · have hkl : k < l.length := by rw [← HN.out]; exact hlt
      obtain ⟨b, off, rfl, hbl, c0⟩ := HI.out.at hkl
      have HT := hide (HNx.out k hlt)
      have HP := hide (show (if k + 1 = 0 then (-1 : Int) else l.getD (k + 1 - 1) 0) = l.getD k 0 from by simp)
      rw [HA.out] at HT
      generalize l.getD k 0 = z at *
      generalize (if k = 0 then (-1 : Int) else l.getD (k - 1) 0) = y at *
      clear hkl
      by_cases h1 : z ≤ y
      · have HV := hide (HCut.out (k + 1) (by rw [HT.out, decide_eq_false (by omega)]; rfl))
        go_wp2_with fail
        go_ret
        exact ⟨by rw [HV.out]; rfl, rfl⟩
      · by_cases h2 : (T : Int) ≤ z
        · have HV := hide (HCut.out (k + 1) (by rw [HT.out, decide_eq_false (by omega)]; rfl))
          go_wp2_with fail
          go_ret
          exact ⟨by rw [HV.out]; rfl, rfl⟩
        · have HV := hide (show riseB T (-1) (l.take (k + 1)) = true by rw [HT.out, decide_eq_true (by omega)]; rfl)
          go_wp2_with fail
          go_round
          case rel => exact ⟨k + 1, by omega, by go_num, by rw [HP.out], HV.out⟩
          case measure => simp [intOf]; omega
    · obtain rfl : k = m := by omega
      have HV0 := hide (HAll.out HA.out)
      generalize (if k = 0 then (-1 : Int) else l.getD (k - 1) 0) = y at *
      have HV := hide (show ∀ v : Bool, v = decide (0 < k) → Ending.returned (.bool v) = .returned (.bool (toB T l)) from fun v h => by rw [h, HV0.out])
      clear HV0
      go_wp2_with fail
      go_ret
      exact ⟨HV.out _ rfl, rfl⟩
theorem kindMay_at (s : Sm) (A : Option Addr) (c : Nat) (w : World) :
    Calls Tryd.prog 42 #[.agg #[.int .i64 s.src, .slice A s.dests.length c, .int .i64 s.kind, .int .i64 s.size, .int .i64 s.depth, .int .i64 s.fresh]] w fun e w' => e = .returned (.bool (kindB s)) ∧ Below w.heap.size w w' := by
  have HV := hide (show kindB s = ((decide (s.kind = 1 ∧ s.depth = 0) && inD s.fresh 1 65535) || (decide (s.kind = 2 ∧ s.fresh = 0) && inD s.depth 1 8)) from rfl)
  have HB := hide (fun t => bal w (.cells #[.int .i64 s.src, .slice A s.dests.length c, .int .i64 s.kind, .int .i64 s.size, .int .i64 s.depth, .int .i64 s.fresh] t))
  go_enter Tryd.func42, Tryd.ntmps42
  by_cases h1 : s.kind = 1
  · have k1 : (s.kind == 1) = true := by rw [h1]; rfl
    by_cases h2 : s.depth = 0
    · have k2 : (s.depth == 0) = true := by rw [h2]; rfl
      have HV2 := hide (show kindB s = inD s.fresh 1 65535 by rw [HV.out, decide_eq_true ⟨h1, h2⟩, decide_eq_false (fun h => by have := h.1; omega)]; simp)
      clear HV h1 h2
      go_wp2_with fail
      refine (within_at _ _ _ _).mono ?_
      rintro e w1 ⟨rfl, rfl⟩
      go_wp2_with fail
      go_ret
      exact ⟨by rw [HV2.out]; rfl, HB.out _⟩
    · have k2 : (s.depth == 0) = false := beq_eq_false_iff_ne.2 h2
      have HV2 := hide (show kindB s = false by rw [HV.out, decide_eq_false (fun h => h2 h.2), decide_eq_false (fun h => by have := h.1; omega)]; simp)
      clear HV h1 h2
      go_wp2_with fail
      go_ret
      exact ⟨by rw [HV2.out]; rfl, HB.out _⟩
  · have k1 : (s.kind == 1) = false := beq_eq_false_iff_ne.2 h1
    by_cases h2 : s.kind = 2
    · have k2 : (s.kind == 2) = true := by rw [h2]; rfl
      have HW := hide (within_at s.depth 1 8)
      cases h3 : inD s.depth 1 8 with
      | true =>
        rw [h3] at HW
        by_cases h4 : s.fresh = 0
        · have k4 : (s.fresh == 0) = true := by rw [h4]; rfl
          have HV2 := hide (show kindB s = true by rw [HV.out, h3, decide_eq_true (show s.kind = 2 ∧ s.fresh = 0 from ⟨h2, h4⟩)]; simp)
          clear HV h1 h2 h3 h4
          go_wp2_with fail
          refine (HW.out _).mono ?_
          rintro e w1 ⟨rfl, rfl⟩
          go_wp2_with fail
          go_ret
          exact ⟨by rw [HV2.out]; rfl, HB.out _⟩
        · have k4 : (s.fresh == 0) = false := beq_eq_false_iff_ne.2 h4
          have HV2 := hide (show kindB s = false by rw [HV.out, decide_eq_false (fun h => h1 h.1), decide_eq_false (fun h => h4 h.2)]; simp)
          clear HV h1 h2 h3 h4
          go_wp2_with fail
          refine (HW.out _).mono ?_
          rintro e w1 ⟨rfl, rfl⟩
          go_wp2_with fail
          go_ret
          exact ⟨by rw [HV2.out]; rfl, HB.out _⟩
      | false =>
        rw [h3] at HW
        have HV2 := hide (show kindB s = false by rw [HV.out, decide_eq_false (fun h => h1 h.1), h3]; simp)
        clear HV h1 h2 h3
        go_wp2_with fail
        refine (HW.out _).mono ?_
        rintro e w1 ⟨rfl, rfl⟩
        go_wp2_with fail
        go_ret
        exact ⟨by rw [HV2.out]; rfl, HB.out _⟩
    · have k2 : (s.kind == 2) = false := beq_eq_false_iff_ne.2 h2
      have HV2 := hide (show kindB s = false by rw [HV.out, decide_eq_false (fun h => h1 h.1), decide_eq_false (fun h => h2 h.1)]; simp)
      clear HV h1 h2
      go_wp2_with fail
      go_ret
      exact ⟨by rw [HV2.out]; rfl, HB.out _⟩
end Go.Proofs.YtdennekkbdlhdaaDoor
