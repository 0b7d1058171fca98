/-
  Ports and links, joined.
-/
import Derived.Test.YtdennekkbdlhdaaDoorMP
import Derived.Test.YtdennekkbdlhdaaDoorRng
import Derived.RangeFuncRecord
import Derived.RangeFuncIn
import Derived.RangeFuncSeq
namespace Go.Proofs.YtdennekkbdlhdaaDoor
open Go.RowKit Go.Shelf
attribute [local go_sem] Oper.semAt_some
set_option linter.unusedVariables false
set_option linter.unusedSimpArgs false
set_option maxRecDepth 100000

structure JnS (w W : World) (d : Dm) (a : Da) (N : Nat) (rec : Loop) (kp kl kw : Nat) (Q : List LkV) (Al : Option Addr) (cl : Nat) : Prop where
  bel : Below w.heap.size w W
  sz : w.heap.size + 11 ≤ W.heap.size
  lp : W.heap[w.heap.size + 10]? = some (.loop rec)
  df : W.heap[w.heap.size + 9]? = some (.deferred (some []))
  dh : W.heap[w.heap.size]? = some (.cells (d.cells a) 25 (0, 0))
  r2 : W.heap[w.heap.size + 1]? = some (.cells #[.slice none 0 0] 31 (0, 0))
  r3 : W.heap[w.heap.size + 2]? = some (.cells #[.slice none 0 0] 32 (0, 0))
  r4 : W.heap[w.heap.size + 3]? = some (.cells #[.bool false] 4 (0, 0))
  po : ∃ A c, W.heap[w.heap.size + 4]? = some (.cells #[.slice A (portN (d.streams.take kp)) c] 31 (0, 0)) ∧ W.ownsRow (w.heap.size + 8) 49 6 (.slice A (portN (d.streams.take kp)) c) (portN (d.streams.take kp)) ((portsAll (d.streams.take kp)).flatMap poC)
  li : W.heap[w.heap.size + 5]? = some (.cells #[.slice Al kl cl] 32 (0, 0)) ∧ W.ownsRow (w.heap.size + 8) 51 3 (.slice Al kl cl) kl (Q.flatMap lkC)
  pw : ∃ vs, RwS spC 78 74 2 W (w.heap.size + 8) (w.heap.size + 6) vs (payRows N d.tasks d.streams kw)
  pc : W.heap[w.heap.size + 7]? = some (.cells #[.slice (some ⟨w.heap.size + 6, 0, none⟩) N N] 69 (0, 0))
  qs : Q.map (·.1) = linksTo d.tasks d.streams kl
  ds : DsS W w.heap.size Q
  ld : ∀ n : Nat, n < N → loadN d.tasks (n : Int) (d.streams.take kw) ≤ 64
section
variable {w W W' : World} {d : Dm} {a : Da} {N kp kl kw : Nat} {rec : Loop} {Q : List LkV} {Al : Option Addr} {cl : Nat}
theorem JnS.dm (h : JnS w W d a N rec kp kl kw Q Al cl) : DmB W w.heap.size d a := DmB.of h.dh
/-- what leaves all its blocks as they are, but for the record, keeps it -/
theorem JnS.kept {rec' : Loop} (h : JnS w W d a N rec kp kl kw Q Al cl) (hb : Below w.heap.size w W') (hz : W.heap.size ≤ W'.heap.size) (hk : ∀ j cs t, j < W.heap.size → W.heap[j]? = some (.cells cs t (0, 0)) → W'.heap[j]? = W.heap[j]?) (hd : W'.heap[w.heap.size + 9]? = W.heap[w.heap.size + 9]?) (hl : W'.heap[w.heap.size + 10]? = some (.loop rec')) : JnS w W' d a N rec' kp kl kw Q Al cl := by
  have hs := h.sz
  obtain ⟨A, c, p1, p2⟩ := h.po
  obtain ⟨l1, l2⟩ := h.li
  obtain ⟨vs, pw⟩ := h.pw
  have hown : ∀ {B : Nat} {t : TypeId} {sz : Nat} {v : Value} {n : Nat} {xs : List Value}, W.ownsRow B t sz v n xs → W'.ownsRow B t sz v n xs := fun x => own_stands x fun j hj => by
    obtain ⟨h1, _, cur, hc⟩ := own_block x hj
    exact hk j cur _ h1 hc
  refine ⟨hb, by omega, hl, hd.trans h.df, (hk _ _ _ (by omega) h.dh).trans h.dh, (hk _ _ _ (by omega) h.r2).trans h.r2, (hk _ _ _ (by omega) h.r3).trans h.r3, (hk _ _ _ (by omega) h.r4).trans h.r4, ⟨A, c, (hk _ _ _ (by omega) p1).trans p1, hown p2⟩, ⟨(hk _ _ _ (by omega) l1).trans l1, hown l2⟩, ⟨vs, pw.kept fun j _ hj ⟨cs, t, hc, _⟩ => hk j cs t hj hc⟩, (hk _ _ _ (by omega) h.pc).trans h.pc, h.qs, fun q hq => ⟨hown (h.ds q hq).1, (h.ds q hq).2⟩, h.ld⟩
theorem JnS.below (h : JnS w W d a N rec kp kl kw Q Al cl) (hb : Below W.heap.size W W') : JnS w W' d a N rec kp kl kw Q Al cl := by
  have hs := h.sz
  exact h.kept (h.bel.trans (hb.mono h.bel.size)) hb.size (fun j _ _ hj _ => hb.block j hj) (hb.block _ (by omega)) ((hb.block _ (by omega)).trans h.lp)
theorem JnS.put (h : JnS w W d a N rec kp kl kw Q Al cl) (rec' : Loop) : JnS w (W.putObj (w.heap.size + 10) (.loop rec')) d a N rec' kp kl kw Q Al cl := by
  have hs := h.sz
  refine h.kept (h.bel.grown (grownBy_putObj' W _ _) h.bel.size (fun q e => by cases e; omega)) (by simp) (fun j cs t hj hc => World.putObj_heap_other fun e => ?_) (World.putObj_heap_other (by omega)) (World.putObj_heap_same (by omega))
  subst e
  rw [h.lp] at hc; cases hc
theorem ty_ne {cs cs' : Array Value} {t t' : TypeId} {f : Nat × Nat} (h : t ≠ t') : (Obj.cells cs t f) ≠ .cells cs' t' f := fun e => by
  injection e with _ e2
  exact h e2
theorem JnS.newW {kw' : Nat} (h : JnS w W d a N rec kp kl kw Q Al cl) (hb : Below w.heap.size w W') (hz : W.heap.size ≤ W'.heap.size) (hk : ∀ j o, j < W.heap.size → W.heap[j]? = some o → (∀ cs, o ≠ .cells cs 78 (0, 0)) → j ≠ w.heap.size + 6 → W'.heap[j]? = some o)
    (hpw : ∃ vs, RwS spC 78 74 2 W' (w.heap.size + 8) (w.heap.size + 6) vs (payRows N d.tasks d.streams kw')) (hld : ∀ n : Nat, n < N → loadN d.tasks (n : Int) (d.streams.take kw') ≤ 64) : JnS w W' d a N rec kp kl kw' Q Al cl := by
  have hs := h.sz
  obtain ⟨A, c, p1, p2⟩ := h.po
  obtain ⟨l1, l2⟩ := h.li
  obtain ⟨vs, pw⟩ := h.pw
  refine ⟨hb, by omega, hk _ _ (by omega) h.lp (fun _ e => by cases e) (by omega), hk _ _ (by omega) h.df (fun _ e => by cases e) (by omega), hk _ _ (by omega) h.dh (fun _ => ty_ne (by decide)) (by omega), hk _ _ (by omega) h.r2 (fun _ => ty_ne (by decide)) (by omega), hk _ _ (by omega) h.r3 (fun _ => ty_ne (by decide)) (by omega), hk _ _ (by omega) h.r4 (fun _ => ty_ne (by decide)) (by omega),
    ⟨A, c, hk _ _ (by omega) p1 (fun _ => ty_ne (by decide)) (by omega), own_stands p2 fun j hj => ?_⟩, ⟨hk _ _ (by omega) l1 (fun _ => ty_ne (by decide)) (by omega), own_stands l2 fun j hj => ?_⟩, hpw, hk _ _ (by omega) h.pc (fun _ => ty_ne (by decide)) (by omega), h.qs, fun q hq => ⟨own_stands (h.ds q hq).1 fun j hj => ?_, (h.ds q hq).2⟩, hld⟩
  · obtain ⟨h1, h2, cur, hc⟩ := own_block p2 hj
    rw [hc]; exact hk j _ h1 hc (fun _ => ty_ne (by decide)) (by omega)
  · obtain ⟨h1, h2, cur, hc⟩ := own_block l2 hj
    rw [hc]; exact hk j _ h1 hc (fun _ => ty_ne (by decide)) (by omega)
  · obtain ⟨h1, h2, cur, hc⟩ := own_block (h.ds q hq).1 hj
    rw [hc]; exact hk j _ h1 hc (fun _ => ty_ne (by decide)) fun e => by
      subst e
      rw [pw.blk] at hc
      exact absurd (Option.some.inj hc) (ty_ne (by decide))
theorem JnS.newP {kp' : Nat} (h : JnS w W d a N rec kp kl kw Q Al cl) (hb : Below w.heap.size w W') (hz : W.heap.size ≤ W'.heap.size) (hk : ∀ j o, j < W.heap.size → W.heap[j]? = some o → (∀ cs, o ≠ .cells cs 49 (0, 0)) → j ≠ w.heap.size + 4 → W'.heap[j]? = some o)
    (hpo : ∃ A c, W'.heap[w.heap.size + 4]? = some (.cells #[.slice A (portN (d.streams.take kp')) c] 31 (0, 0)) ∧ W'.ownsRow (w.heap.size + 8) 49 6 (.slice A (portN (d.streams.take kp')) c) (portN (d.streams.take kp')) ((portsAll (d.streams.take kp')).flatMap poC)) : JnS w W' d a N rec kp' kl kw Q Al cl := by
  have hs := h.sz
  obtain ⟨A, c, p1, p2⟩ := h.po
  obtain ⟨l1, l2⟩ := h.li
  obtain ⟨vs, pw⟩ := h.pw
  refine ⟨hb, by omega, hk _ _ (by omega) h.lp (fun _ e => by cases e) (by omega), hk _ _ (by omega) h.df (fun _ e => by cases e) (by omega), hk _ _ (by omega) h.dh (fun _ => ty_ne (by decide)) (by omega), hk _ _ (by omega) h.r2 (fun _ => ty_ne (by decide)) (by omega), hk _ _ (by omega) h.r3 (fun _ => ty_ne (by decide)) (by omega), hk _ _ (by omega) h.r4 (fun _ => ty_ne (by decide)) (by omega),
    hpo, ⟨hk _ _ (by omega) l1 (fun _ => ty_ne (by decide)) (by omega), own_stands l2 fun j hj => ?_⟩, ⟨vs, pw.kept fun j hj1 hj2 ⟨cs, t, hc, ht⟩ => ?_⟩, hk _ _ (by omega) h.pc (fun _ => ty_ne (by decide)) (by omega), h.qs, fun q hq => ⟨own_stands (h.ds q hq).1 fun j hj => ?_, (h.ds q hq).2⟩, h.ld⟩
  · obtain ⟨h1, h2, cur, hc⟩ := own_block l2 hj
    rw [hc]; exact hk j _ h1 hc (fun _ => ty_ne (by decide)) (by omega)
  · rw [hc]; exact hk j _ hj2 hc (fun _ => ty_ne (by rcases ht with rfl | rfl <;> decide)) (by omega)
  · obtain ⟨h1, h2, cur, hc⟩ := own_block (h.ds q hq).1 hj
    rw [hc]; exact hk j _ h1 hc (fun _ => ty_ne (by decide)) fun e => by
      subst e
      rw [p1] at hc
      exact absurd (Option.some.inj hc) (ty_ne (by decide))
theorem JnS.newL {kl' : Nat} {Q' : List LkV} {Al' : Option Addr} {cl' : Nat} (h : JnS w W d a N rec kp kl kw Q Al cl) (hb : Below w.heap.size w W') (hz : W.heap.size ≤ W'.heap.size) (hk : ∀ j o, j < W.heap.size → W.heap[j]? = some o → (∀ cs, o ≠ .cells cs 51 (0, 0)) → j ≠ w.heap.size + 5 → W'.heap[j]? = some o)
    (hli : W'.heap[w.heap.size + 5]? = some (.cells #[.slice Al' kl' cl'] 32 (0, 0)) ∧ W'.ownsRow (w.heap.size + 8) 51 3 (.slice Al' kl' cl') kl' (Q'.flatMap lkC)) (hqs : Q'.map (·.1) = linksTo d.tasks d.streams kl') (hds : DsS W w.heap.size Q') : JnS w W' d a N rec kp kl' kw Q' Al' cl' := by
  have hs := h.sz
  obtain ⟨A, c, p1, p2⟩ := h.po
  obtain ⟨l1, l2⟩ := h.li
  obtain ⟨vs, pw⟩ := h.pw
  refine ⟨hb, by omega, hk _ _ (by omega) h.lp (fun _ e => by cases e) (by omega), hk _ _ (by omega) h.df (fun _ e => by cases e) (by omega), hk _ _ (by omega) h.dh (fun _ => ty_ne (by decide)) (by omega), hk _ _ (by omega) h.r2 (fun _ => ty_ne (by decide)) (by omega), hk _ _ (by omega) h.r3 (fun _ => ty_ne (by decide)) (by omega), hk _ _ (by omega) h.r4 (fun _ => ty_ne (by decide)) (by omega),
    ⟨A, c, hk _ _ (by omega) p1 (fun _ => ty_ne (by decide)) (by omega), own_stands p2 fun j hj => ?_⟩, hli, ⟨vs, pw.kept fun j hj1 hj2 ⟨cs, t, hc, ht⟩ => ?_⟩, hk _ _ (by omega) h.pc (fun _ => ty_ne (by decide)) (by omega), hqs, fun q hq => ⟨own_stands (hds q hq).1 fun j hj => ?_, (hds q hq).2⟩, h.ld⟩
  · obtain ⟨h1, h2, cur, hc⟩ := own_block p2 hj
    rw [hc]; exact hk j _ h1 hc (fun _ => ty_ne (by decide)) (by omega)
  · rw [hc]; exact hk j _ hj2 hc (fun _ => ty_ne (by rcases ht with rfl | rfl <;> decide)) (by omega)
  · obtain ⟨h1, h2, cur, hc⟩ := own_block (hds q hq).1 hj
    rw [hc]; exact hk j _ h1 hc (fun _ => ty_ne (by decide)) fun e => by
      subst e
      rw [l1] at hc
      exact absurd (Option.some.inj hc) (ty_ne (by decide))
/-- a box of a link's own is written -/
theorem JnS.boxw (h : JnS w W d a N rec kp kl kw Q Al cl) {x o : Nat} {v : Value} {cs0 : Array Value} (hx : w.heap.size + 11 ≤ x) (hxl : ∀ g, (Value.slice Al kl cl).ownBlock = some g → g ≠ x) (hc0 : W.heap[x]? = some (.cells cs0 51 (0, 0))) : JnS w (W.setCell ⟨x, o, none⟩ v) d a N rec kp kl kw Q Al cl := by
  have hs := h.sz
  obtain ⟨A, c, p1, p2⟩ := h.po
  obtain ⟨l1, l2⟩ := h.li
  obtain ⟨vs, pw⟩ := h.pw
  have hk : ∀ j, j ≠ x → (W.setCell ⟨x, o, none⟩ v).heap[j]? = W.heap[j]? := fun j hj => setCell_other hj
  refine ⟨h.bel.setCell (p := ⟨x, o, none⟩) (by show w.heap.size ≤ x; omega) v, by simpa using hs, (hk _ (by omega)).trans h.lp, (hk _ (by omega)).trans h.df, (hk _ (by omega)).trans h.dh, (hk _ (by omega)).trans h.r2, (hk _ (by omega)).trans h.r3, (hk _ (by omega)).trans h.r4,
    ⟨A, c, (hk _ (by omega)).trans p1, own_stands p2 fun j hj => hk j ?_⟩, ⟨(hk _ (by omega)).trans l1, own_stands l2 fun j hj => hk j (hxl j hj)⟩, ⟨vs, pw.kept fun j hj1 hj2 ⟨cs, t, hc, ht⟩ => hk j ?_⟩, (hk _ (by omega)).trans h.pc, h.qs, fun q hq => ⟨own_stands (h.ds q hq).1 fun j hj => hk j ?_, (h.ds q hq).2⟩, h.ld⟩
  · rintro rfl
    obtain ⟨_, _, cur, hc⟩ := own_block p2 hj
    rw [hc0] at hc
    exact absurd (Option.some.inj hc) (ty_ne (by decide))
  · rintro rfl
    rw [hc0] at hc
    exact absurd (Option.some.inj hc) (ty_ne (by rcases ht with rfl | rfl <;> decide))
  · rintro rfl
    obtain ⟨_, _, cur, hc⟩ := own_block (h.ds q hq).1 hj
    rw [hc0] at hc
    exact absurd (Option.some.inj hc) (ty_ne (by decide))
end
/-- how it is left where there is no room -/
structure JnX (w W : World) (d : Dm) (a : Da) (rec : Loop) : Prop where
  bel : Below w.heap.size w W
  sz : w.heap.size + 11 ≤ W.heap.size
  lp : W.heap[w.heap.size + 10]? = some (.loop { rec with state := .done, pending := some .ret })
  df : W.heap[w.heap.size + 9]? = some (.deferred (some []))
  r2 : W.heap[w.heap.size + 1]? = some (.cells #[.slice none 0 0] 31 (0, 0))
  r3 : W.heap[w.heap.size + 2]? = some (.cells #[.slice none 0 0] 32 (0, 0))
  r4 : W.heap[w.heap.size + 3]? = some (.cells #[.bool false] 4 (0, 0))
  no : fitL d = false
def allocs : World → List Obj → World
  | w, [] => w
  | w, o :: l => allocs (w.alloc o) l
theorem allocs_size : ∀ (l : List Obj) (w : World), (allocs w l).heap.size = w.heap.size + l.length
  | [], w => rfl
  | o :: l, w => by rw [allocs, allocs_size l]; simp; omega
theorem allocs_old : ∀ (l : List Obj) (w : World) {j : Nat}, j < w.heap.size → (allocs w l).heap[j]? = w.heap[j]?
  | [], w, j, h => rfl
  | o :: l, w, j, h => by rw [allocs, allocs_old l _ (by simp; omega)]; exact heap_alloc_old _ _ h
theorem allocs_at : ∀ (l : List Obj) (w : World) {i : Nat} {o : Obj}, l[i]? = some o → (allocs w l).heap[w.heap.size + i]? = some o
  | [], w, i, o, h => by simp at h
  | x :: l, w, 0, o, h => by
    simp at h; subst h
    rw [allocs, allocs_old l _ (by simp)]
    exact heap_alloc_new w _
  | x :: l, w, i + 1, o, h => by
    have := allocs_at l (w.alloc x) (i := i) (o := o) (by simpa using h)
    rw [allocs]
    rwa [World.size_alloc, Nat.add_assoc, Nat.add_comm 1 i] at this
theorem allocs_below : ∀ (l : List Obj) (w : World), Below w.heap.size w (allocs w l)
  | [], w => Below.refl _ _
  | o :: l, w => (bal w o).trans ((allocs_below l (w.alloc o)).mono (by simp))
theorem jn_start (w : World) (d : Dm) (a : Da) (N : Nat) (hN : (N : Int) = d.nodes) (rec : Loop) (W : World) (h : Below (w.heap.size + 8) (allocs w [.cells (d.cells a) 25, .cells #[.slice none 0 0] 31, .cells #[.slice none 0 0] 32, .cells #[.bool false] 4, .cells #[.slice none 0 0] 31, .cells #[.slice none 0 0] 32, .cells (Array.replicate N (.slice none 0 0)) 74, .cells #[.slice (some ⟨w.heap.size + 6, 0, none⟩) N N] 69]) W)
    (hs : w.heap.size + 11 ≤ W.heap.size) (hl : W.heap[w.heap.size + 10]? = some (.loop rec)) (hd : W.heap[w.heap.size + 9]? = some (.deferred (some []))) : JnS w W d a N rec 0 0 0 [] none 0 := by
  have hz := allocs_size [.cells (d.cells a) 25, .cells #[.slice none 0 0] 31, .cells #[.slice none 0 0] 32, .cells #[.bool false] 4, .cells #[.slice none 0 0] 31, .cells #[.slice none 0 0] 32, .cells (Array.replicate N (.slice none 0 0)) 74, .cells #[.slice (some ⟨w.heap.size + 6, 0, none⟩) N N] 69] w
  have hbl := allocs_below [.cells (d.cells a) 25, .cells #[.slice none 0 0] 31, .cells #[.slice none 0 0] 32, .cells #[.bool false] 4, .cells #[.slice none 0 0] 31, .cells #[.slice none 0 0] 32, .cells (Array.replicate N (.slice none 0 0)) 74, .cells #[.slice (some ⟨w.heap.size + 6, 0, none⟩) N N] 69] w
  have hat := fun i o => allocs_at [.cells (d.cells a) 25, .cells #[.slice none 0 0] 31, .cells #[.slice none 0 0] 32, .cells #[.bool false] 4, .cells #[.slice none 0 0] 31, .cells #[.slice none 0 0] 32, .cells (Array.replicate N (.slice none 0 0)) 74, .cells #[.slice (some ⟨w.heap.size + 6, 0, none⟩) N N] 69] w (i := i) (o := o)
  generalize allocs w _ = W0 at *
  simp only [List.length_cons, List.length_nil, Nat.reduceAdd] at hz
  have g : ∀ i o, i < 8 → _ → W.heap[w.heap.size + i]? = some o := fun i o hi ho => (h.block _ (by omega)).trans (hat i o ho)
  have hv : ∀ i, (List.replicate N (Value.slice none 0 0))[i]? = if i < N then some (.slice none 0 0) else none := fun i => by rw [List.getElem?_replicate]
  refine ⟨hbl.trans (h.mono (by omega)), hs, hl, hd, g 0 _ (by omega) rfl, g 1 _ (by omega) rfl, g 2 _ (by omega) rfl, g 3 _ (by omega) rfl, ⟨none, 0, g 4 _ (by omega) rfl, World.ownsRow_nil _ _ _ _⟩, ⟨g 5 _ (by omega) rfl, World.ownsRow_nil _ _ _ _⟩, ⟨List.replicate N (.slice none 0 0), ?_⟩, g 7 _ (by omega) rfl, rfl, fun q hq => (by cases hq), fun n _ => by simp [loadN, sumI]⟩
  rw [payRows_zero]
  refine ⟨by rw [g 6 _ (by omega) rfl]; simp, by simp, fun i hi => ?_, fun i j hi hj _ q h1 => ?_, by omega⟩
  · have e1 : (List.replicate N (Value.slice none 0 0)).getD i undef = .slice none 0 0 := by rw [List.getD_eq_getElem?_getD, hv, if_pos (by simpa using hi)]; rfl
    have e2 : (List.replicate N ([] : List (Int × Int))).getD i [] = [] := by rw [List.getD_eq_getElem?_getD, List.getElem?_replicate]; split <;> rfl
    rw [e1, e2]
    exact World.ownsRow_nil _ _ _ _
  · rw [List.getD_eq_getElem?_getD, hv, if_pos (by simpa using hi)] at h1
    cases h1

theorem ports_i64 {d : Dm} {N : Nat} (h : Okd d N) : ∀ p ∈ portsAll (d.streams.take d.streams.length), I64 p.part ∧ I64 p.kind ∧ I64 p.dir ∧ I64 p.size ∧ I64 p.depth ∧ I64 p.fresh := by
  rw [List.take_length]
  intro p hp
  unfold portsAll at hp
  obtain ⟨s, hs, hp⟩ := List.mem_flatMap.1 hp
  obtain ⟨s1, s2, s3, s4⟩ := h.sm s hs
  have ht := h.tl
  unfold kindB at s4
  simp only [Bool.or_eq_true, Bool.and_eq_true, decide_eq_true_eq, inD_iff] at s4
  have hk : (s.kind = 1 ∨ s.kind = 2) ∧ (0 ≤ s.depth ∧ s.depth ≤ 8) ∧ (0 ≤ s.fresh ∧ s.fresh ≤ 65535) := by omega
  unfold portsOf at hp
  unfold I64
  rcases List.mem_cons.1 hp with rfl | hp
  · dsimp only; omega
  · obtain ⟨t, ht, rfl⟩ := List.mem_map.1 hp
    have := rise_in s2.1 t ht
    dsimp only; omega
/-- the last region of 'joined': three results are laid -/
structure p3C (w W4 W : World) : Prop where
  bel : Below w.heap.size w W
  sz : W.heap.size = W4.heap.size
  old : ∀ j, j ≠ w.heap.size + 1 → j ≠ w.heap.size + 2 → j ≠ w.heap.size + 3 → W.heap[j]? = W4.heap[j]?
def p3F (w : World) (a b : Value) (j : Nat) (vals : Nat → Value) (W : World) : Prop :=
  match j with
  | 0 => vals 0 = a
  | 1 => vals 1 = b
  | 2 => W.heap[w.heap.size + 1]? = some (.cells #[a] 31 (0, 0))
  | 3 => W.heap[w.heap.size + 2]? = some (.cells #[b] 32 (0, 0))
  | 4 => W.heap[w.heap.size + 3]? = some (.cells #[.bool true] 4 (0, 0))
  | 5 => W.heap[w.heap.size + 1]? = some (.cells #[.slice none 0 0] 31 (0, 0))
  | 6 => W.heap[w.heap.size + 2]? = some (.cells #[.slice none 0 0] 32 (0, 0))
  | 7 => W.heap[w.heap.size + 3]? = some (.cells #[.bool false] 4 (0, 0))
  | _ => True
def p3T : Nat → Nat
  | 5 => 2 | 6 => 3 | 7 => 4 | _ => 1000
def p3M (j : Nat) : List Nat := if 5 ≤ j then [] else [j]
theorem p3_mb {ops : Array Oper} (j k : Nat) (h : k ∈ p3M j) (hne : k ≠ j) : depB .any ops j k = true := by
  unfold p3M at h
  split at h
  · cases h
  · exact absurd (List.mem_singleton.1 h) hne
theorem p3_sup {w : World} {a b : Value} : ∀ j vals vals' W, (∀ i ∈ p3M j, vals i = vals' i) → p3F w a b j vals W → p3F w a b j vals' W := by
  intro j vals vals' W h hF
  unfold p3M at h
  match j, hF with
  | 0, hF | 1, hF =>
    simp only [p3F] at hF ⊢
    rw [← h _ (by simp)]; exact hF
  | 2, hF | 3, hF | 4, hF | 5, hF | 6, hF | 7, hF => exact hF
  | _ + 8, _ => trivial
/-- a store at one of the three leaves the other two -/
theorem p3_still {w W : World} {a b u : Value} {g : Nat} {j : Nat} {vals : Nat → Value} (h : p3F w a b j vals W) (hg : (g = w.heap.size + 1 ∧ j ≠ 2 ∧ j ≠ 5) ∨ (g = w.heap.size + 2 ∧ j ≠ 3 ∧ j ≠ 6) ∨ (g = w.heap.size + 3 ∧ j ≠ 4 ∧ j ≠ 7)) : p3F w a b j vals (W.setCell ⟨g, 0, none⟩ u) := by
  match j, h with
  | 0, h | 1, h => exact h
  | 2, h | 3, h | 4, h | 5, h | 6, h | 7, h => exact (setCell_other (by omega)).trans h
  | _ + 8, _ => trivial
theorem p3C.set {w W4 W : World} {g : Nat} {u : Value} (h : p3C w W4 W) (hg : g = w.heap.size + 1 ∨ g = w.heap.size + 2 ∨ g = w.heap.size + 3) : p3C w W4 (W.setCell ⟨g, 0, none⟩ u) :=
  ⟨h.bel.setCell (p := ⟨g, 0, none⟩) (by show w.heap.size ≤ g; omega) u, by simpa using h.sz, fun j h1 h2 h3 => (setCell_other (by omega)).trans (h.old j h1 h2 h3)⟩

set_option maxHeartbeats 8000000 in
theorem joined_at (d : Dm) (a : Da) (N : Nat) (w : World) (h : DmAt w d a) (ho : Okd d N) :
    Calls Tryd.prog 15 #[d.val a] w fun e w' => Below w.heap.size w w' ∧
      ((fitL d = true ∧ ∃ A c A' c', e = .returned (.tuple #[.slice A (portN d.streams) c, .slice A' d.streams.length c', .bool true]) ∧ portN d.streams ≤ c ∧ c ≤ maxLen ∧ d.streams.length ≤ c' ∧ c' ≤ maxLen ∧ ∀ W', Agr w w' W' → Ports W' A (portsAll d.streams) ∧ Links W' A' (linksTo d.tasks d.streams d.streams.length)) ∨
       (fitL d = false ∧ e = .returned (.tuple #[.slice none 0 0, .slice none 0 0, .bool false]))) := by
  have HD := hide (fun W (hb : Below w.heap.size w W) => h.of_below hb (Nat.le_refl _))
  have HOk := hide ho
  have hN := ho.hN
  have h16 := ho.n16
  have hmk := make_sps N (by omega)
  have HMk := hide (streams_mk d a)
  unfold Dm.val Dm.cells at *
  have HNn := hide hN
  rw [← hN] at HMk ⊢
  clear hN h
  refine calls_of_wp_marks Tryd.func15 rfl ?_
  simp only [Tryd.ntmps15, List.size_toArray, List.length_cons, List.length_nil, Nat.reduceAdd, Nat.reduceSub, Array.replicate_succ, Array.replicate_zero, List.push_toArray, List.append_toArray, List.nil_append, List.cons_append]
  go_wp2_with fail
  refine (HMk.out _).mono ?_
  rintro e w1 ⟨rfl, rfl⟩
  go_wp2_with fail
  have hz9 := allocs_size [.cells (d.cells a) 25, .cells #[.slice none 0 0] 31, .cells #[.slice none 0 0] 32, .cells #[.bool false] 4, .cells #[.slice none 0 0] 31, .cells #[.slice none 0 0] 32, .cells (Array.replicate N (.slice none 0 0)) 74, .cells #[.slice (some ⟨w.heap.size + 6, 0, none⟩) N N] 69, .cells (d.cells a) 25] w
  have hat9 := allocs_at [.cells (d.cells a) 25, .cells #[.slice none 0 0] 31, .cells #[.slice none 0 0] 32, .cells #[.bool false] 4, .cells #[.slice none 0 0] 31, .cells #[.slice none 0 0] 32, .cells (Array.replicate N (.slice none 0 0)) 74, .cells #[.slice (some ⟨w.heap.size + 6, 0, none⟩) N N] 69, .cells (d.cells a) 25] w (i := 8) rfl
  have HSt := hide (fun rec W => jn_start w d a N HNn.out rec W)
  unfold Dm.cells at hz9 hat9 HSt
  rw [← HNn.out] at hz9 hat9 HSt
  generalize hW9 : allocs w [.cells #[.int .i64 (N : Nat), .int .i64 d.drift, .int .i64 d.reading, .int .i64 d.rejoin, .int .i64 d.quota, .slice a.tA d.tasks.length a.tC, .slice a.sA d.streams.length a.sC] 25, .cells #[.slice none 0 0] 31, .cells #[.slice none 0 0] 32, .cells #[.bool false] 4, .cells #[.slice none 0 0] 31, .cells #[.slice none 0 0] 32, .cells (Array.replicate N (.slice none 0 0)) 74, .cells #[.slice (some ⟨w.heap.size + 6, 0, none⟩) N N] 69, .cells #[.int .i64 (N : Nat), .int .i64 d.drift, .int .i64 d.reading, .int .i64 d.rejoin, .int .i64 d.quota, .slice a.tA d.tasks.length a.tC, .slice a.sA d.streams.length a.sC] 25] = W9 at *
  have hW9' := hW9
  simp only [allocs] at hW9'
  rw [hW9']
  clear hW9'
  simp only [List.length_cons, List.length_nil, Nat.reduceAdd] at hz9
  have HSt9 := hide (fun rec W (hb : Below W9.heap.size W9 W) => HSt.out rec W (by
    refine Below.trans ?_ (hb.mono (by omega))
    rw [← hW9]
    have hz8 := allocs_size [.cells #[.int .i64 (N : Nat), .int .i64 d.drift, .int .i64 d.reading, .int .i64 d.rejoin, .int .i64 d.quota, .slice a.tA d.tasks.length a.tC, .slice a.sA d.streams.length a.sC] 25, .cells #[.slice none 0 0] 31, .cells #[.slice none 0 0] 32, .cells #[.bool false] 4, .cells #[.slice none 0 0] 31, .cells #[.slice none 0 0] 32, .cells (Array.replicate N (.slice none 0 0)) 74, .cells #[.slice (some ⟨w.heap.size + 6, 0, none⟩) N N] 69] w
    simp only [List.length_cons, List.length_nil, Nat.reduceAdd] at hz8
    simp only [allocs] at hz8 ⊢
    rw [← hz8]
    exact bal _ _))
  have hD9 : W9.cell? ⟨w.heap.size + 8, 6, none⟩ = some (.slice a.sA d.streams.length a.sC) := by rw [cell_of_row _ _ _ _ _ _ hat9]; rfl
  have HDl := hide (show w.heap.size + 8 < W9.heap.size by omega)
  have HD9 := hide hD9
  clear hW9 HSt hat9 hmk HMk hD9
  refine wp_range2 (g := .tmp 17) rfl (enters_of Tryd.func36 (by kernel_rfl) rfl) ?_
  rintro W0 rec hl hD hb0 hz0 hst hpe htm hps has hbo
  rw [hz9] at hl hD hz0
  have hJ0 := HSt9.out rec W0 hb0 (by omega) hl hD
  have HZ9 := hide hz9
  refine (streams1_in d a (W9.heap.size + 1) (w.heap.size + 8) w W0 (fun k W => ∃ Q Al cl, JnS w W d a N rec k k k Q Al cl) (fun W => JnX w W d a rec) HOk.out.sl HOk.out.pn ((bcl hb0 HDl.out).trans HD9.out) (Nat.lt_of_lt_of_le HDl.out hb0.size) (HD.out w (Below.refl _ _)).streams (fun k W1 ⟨Q, Al, cl, hJ⟩ => hJ.bel) (fun k W1 W2 ⟨Q, Al, cl, hJ⟩ hb => ⟨Q, Al, cl, hJ.below hb⟩) ?hY ⟨[], none, 0, hJ0⟩).mono ?hR
  case hR =>
    rintro e W3 ⟨hv, hcase⟩
    refine ⟨hv, ?_⟩
    have hz10 : W9.heap.size + 1 = w.heap.size + 10 := by omega
    rcases hcase with ⟨Q, Al, cl, hJ⟩ | hX
    · refine ⟨rec, by rw [hz10]; exact hJ.lp, by rw [hst]; simp, ?_⟩
      rw [hz10]
      have hJp := hJ.put { rec with state := .exhausted }
      have hDf := (World.putObj_heap_other (w := W3) (o := .loop { rec with state := .exhausted }) (show w.heap.size + 9 ≠ w.heap.size + 10 by omega)).trans hJ.df
      have HFy := hide (fitL_of HOk.out)
      generalize W3.putObj (w.heap.size + 10) (.loop { rec with state := .exhausted }) = W4 at *
      rw [hpe]
      dsimp only
      rw [hz9]
      clear hl hD hb0 hz0 hst hpe htm hps has hbo hJ0 hv hJ
      have HFl := hide (HFy.out hJp.ld)
      have HJ := hide hJp
      have HDf := hide hDf
      obtain ⟨Ap, cp, hph, hpo⟩ := hJp.po
      obtain ⟨hlh, hli⟩ := hJp.li
      have b4 : W4.cell? ⟨w.heap.size + 4, 0, none⟩ = some (.slice Ap (portN (d.streams.take d.streams.length)) cp) := by rw [cell_of_row _ _ _ _ _ _ hph]; rfl
      have b5 : W4.cell? ⟨w.heap.size + 5, 0, none⟩ = some (.slice Al d.streams.length cl) := by rw [cell_of_row _ _ _ _ _ _ hlh]; rfl
      have f2 : W4.frozen? ⟨w.heap.size + 1, 0, none⟩ = false := by simp [World.frozen?, hJp.r2]
      have f3 : W4.frozen? ⟨w.heap.size + 2, 0, none⟩ = false := by simp [World.frozen?, hJp.r3]
      have f4 : W4.frozen? ⟨w.heap.size + 3, 0, none⟩ = false := by simp [World.frozen?, hJp.r4]
      have a2 : W4.cell? ⟨w.heap.size + 1, 0, none⟩ = some (.slice none 0 0) := by rw [cell_of_row _ _ _ _ _ _ hJp.r2]; rfl
      have a3 : W4.cell? ⟨w.heap.size + 2, 0, none⟩ = some (.slice none 0 0) := by rw [cell_of_row _ _ _ _ _ _ hJp.r3]; rfl
      have a4 : W4.cell? ⟨w.heap.size + 3, 0, none⟩ = some (.bool false) := by rw [cell_of_row _ _ _ _ _ _ hJp.r4]; rfl
      have hs4 := hJp.sz
      clear hJp hDf hph hlh
      go_wp2_with fail
      refine wp_region_factsW (p3C w W4) (p3F w (.slice Ap (portN (d.streams.take d.streams.length)) cp) (.slice Al d.streams.length cl)) p3T p3M (fun j hj => if_pos hj) p3_mb p3_sup (by kernel_rfl) (by kernel_rfl) ⟨HJ.out.bel.drew, rfl, fun _ _ _ _ => rfl⟩ ?p3ini ?p3steps ?p3fin
      case p3ini =>
        intro j hj
        have hj' : 5 ≤ j := hj
        match j, hj' with
        | 5, _ => exact HJ.out.r2
        | 6, _ => exact HJ.out.r3
        | 7, _ => exact HJ.out.r4
        | n + 8, _ => trivial
      case p3steps =>
        refine AllFrom.cons (i := 0) (step_isW (by kernel_rfl) ?p3_0) (AllFrom.cons (i := 1) (step_isW (by kernel_rfl) ?p3_1) (AllFrom.cons (i := 2) (step_runW (by kernel_rfl) ?p3_2) (AllFrom.cons (i := 3) (step_runW (by kernel_rfl) ?p3_3) (AllFrom.cons (i := 4) (step_runW (by kernel_rfl) ?p3_4) (trivial)))))
        case p3_0 =>
          intro L' vals W2 ρ hI hi hdep hnew hold hc
          have e0 : ρ (.tmp 5) = .pointer (some ⟨w.heap.size + 4, 0, none⟩) := (hold 5 (by kernel_rfl)).trans (by kernel_rfl)
          have p0 : W2.cell? ⟨w.heap.size + 4, 0, none⟩ = some (.slice Ap (portN (d.streams.take d.streams.length)) cp) := (cell_same (hI.com.old _ (by omega) (by omega) (by omega)) 0).trans b4
          refine ⟨.slice Ap (portN (d.streams.take d.streams.length)) cp, ?_, by simp [p3F, upd]⟩
          simp [execOp, go_sem, e0, p0]
        case p3_1 =>
          intro L' vals W2 ρ hI hi hdep hnew hold hc
          have e0 : ρ (.tmp 6) = .pointer (some ⟨w.heap.size + 5, 0, none⟩) := (hold 6 (by kernel_rfl)).trans (by kernel_rfl)
          have p0 : W2.cell? ⟨w.heap.size + 5, 0, none⟩ = some (.slice Al d.streams.length cl) := (cell_same (hI.com.old _ (by omega) (by omega) (by omega)) 0).trans b5
          refine ⟨.slice Al d.streams.length cl, ?_, by simp [p3F, upd]⟩
          simp [execOp, go_sem, e0, p0]
        case p3_2 =>
          intro L' vals W2 ρ hI hi hdep hnew hold hc
          have e0 : ρ (.tmp 2) = .pointer (some ⟨w.heap.size + 1, 0, none⟩) := (hold 2 (by kernel_rfl)).trans (by kernel_rfl)
          have e1 : ρ (.tmp 63) = .slice Ap (portN (d.streams.take d.streams.length)) cp := (hnew 0 63 (dep hdep 0 (by kernel_rfl)) (by kernel_rfl) (of_decide_eq_true (by kernel_rfl)) (of_decide_eq_true (by kernel_rfl))).trans (hI.fact 0 (.inr (dep hdep 0 (by kernel_rfl))) (neverW hI (of_decide_eq_true (by kernel_rfl))))
          have h5 : W2.heap[w.heap.size + 1]? = some (.cells #[.slice none 0 0] 31 (0, 0)) := hI.fact 5 (.inl (of_decide_eq_true (by kernel_rfl))) hi
          have q0 : W2.cell? ⟨w.heap.size + 1, 0, none⟩ = some (.slice none 0 0) := by rw [cell_of_row _ _ _ _ _ _ h5]; rfl
          have f0 : W2.frozen? ⟨w.heap.size + 1, 0, none⟩ = false := by simp [World.frozen?, h5]
          refine ⟨undef, W2.setCell ⟨w.heap.size + 1, 0, none⟩ (.slice Ap (portN (d.streams.take d.streams.length)) cp), .inr ⟨rfl, ?_⟩, hI.com.set (by omega), by show (W2.setCell _ _).heap[w.heap.size + 1]? = _; rw [set_cells h5]; rfl, fun j hji hTj hd hT => p3_still (hI.fact j hd hT) ?_⟩
          · simp [execOp, go_sem, e0, e1, q0, f0, hc]
          · have : j ≠ 5 := fun e => by subst e; exact hTj rfl
            omega
        case p3_3 =>
          intro L' vals W2 ρ hI hi hdep hnew hold hc
          have e0 : ρ (.tmp 3) = .pointer (some ⟨w.heap.size + 2, 0, none⟩) := (hold 3 (by kernel_rfl)).trans (by kernel_rfl)
          have e1 : ρ (.tmp 64) = .slice Al d.streams.length cl := (hnew 1 64 (dep hdep 1 (by kernel_rfl)) (by kernel_rfl) (of_decide_eq_true (by kernel_rfl)) (of_decide_eq_true (by kernel_rfl))).trans (hI.fact 1 (.inr (dep hdep 1 (by kernel_rfl))) (neverW hI (of_decide_eq_true (by kernel_rfl))))
          have h5 : W2.heap[w.heap.size + 2]? = some (.cells #[.slice none 0 0] 32 (0, 0)) := hI.fact 6 (.inl (of_decide_eq_true (by kernel_rfl))) hi
          have q0 : W2.cell? ⟨w.heap.size + 2, 0, none⟩ = some (.slice none 0 0) := by rw [cell_of_row _ _ _ _ _ _ h5]; rfl
          have f0 : W2.frozen? ⟨w.heap.size + 2, 0, none⟩ = false := by simp [World.frozen?, h5]
          refine ⟨undef, W2.setCell ⟨w.heap.size + 2, 0, none⟩ (.slice Al d.streams.length cl), .inr ⟨rfl, ?_⟩, hI.com.set (by omega), by show (W2.setCell _ _).heap[w.heap.size + 2]? = _; rw [set_cells h5]; rfl, fun j hji hTj hd hT => p3_still (hI.fact j hd hT) ?_⟩
          · simp [execOp, go_sem, e0, e1, q0, f0, hc]
          · have : j ≠ 6 := fun e => by subst e; exact hTj rfl
            omega
        case p3_4 =>
          intro L' vals W2 ρ hI hi hdep hnew hold hc
          have e0 : ρ (.tmp 4) = .pointer (some ⟨w.heap.size + 3, 0, none⟩) := (hold 4 (by kernel_rfl)).trans (by kernel_rfl)
          have h5 : W2.heap[w.heap.size + 3]? = some (.cells #[.bool false] 4 (0, 0)) := hI.fact 7 (.inl (of_decide_eq_true (by kernel_rfl))) hi
          have q0 : W2.cell? ⟨w.heap.size + 3, 0, none⟩ = some (.bool false) := by rw [cell_of_row _ _ _ _ _ _ h5]; rfl
          have f0 : W2.frozen? ⟨w.heap.size + 3, 0, none⟩ = false := by simp [World.frozen?, h5]
          refine ⟨undef, W2.setCell ⟨w.heap.size + 3, 0, none⟩ (.bool true), .inr ⟨rfl, ?_⟩, hI.com.set (by omega), by show (W2.setCell _ _).heap[w.heap.size + 3]? = _; rw [set_cells h5]; rfl, fun j hji hTj hd hT => p3_still (hI.fact j hd hT) ?_⟩
          · simp [execOp, go_sem, e0, q0, f0, hc]
          · have : j ≠ 7 := fun e => by subst e; exact hTj rfl
            omega
      case p3fin =>
        intro vals W6 hC hF
        have h2 := hF 2 (of_decide_eq_true (by kernel_rfl)) (of_decide_eq_true (by kernel_rfl))
        have h3 := hF 3 (of_decide_eq_true (by kernel_rfl)) (of_decide_eq_true (by kernel_rfl))
        have h4 := hF 4 (of_decide_eq_true (by kernel_rfl)) (of_decide_eq_true (by kernel_rfl))
        simp only [p3F] at h2 h3 h4
        simp [canon, dstOf, Act.put]
        have hOp := own_stands (W' := W6) hpo fun j hj => hC.old j (by have := (own_block hpo hj).2.1; omega) (by have := (own_block hpo hj).2.1; omega) (by have := (own_block hpo hj).2.1; omega)
        have hOl := own_stands (W' := W6) hli fun j hj => hC.old j (by have := (own_block hli hj).2.1; omega) (by have := (own_block hli hj).2.1; omega) (by have := (own_block hli hj).2.1; omega)
        have hDs : DsS W6 w.heap.size Q := HJ.out.ds.kept fun j cur hj hc => by
          rw [hC.old j (fun e => ?_) (fun e => ?_) (fun e => ?_)]
          · exact hc
          · rw [e, HJ.out.r2] at hc; exact absurd (Option.some.inj hc) (ty_ne (by decide))
          · rw [e, HJ.out.r3] at hc; exact absurd (Option.some.inj hc) (ty_ne (by decide))
          · rw [e, HJ.out.r4] at hc; exact absurd (Option.some.inj hc) (ty_ne (by decide))
        have hd9 := (hC.old (w.heap.size + 9) (by omega) (by omega) (by omega)).trans HDf.out
        clear hF b4 b5 f2 f3 f4 a2 a3 a4
        go_wp2_with fail
        refine leave_ret (Ds := [w.heap.size + 9]) (B := w.heap.size + 9) ⟨fun D hD => by
          obtain rfl := List.mem_singleton.1 hD
          exact ⟨Nat.le_refl _, hd9⟩, by simp⟩ fun W' hb' hk' => ?_
        have c2 : W'.cell? ⟨w.heap.size + 1, 0, none⟩ = some (.slice Ap (portN (d.streams.take d.streams.length)) cp) := by rw [cell_of_row _ _ _ _ _ _ (hk'.same _ _ h2 rfl)]; rfl
        have c3 : W'.cell? ⟨w.heap.size + 1 + 1, 0, none⟩ = some (.slice Al d.streams.length cl) := by rw [cell_of_row _ _ _ _ _ _ (hk'.same _ _ h3 rfl)]; rfl
        have c4 : W'.cell? ⟨w.heap.size + 1 + 1 + 1, 0, none⟩ = some (.bool true) := by rw [cell_of_row _ _ _ _ _ _ (hk'.same _ _ h4 rfl)]; rfl
        have hOp' := own_cells hOp hk'
        have hOl' := own_cells hOl hk'
        have hDs' : DsS W' w.heap.size Q := hDs.kept fun j cur hj hc => hk'.same _ _ hc rfl
        have hQl : Q.length = d.streams.length := by have := congrArg List.length HJ.out.qs; rwa [List.length_map, linksTo_len] at this
        have hQ64 : ∀ q ∈ Q, I64 q.1.source ∧ I64 q.1.offset := fun q hq => by
          have hm : q.1 ∈ linksTo d.tasks d.streams d.streams.length := by rw [← HJ.out.qs]; exact List.mem_map_of_mem hq
          obtain ⟨i, hi, e⟩ := List.mem_map.1 hm
          have hi := List.mem_range.1 hi
          rw [← e, link_is]
          dsimp only
          have hp1 := portN_take d.streams i
          have hp2 := HOk.out.pn
          have hm2 := getD_mem (l := d.streams) (d := default) hi
          obtain ⟨n1, n2⟩ := HOk.out.node hm2
          have h0 : 0 ≤ loadN d.tasks (nodeOf d.tasks (d.streams.getD i default)) (d.streams.take i) := sumI_nonneg fun s hs => HOk.out.loadOf0 _ s (List.mem_of_mem_take hs)
          have h1 : loadN d.tasks (nodeOf d.tasks (d.streams.getD i default)) (d.streams.take i) ≤ loadN d.tasks (nodeOf d.tasks (d.streams.getD i default)) d.streams := sumI_take (HOk.out.loadOf0 _) i
          have h2 := HOk.out.load HFl.out n1 n2
          unfold I64
          omega
        obtain ⟨A', c', g1, g2, g3, g4⟩ := own_links (Q := Q) (by rw [hQl]; exact hOl') hDs' hQ64
        rw [HJ.out.qs] at g4
        rw [hQl] at g1 g2
        cases g1
        have hPl : (portsAll (d.streams.take d.streams.length)).length = portN (d.streams.take d.streams.length) := portsAll_len _
        obtain ⟨A2, c2', k1, k2, k3, k4⟩ := own_ports (l := portsAll (d.streams.take d.streams.length)) (by rw [hPl]; exact hOp') (ports_i64 HOk.out)
        rw [hPl] at k1 k2
        cases k1
        refine ⟨.tuple #[.slice Ap (portN (d.streams.take d.streams.length)) cp, .slice Al d.streams.length cl, .bool true], by simp [results, Tryd.results15, go_sem, c2, c3, c4], hC.bel.trans (hb'.mono (by omega)), .inl ⟨HFl.out, Ap, cp, Al, cl, ?_, ?_, k3, g2, g3, fun V hg => ?_⟩⟩
        · rw [List.take_length]
        · rw [List.take_length] at k2; exact k2
        · refine ⟨?_, ?_⟩
          · have := own_portsA (l := portsAll (d.streams.take d.streams.length)) (by rw [hPl]; exact hg.own hOp' (by omega)) (ports_i64 HOk.out)
            rw [List.take_length] at this; exact this
          · have := own_linksA (Q := Q) (by rw [hQl]; exact hg.own hOl' (by omega)) (fun q hq => ⟨hg.own (hDs' q hq).1 (Nat.le_refl _), (hDs' q hq).2⟩ : DsS V w.heap.size Q) hQ64
            rw [HJ.out.qs] at this; exact this
    · refine ⟨_, by rw [hz10]; exact hX.lp, by simp, ?_⟩
      rw [hz10, hz9]
      dsimp only
      have HX := hide hX
      clear hl hD hb0 hz0 hst hpe htm hps has hbo hJ0 hv hX
      go_wp2_with fail
      have hX := HX.out
      have hs3 := hX.sz
      refine leave_ret (Ds := [w.heap.size + 9]) (B := w.heap.size + 9) ⟨fun D hD => by
        obtain rfl := List.mem_singleton.1 hD
        exact ⟨Nat.le_refl _, (World.putObj_heap_other (by omega)).trans hX.df⟩, by simp⟩ fun W' hb' hk' => ?_
      have c2 : W'.cell? ⟨w.heap.size + 1, 0, none⟩ = some (.slice none 0 0) := by rw [cell_of_row _ _ _ _ _ _ (hk'.same _ _ ((World.putObj_heap_other (by omega)).trans hX.r2) rfl)]; rfl
      have c3 : W'.cell? ⟨w.heap.size + 1 + 1, 0, none⟩ = some (.slice none 0 0) := by rw [cell_of_row _ _ _ _ _ _ (hk'.same _ _ ((World.putObj_heap_other (by omega)).trans hX.r3) rfl)]; rfl
      have c4 : W'.cell? ⟨w.heap.size + 1 + 1 + 1, 0, none⟩ = some (.bool false) := by rw [cell_of_row _ _ _ _ _ _ (hk'.same _ _ ((World.putObj_heap_other (by omega)).trans hX.r4) rfl)]; rfl
      exact ⟨.tuple #[.slice none 0 0, .slice none 0 0, .bool false], by simp [results, Tryd.results15, go_sem, c2, c3, c4], (hX.bel.grown (grownBy_putObj' _ _ _) hX.bel.size (fun q e => by cases e; omega)).trans (hb'.mono (by omega)), .inr ⟨hX.no, rfl⟩⟩
  case hY =>
    intro k W1 As cs A c hk ⟨Q, Al, cl, hJ⟩ hAs hcs hcm hA
    have hlp := hJ.lp
    rw [show w.heap.size + 10 = W9.heap.size + 1 by omega] at hlp
    refine yield_at hlp (by rw [hps]; rfl) ?_
    rw [has, hps, htm]
    have HLk := hide (link_is d.tasks d.streams k)
    have hpn := portN_next d.streams k hk
    have hpk := portN_take d.streams (k + 1)
    have hp64 := HOk.out.pn
    generalize hsdef : d.streams.getD k default = s at *
    have HSd := hide hsdef
    obtain ⟨m, hm⟩ : ∃ m, m = s.dests.length := ⟨_, rfl⟩
    have HM := hide hm
    rw [← hm] at hcs hA HLk hpn
    obtain ⟨p, hp⟩ : ∃ p, p = portN (d.streams.take k) := ⟨_, rfl⟩
    have HP := hide hp
    rw [← hp] at hA HLk hpn ⊢
    have HPn := hide hpn
    have HJ := hide hJ
    have HST := hide hst
    have HPE := hide hpe
    have HBO := hide hbo
    have HAs := hide hAs
    have HA := hide hA
    have HCs := hide hcs
    have HCm := hide hcm
    have HK := hide hk
    have hpm : p + m ≤ 64 := by omega
    unfold Sm.v
    rw [← hm]
    clear hJ hst hpe hbo htm hps has hb0 hl hD hJ0 hlp hAs hA hcs hcm hz9 hz0 hk hsdef hm hp hpn hpk hp64
    gi_wp2
    have hJ2 := (HJ.out.below (bal W1 (.cells #[.int .i64 s.src, .slice As m cs, .int .i64 s.kind, .int .i64 s.size, .int .i64 s.depth, .int .i64 s.fresh] 53))).below (bal _ (.cells #[.int .i64 (p : Nat), .slice A m c, .int .i64 0] 51))
    have hbs := heap_alloc2_old W1 (.cells #[.int .i64 s.src, .slice As m cs, .int .i64 s.kind, .int .i64 s.size, .int .i64 s.depth, .int .i64 s.fresh] 53) (.cells #[.int .i64 (p : Nat), .slice A m c, .int .i64 0] 51)
    have hbl := heap_alloc2_new W1 (.cells #[.int .i64 s.src, .slice As m cs, .int .i64 s.kind, .int .i64 s.size, .int .i64 s.depth, .int .i64 s.fresh] 53) (.cells #[.int .i64 (p : Nat), .slice A m c, .int .i64 0] 51)
    have hb12 : Below W1.heap.size W1 ((W1.alloc (.cells #[.int .i64 s.src, .slice As m cs, .int .i64 s.kind, .int .i64 s.size, .int .i64 s.depth, .int .i64 s.fresh] 53)).alloc (.cells #[.int .i64 (p : Nat), .slice A m c, .int .i64 0] 51)) := (bal W1 _).alloc (by simp) _
    have hz12 : ((W1.alloc (.cells #[.int .i64 s.src, .slice As m cs, .int .i64 s.kind, .int .i64 s.size, .int .i64 s.depth, .int .i64 s.fresh] 53)).alloc (.cells #[.int .i64 (p : Nat), .slice A m c, .int .i64 0] 51)).heap.size = W1.heap.size + 2 := by simp
    have hz10 : W9.heap.size + 1 = w.heap.size + 10 := by rw [HZ9.out]
    rw [hz10]
    refine ⟨rec, hJ2.lp, HST.out, ?_⟩
    generalize ((W1.alloc (.cells #[.int .i64 s.src, .slice As m cs, .int .i64 s.kind, .int .i64 s.size, .int .i64 s.depth, .int .i64 s.fresh] 53)).alloc (.cells #[.int .i64 (p : Nat), .slice A m c, .int .i64 0] 51)) = W2 at *
    have hs1 := HJ.out.sz
    have hJ3 := hJ2.put { rec with state := .busy }
    have hput : ∀ j, j ≠ w.heap.size + 10 → (W2.putObj (w.heap.size + 10) (.loop { rec with state := .busy })).heap[j]? = W2.heap[j]? := fun j h1 => World.putObj_heap_other h1
    have hzp : (W2.putObj (w.heap.size + 10) (.loop { rec with state := .busy })).heap.size = W2.heap.size := by simp
    have hbs3 := (hput W1.heap.size (by omega)).trans hbs
    have hbl3 := (hput (W1.heap.size + 1) (by omega)).trans hbl
    have hA3 := own_stands (W' := W2.putObj (w.heap.size + 10) (.loop { rec with state := .busy })) (own_below HA.out hb12 (Nat.le_refl _)) fun q hq => hput q fun e => by
      obtain ⟨_, _, cur, hc⟩ := own_block (own_below HA.out hb12 (Nat.le_refl _)) hq
      rw [e, hJ2.lp] at hc; cases hc
    generalize W2.putObj (w.heap.size + 10) (.loop { rec with state := .busy }) = W3 at *
    rw [HBO.out]
    clear hput hbs hbl hJ2 HA
    obtain ⟨bs, hbsd⟩ : ∃ bs, bs = W1.heap.size := ⟨_, rfl⟩
    rw [← hbsd] at hbs3 hbl3 hz12 ⊢
    have HBs := hide hbsd
    have hs3 : bs + 2 = W3.heap.size := by omega
    have hsz3 : w.heap.size + 11 ≤ bs := by omega
    clear hbsd
    -- the stream, its task and node
    have hsm := HOk.out.sm s (by rw [← HSd.out]; exact getD_mem HK.out)
    obtain ⟨S, hS⟩ := Int.eq_ofNat_of_zero_le hsm.1.1
    have hST : S < d.tasks.length := by omega
    obtain ⟨tb, toff, hTA, htl, t0, _, _⟩ := (HD.out W3 hJ3.bel).tasks.at hST
    have htb : tb < w.heap.size := by
      obtain ⟨tb', toff', hTA', htl', _⟩ := (HD.out w (Below.refl _ _)).tasks.at hST
      rw [hTA] at hTA'; cases hTA'; exact htl'
    obtain ⟨⟨g1, g2⟩, _⟩ := HOk.out.tk _ (getD_mem (d := default) hST)
    obtain ⟨n, hn⟩ := Int.eq_ofNat_of_zero_le g1
    have hnN : n < N := by have := HNn.out; omega
    have HNd := hide (show nodeOf d.tasks s = (n : Int) from by unfold nodeOf; rw [hS, Int.toNat_natCast]; exact hn)
    rw [hn] at t0
    obtain ⟨T, hTe⟩ : ∃ T, T = d.tasks.length := ⟨_, rfl⟩
    have HT := hide hTe
    rw [← hTe] at hST
    have k7 : W3.drew.cell? ⟨w.heap.size + 7, 0, none⟩ = some (.slice (some ⟨w.heap.size + 6, 0, none⟩) N N) := by
      show W3.cell? _ = _
      rw [cell_of_row _ _ _ _ _ _ hJ3.pc]; rfl
    have k5 : W3.drew.cell? ⟨w.heap.size, 5, none⟩ = some (.slice (some ⟨tb, toff, none⟩) T a.tC) := by
      show W3.cell? _ = _
      rw [hJ3.dm.c5, hTA, hTe]
    have ks : W3.drew.cell? ⟨bs, 0, none⟩ = some (.int .i64 (S : Nat)) := by
      show W3.cell? _ = _
      rw [cell_of_row _ _ _ _ _ _ hbs3, ← hS]; rfl
    have kt : W3.drew.cell? ⟨tb, toff + S * 3, none⟩ = some (.int .i64 (n : Nat)) := t0
    have hS2 := hsm.2.2.1
    clear hsm hTA htl t0 g1 g2 hTe
    gi_wp2
    refine wpIn_vals [.slice (some ⟨w.heap.size + 6, 0, none⟩) N N, .pointer (some ⟨w.heap.size, 5, none⟩), .slice (some ⟨tb, toff, none⟩) T a.tC, .pointer (some ⟨bs, 0, none⟩), .int .i64 (S : Nat), .pointer (some ⟨tb, toff + S * 3, none⟩), .pointer (some ⟨tb, toff + S * 3, none⟩), .int .i64 (n : Nat), .pointer (some ⟨w.heap.size + 6, n, none⟩), .pointer (some ⟨w.heap.size + 6, n, none⟩)] rfl (by kernel_rfl) (by kernel_rfl) (by decide) ?r7_steps ?r7_fin
    case r7_steps =>
      refine AllFrom.cons (i := 0) (step_isIn (by kernel_rfl) (fun _ _ => rfl) (fun _ => rfl) ?r7_0) (AllFrom.cons (i := 1) (step_isIn (by kernel_rfl) (fun _ _ => rfl) (fun _ => rfl) ?r7_1) (AllFrom.cons (i := 2) (step_isIn (by kernel_rfl) (fun _ _ => rfl) (fun _ => rfl) ?r7_2) (AllFrom.cons (i := 3) (step_isIn (by kernel_rfl) (fun _ _ => rfl) (fun _ => rfl) ?r7_3) (AllFrom.cons (i := 4) (step_isIn (by kernel_rfl) (fun _ _ => rfl) (fun _ => rfl) ?r7_4) (AllFrom.cons (i := 5) (step_isIn (by kernel_rfl) (fun _ _ => rfl) (fun _ => rfl) ?r7_5) (AllFrom.cons (i := 6) (step_isIn (by kernel_rfl) (fun _ _ => rfl) (fun _ => rfl) ?r7_6) (AllFrom.cons (i := 7) (step_isIn (by kernel_rfl) (fun _ _ => rfl) (fun _ => rfl) ?r7_7) (AllFrom.cons (i := 8) (step_isIn (by kernel_rfl) (fun _ _ => rfl) (fun _ => rfl) ?r7_8) (AllFrom.cons (i := 9) (step_isIn (by kernel_rfl) (fun _ _ => rfl) (fun _ => rfl) ?r7_9) (trivial))))))))))
      case r7_0 =>
        intro L' vals W2 ρ hI hi hdep hnew hold hc
        have e0 : ρ (.tmp 7) = .pointer (some ⟨w.heap.size + 7, 0, none⟩) := (hold 7 (by kernel_rfl)).trans (by kernel_rfl)
        have p1 := (bcl hI.com (by omega)).trans k7
        refine ⟨.slice (some ⟨w.heap.size + 6, 0, none⟩) N N, ?_, vF_upd rfl⟩
        simp [execOp, go_sem, e0, p1]
      case r7_1 =>
        intro L' vals W2 ρ hI hi hdep hnew hold hc
        have e0 : ρ (.tmp 1) = .pointer (some ⟨w.heap.size, 0, none⟩) := (hold 1 (by kernel_rfl)).trans (by kernel_rfl)
        refine ⟨.pointer (some ⟨w.heap.size, 5, none⟩), ?_, vF_upd rfl⟩
        simp [execOp, go_sem, e0]
      case r7_2 =>
        intro L' vals W2 ρ hI hi hdep hnew hold hc
        have e0 : ρ (.tmp 21) = .pointer (some ⟨w.heap.size, 5, none⟩) := (hnew 1 21 (dep hdep 1 (by kernel_rfl)) (by kernel_rfl) (of_decide_eq_true (by kernel_rfl)) (of_decide_eq_true (by kernel_rfl))).trans (vals_at hI (by decide) (dep hdep 1 (by kernel_rfl)) rfl)
        have p1 := (bcl hI.com (by omega)).trans k5
        refine ⟨.slice (some ⟨tb, toff, none⟩) T a.tC, ?_, vF_upd rfl⟩
        simp [execOp, go_sem, e0, p1]
      case r7_3 =>
        intro L' vals W2 ρ hI hi hdep hnew hold hc
        have e0 : ρ (.tmp 8) = .pointer (some ⟨bs, 0, none⟩) := (hold 8 (by kernel_rfl)).trans (by kernel_rfl)
        refine ⟨.pointer (some ⟨bs, 0, none⟩), ?_, vF_upd rfl⟩
        simp [execOp, go_sem, e0]
      case r7_4 =>
        intro L' vals W2 ρ hI hi hdep hnew hold hc
        have e0 : ρ (.tmp 23) = .pointer (some ⟨bs, 0, none⟩) := (hnew 3 23 (dep hdep 3 (by kernel_rfl)) (by kernel_rfl) (of_decide_eq_true (by kernel_rfl)) (of_decide_eq_true (by kernel_rfl))).trans (vals_at hI (by decide) (dep hdep 3 (by kernel_rfl)) rfl)
        have p1 := (bcl hI.com (by omega)).trans ks
        refine ⟨.int .i64 (S : Nat), ?_, vF_upd rfl⟩
        simp [execOp, go_sem, e0, p1]
      case r7_5 =>
        intro L' vals W2 ρ hI hi hdep hnew hold hc
        have e0 : ρ (.tmp 22) = .slice (some ⟨tb, toff, none⟩) T a.tC := (hnew 2 22 (dep hdep 2 (by kernel_rfl)) (by kernel_rfl) (of_decide_eq_true (by kernel_rfl)) (of_decide_eq_true (by kernel_rfl))).trans (vals_at hI (by decide) (dep hdep 2 (by kernel_rfl)) rfl)
        have e1 : ρ (.tmp 24) = .int .i64 (S : Nat) := (hnew 4 24 (dep hdep 4 (by kernel_rfl)) (by kernel_rfl) (of_decide_eq_true (by kernel_rfl)) (of_decide_eq_true (by kernel_rfl))).trans (vals_at hI (by decide) (dep hdep 4 (by kernel_rfl)) rfl)
        refine ⟨.pointer (some ⟨tb, toff + S * 3, none⟩), ?_, vF_upd rfl⟩
        simp [execOp, go_sem, e0, e1, hST]
      case r7_6 =>
        intro L' vals W2 ρ hI hi hdep hnew hold hc
        have e0 : ρ (.tmp 25) = .pointer (some ⟨tb, toff + S * 3, none⟩) := (hnew 5 25 (dep hdep 5 (by kernel_rfl)) (by kernel_rfl) (of_decide_eq_true (by kernel_rfl)) (of_decide_eq_true (by kernel_rfl))).trans (vals_at hI (by decide) (dep hdep 5 (by kernel_rfl)) rfl)
        refine ⟨.pointer (some ⟨tb, toff + S * 3, none⟩), ?_, vF_upd rfl⟩
        simp [execOp, go_sem, e0]
      case r7_7 =>
        intro L' vals W2 ρ hI hi hdep hnew hold hc
        have e0 : ρ (.tmp 26) = .pointer (some ⟨tb, toff + S * 3, none⟩) := (hnew 6 26 (dep hdep 6 (by kernel_rfl)) (by kernel_rfl) (of_decide_eq_true (by kernel_rfl)) (of_decide_eq_true (by kernel_rfl))).trans (vals_at hI (by decide) (dep hdep 6 (by kernel_rfl)) rfl)
        have p1 := (bcl hI.com (by omega)).trans kt
        refine ⟨.int .i64 (n : Nat), ?_, vF_upd rfl⟩
        simp [execOp, go_sem, e0, p1]
      case r7_8 =>
        intro L' vals W2 ρ hI hi hdep hnew hold hc
        have e0 : ρ (.tmp 20) = .slice (some ⟨w.heap.size + 6, 0, none⟩) N N := (hnew 0 20 (dep hdep 0 (by kernel_rfl)) (by kernel_rfl) (of_decide_eq_true (by kernel_rfl)) (of_decide_eq_true (by kernel_rfl))).trans (vals_at hI (by decide) (dep hdep 0 (by kernel_rfl)) rfl)
        have e1 : ρ (.tmp 27) = .int .i64 (n : Nat) := (hnew 7 27 (dep hdep 7 (by kernel_rfl)) (by kernel_rfl) (of_decide_eq_true (by kernel_rfl)) (of_decide_eq_true (by kernel_rfl))).trans (vals_at hI (by decide) (dep hdep 7 (by kernel_rfl)) rfl)
        refine ⟨.pointer (some ⟨w.heap.size + 6, n, none⟩), ?_, vF_upd rfl⟩
        simp [execOp, go_sem, e0, e1, hnN]
      case r7_9 =>
        intro L' vals W2 ρ hI hi hdep hnew hold hc
        have e0 : ρ (.tmp 28) = .pointer (some ⟨w.heap.size + 6, n, none⟩) := (hnew 8 28 (dep hdep 8 (by kernel_rfl)) (by kernel_rfl) (of_decide_eq_true (by kernel_rfl)) (of_decide_eq_true (by kernel_rfl))).trans (vals_at hI (by decide) (dep hdep 8 (by kernel_rfl)) rfl)
        refine ⟨.pointer (some ⟨w.heap.size + 6, n, none⟩), ?_, vF_upd rfl⟩
        simp [execOp, go_sem, e0]
    case r7_fin =>
      intro vals Wf hCf hVf
      have v0 := hVf 0 _ rfl
      have v1 := hVf 1 _ rfl
      have v2 := hVf 2 _ rfl
      have v3 := hVf 3 _ rfl
      have v4 := hVf 4 _ rfl
      have v5 := hVf 5 _ rfl
      have v6 := hVf 6 _ rfl
      have v7 := hVf 7 _ rfl
      have v8 := hVf 8 _ rfl
      have v9 := hVf 9 _ rfl
      simp [canon, dstOf, Act.put, v0, v1, v2, v3, v4, v5, v6, v7, v8, v9]
      clear v0 v1 v2 v3 v4 v5 v6 v7 v8 v9 hVf
      have hb34 : Below W3.heap.size W3 Wf := (below_drewN (Below.refl _ _) 1 : Below _ W3 W3.drew).trans hCf
      have hJ4 := hJ3.below hb34
      have hbs4 := (hb34.block bs (by omega)).trans hbs3
      have hbl4 := (hb34.block (bs + 1) (by omega)).trans hbl3
      have hA4 := own_below hA3 hb34 (Nat.le_refl _)
      have hs4 := hb34.size
      clear k7 k5 ks kt hCf hJ3 hbs3 hbl3 hA3
      generalize Wf = W4 at *
      obtain ⟨vs, hpw⟩ := hJ4.pw
      have hil : n < (payRows N d.tasks d.streams k).length := by rw [payRows_len]; exact hnN
      have hown := hpw.own n hil
      rw [payRows_at d.tasks d.streams k hnN] at hown
      obtain ⟨Ap, cp, hvs⟩ := own_slice hown
      obtain ⟨q0, qf⟩ := hpw.cell hil
      rw [hvs] at q0 hown
      have hSp : Sps W4 Ap (payTo d.tasks d.streams (n : Int) k) := by
        obtain ⟨A', c', f1, f2, f3, f4⟩ := own_lies (f := spC) (n := 2) (fun _ => rfl) ((0, 0) : Int × Int) hown
        injection f1 with g1 g2 g3
        refine ⟨fun z hz => ?_, ?_⟩
        · have hld := hJ4.ld n hnN
          have hm0 : ∀ i, 0 ≤ loadN d.tasks (n : Int) (d.streams.take i) := fun i => sumI_nonneg fun s hs => HOk.out.loadOf0 (n : Int) s (List.mem_of_mem_take hs)
          unfold payTo at hz
          obtain ⟨i, hi, hz⟩ := List.mem_flatMap.1 hz
          have hi := List.mem_range.1 hi
          have h1 : loadN d.tasks (n : Int) (d.streams.take i) ≤ loadN d.tasks (n : Int) (d.streams.take k) := sum_mono (HOk.out.loadOf0 (n : Int)) (by omega)
          have h2 := hm0 i
          have h3 := (HOk.out.sm _ (getD_mem (l := d.streams) (k := i) (d := default) (by have := HK.out; omega))).2.2.1
          unfold payOf at hz
          split at hz
          · rw [List.mem_singleton.1 hz]
            unfold I64
            dsimp only
            omega
          · cases hz
        · rw [g1]
          rcases f4 with f4 | ⟨b, off, e, hlt, hp⟩
          · exact .inl f4
          · exact .inr ⟨b, off, e, hlt, fun i hi => ⟨hp i hi 0 (by omega), hp i hi 1 (by omega)⟩⟩
      have hLp := payTo_len d.tasks d.streams (n : Int) k
      have hFv := pay_first HOk.out (n : Int) (k := k) (Nat.le_of_lt HK.out) (z := 1 + s.size) (by omega) (by omega) (hJ4.ld n hnN)
      obtain ⟨L0, hL0⟩ : ∃ L0, L0 = loadN d.tasks (n : Int) (d.streams.take k) := ⟨_, rfl⟩
      have HL0 := hide hL0
      rw [← hL0] at hFv
      obtain ⟨at0, ft, hat⟩ : ∃ (at0 : Int) (ft : Bool), firstV (payTo d.tasks d.streams (n : Int) k) (1 + s.size) 1 64 = .tuple #[.int .i64 at0, .bool ft] ∧ ((ft = true ∧ at0 = L0 ∧ L0 + (1 + s.size) ≤ 64) ∨ (ft = false ∧ 64 < L0 + (1 + s.size))) := by
        rw [hFv]
        by_cases h6 : L0 + (1 + s.size) ≤ 64
        · exact ⟨L0, true, by rw [if_pos h6], .inl ⟨rfl, rfl, h6⟩⟩
        · exact ⟨-1, false, by rw [if_neg h6], .inr ⟨rfl, by omega⟩⟩
      obtain ⟨hfv, hcase⟩ := hat
      have HCase := hide hcase
      have HTak := hide (fun W => taken_at s As cs W hS2.1 hS2.2)
      unfold Sm.v at HTak
      rw [← HM.out] at HTak
      have HFst := hide (fun W (hb : Below W4.heap.size W4 W) => First_at (payTo d.tasks d.streams (n : Int) k) Ap cp (1 + s.size) 1 64 W (hSp.of_below hb (Nat.le_refl _)) (by have := HOk.out.sl; have := HK.out; omega))
      rw [hfv] at HFst
      obtain ⟨Lp, hLpe⟩ : ∃ Lp, Lp = (payTo d.tasks d.streams (n : Int) k).length := ⟨_, rfl⟩
      have HLp := hide hLpe
      rw [← hLpe] at HFst hown q0 hLp hvs
      have hown' := hown
      obtain ⟨_, s0, s1, s2, s3, s4, s5⟩ := SmB.of (s := s) (A := As) (c := cs) (by rw [← HM.out]; exact hbs4)
      rw [← HM.out] at s1
      have HOw := hide hown
      have HPw := hide hpw
      have HVs := hide hvs
      have HQf := hide qf
      have kq : W4.drew.cell? ⟨w.heap.size + 6, n, none⟩ = some (.slice Ap Lp cp) := q0
      have r0 : W4.drew.cell? ⟨bs, 0, none⟩ = some (.int .i64 s.src) := s0
      have r1 : W4.drew.cell? ⟨bs, 1, none⟩ = some (.slice As m cs) := s1
      have r2 : W4.drew.cell? ⟨bs, 2, none⟩ = some (.int .i64 s.kind) := s2
      have r3 : W4.drew.cell? ⟨bs, 3, none⟩ = some (.int .i64 s.size) := s3
      have r4 : W4.drew.cell? ⟨bs, 4, none⟩ = some (.int .i64 s.depth) := s4
      have r5 : W4.drew.cell? ⟨bs, 5, none⟩ = some (.int .i64 s.fresh) := s5
      clear hcase hFv hown hown' hpw hvs qf q0 s0 s1 s2 s3 s4 s5 hLpe hL0 hSp hfv
      gi_wp2
      refine wpIn_vals [.pointer (some ⟨w.heap.size + 6, n, none⟩), .pointer (some ⟨w.heap.size + 6, n, none⟩), .slice Ap Lp cp, .agg #[.int .i64 s.src, .slice As m cs, .int .i64 s.kind, .int .i64 s.size, .int .i64 s.depth, .int .i64 s.fresh], .int .i64 (1 + s.size), .tuple #[.int .i64 at0, .bool ft], .tuple #[.int .i64 at0, .bool ft], .int .i64 at0, .bool ft, .int .i64 at0, .bool ft] rfl (by kernel_rfl) (by kernel_rfl) (by decide) ?r8_steps ?r8_fin
      case r8_steps =>
        refine AllFrom.cons (i := 0) (step_isIn (by kernel_rfl) (fun _ _ => rfl) (fun _ => rfl) ?r8_0) (AllFrom.cons (i := 1) (step_isIn (by kernel_rfl) (fun _ _ => rfl) (fun _ => rfl) ?r8_1) (AllFrom.cons (i := 2) (step_isIn (by kernel_rfl) (fun _ _ => rfl) (fun _ => rfl) ?r8_2) (AllFrom.cons (i := 3) (step_isIn (by kernel_rfl) (fun _ _ => rfl) (fun _ => rfl) ?r8_3) (AllFrom.cons (i := 4) (step_fnIn (by kernel_rfl) _ _ _ rfl (fun _ => rfl) (enters_of Tryd.func17 (by kernel_rfl) rfl) ?r8_4) (AllFrom.cons (i := 5) (step_fnIn (by kernel_rfl) _ _ _ rfl (fun _ => rfl) (enters_of Tryd.func24 (by kernel_rfl) rfl) ?r8_5) (AllFrom.cons (i := 6) (step_isIn (by kernel_rfl) (fun _ _ => rfl) (fun _ => rfl) ?r8_6) (AllFrom.cons (i := 7) (step_isIn (by kernel_rfl) (fun _ _ => rfl) (fun _ => rfl) ?r8_7) (AllFrom.cons (i := 8) (step_isIn (by kernel_rfl) (fun _ _ => rfl) (fun _ => rfl) ?r8_8) (AllFrom.cons (i := 9) (step_isIn (by kernel_rfl) (fun _ _ => rfl) (fun _ => rfl) ?r8_9) (AllFrom.cons (i := 10) (step_isIn (by kernel_rfl) (fun _ _ => rfl) (fun _ => rfl) ?r8_10) (trivial)))))))))))
        case r8_0 =>
          intro L' vals W2 ρ hI hi hdep hnew hold hc
          have e0 : ρ (.tmp 10) = .pointer (some ⟨w.heap.size + 6, n, none⟩) := (hold 10 (by kernel_rfl)).trans (by kernel_rfl)
          refine ⟨.pointer (some ⟨w.heap.size + 6, n, none⟩), ?_, vF_upd rfl⟩
          simp [execOp, go_sem, e0]
        case r8_1 =>
          intro L' vals W2 ρ hI hi hdep hnew hold hc
          have e0 : ρ (.tmp 30) = .pointer (some ⟨w.heap.size + 6, n, none⟩) := (hnew 0 30 (dep hdep 0 (by kernel_rfl)) (by kernel_rfl) (of_decide_eq_true (by kernel_rfl)) (of_decide_eq_true (by kernel_rfl))).trans (vals_at hI (by decide) (dep hdep 0 (by kernel_rfl)) rfl)
          refine ⟨.pointer (some ⟨w.heap.size + 6, n, none⟩), ?_, vF_upd rfl⟩
          simp [execOp, go_sem, e0]
        case r8_2 =>
          intro L' vals W2 ρ hI hi hdep hnew hold hc
          have e0 : ρ (.tmp 31) = .pointer (some ⟨w.heap.size + 6, n, none⟩) := (hnew 1 31 (dep hdep 1 (by kernel_rfl)) (by kernel_rfl) (of_decide_eq_true (by kernel_rfl)) (of_decide_eq_true (by kernel_rfl))).trans (vals_at hI (by decide) (dep hdep 1 (by kernel_rfl)) rfl)
          have p1 := (bcl hI.com (by omega)).trans kq
          refine ⟨.slice Ap Lp cp, ?_, vF_upd rfl⟩
          simp [execOp, go_sem, e0, p1]
        case r8_3 =>
          intro L' vals W2 ρ hI hi hdep hnew hold hc
          have e0 : ρ (.tmp 8) = .pointer (some ⟨bs, 0, none⟩) := (hold 8 (by kernel_rfl)).trans (by kernel_rfl)
          have p1 := (bcl hI.com (by omega)).trans r0
          have p2 := (bcl hI.com (by omega)).trans r1
          have p3 := (bcl hI.com (by omega)).trans r2
          have p4 := (bcl hI.com (by omega)).trans r3
          have p5 := (bcl hI.com (by omega)).trans r4
          have p6 := (bcl hI.com (by omega)).trans r5
          refine ⟨.agg #[.int .i64 s.src, .slice As m cs, .int .i64 s.kind, .int .i64 s.size, .int .i64 s.depth, .int .i64 s.fresh], ?_, vF_upd rfl⟩
          simp [execOp, go_sem, e0, p1, p2, p3, p4, p5, p6]
        case r8_4 =>
          intro L' vals W2 ρ hI hi hdep hnew hold hc
          have e0 : ρ (.tmp 33) = .agg #[.int .i64 s.src, .slice As m cs, .int .i64 s.kind, .int .i64 s.size, .int .i64 s.depth, .int .i64 s.fresh] := (hnew 3 33 (dep hdep 3 (by kernel_rfl)) (by kernel_rfl) (of_decide_eq_true (by kernel_rfl)) (of_decide_eq_true (by kernel_rfl))).trans (vals_at hI (by decide) (dep hdep 3 (by kernel_rfl)) rfl)
          refine ⟨_, by simp [e0], (HTak.out W2).mono ?_⟩
          rintro e W' ⟨rfl, hb'⟩
          exact ⟨_, rfl, hI.com.trans (hb'.mono hI.com.size), vF_upd rfl, fun j hji hTj hd hT => hI.fact j hd hT⟩
        case r8_5 =>
          intro L' vals W2 ρ hI hi hdep hnew hold hc
          have e0 : ρ (.tmp 32) = .slice Ap Lp cp := (hnew 2 32 (dep hdep 2 (by kernel_rfl)) (by kernel_rfl) (of_decide_eq_true (by kernel_rfl)) (of_decide_eq_true (by kernel_rfl))).trans (vals_at hI (by decide) (dep hdep 2 (by kernel_rfl)) rfl)
          have e1 : ρ (.tmp 34) = .int .i64 (1 + s.size) := (hnew 4 34 (dep hdep 4 (by kernel_rfl)) (by kernel_rfl) (of_decide_eq_true (by kernel_rfl)) (of_decide_eq_true (by kernel_rfl))).trans (vals_at hI (by decide) (dep hdep 4 (by kernel_rfl)) rfl)
          have e9 := hc
          refine ⟨#[.slice Ap Lp cp, .int .i64 (1 + s.size), .int .i64 1, .int .i64 64], by simp [e0, e1, hc], (HFst.out W2 ((below_drewN (Below.refl _ _) 1 : Below _ W4 W4.drew).trans hI.com)).mono ?_⟩
          rintro e W' ⟨rfl, hb'⟩
          exact ⟨_, rfl, hI.com.trans (hb'.mono hI.com.size), vF_upd rfl, fun j hji hTj hd hT => hI.fact j hd hT⟩
        case r8_6 =>
          intro L' vals W2 ρ hI hi hdep hnew hold hc
          have e0 : ρ (.tmp 35) = .tuple #[.int .i64 at0, .bool ft] := (hnew 5 35 (dep hdep 5 (by kernel_rfl)) (by kernel_rfl) (of_decide_eq_true (by kernel_rfl)) (of_decide_eq_true (by kernel_rfl))).trans (vals_at hI (by decide) (dep hdep 5 (by kernel_rfl)) rfl)
          refine ⟨.tuple #[.int .i64 at0, .bool ft], ?_, vF_upd rfl⟩
          simp [execOp, go_sem, e0]
        case r8_7 =>
          intro L' vals W2 ρ hI hi hdep hnew hold hc
          have e0 : ρ (.tmp 29) = .tuple #[.int .i64 at0, .bool ft] := (hnew 6 29 (dep hdep 6 (by kernel_rfl)) (by kernel_rfl) (of_decide_eq_true (by kernel_rfl)) (of_decide_eq_true (by kernel_rfl))).trans (vals_at hI (by decide) (dep hdep 6 (by kernel_rfl)) rfl)
          refine ⟨.int .i64 at0, ?_, vF_upd rfl⟩
          simp [execOp, go_sem, e0]
        case r8_8 =>
          intro L' vals W2 ρ hI hi hdep hnew hold hc
          have e0 : ρ (.tmp 29) = .tuple #[.int .i64 at0, .bool ft] := (hnew 6 29 (dep hdep 6 (by kernel_rfl)) (by kernel_rfl) (of_decide_eq_true (by kernel_rfl)) (of_decide_eq_true (by kernel_rfl))).trans (vals_at hI (by decide) (dep hdep 6 (by kernel_rfl)) rfl)
          refine ⟨.bool ft, ?_, vF_upd rfl⟩
          simp [execOp, go_sem, e0]
        case r8_9 =>
          intro L' vals W2 ρ hI hi hdep hnew hold hc
          have e0 : ρ (.tmp 36) = .int .i64 at0 := (hnew 7 36 (dep hdep 7 (by kernel_rfl)) (by kernel_rfl) (of_decide_eq_true (by kernel_rfl)) (of_decide_eq_true (by kernel_rfl))).trans (vals_at hI (by decide) (dep hdep 7 (by kernel_rfl)) rfl)
          refine ⟨.int .i64 at0, ?_, vF_upd rfl⟩
          simp [execOp, go_sem, e0]
        case r8_10 =>
          intro L' vals W2 ρ hI hi hdep hnew hold hc
          have e0 : ρ (.tmp 37) = .bool ft := (hnew 8 37 (dep hdep 8 (by kernel_rfl)) (by kernel_rfl) (of_decide_eq_true (by kernel_rfl)) (of_decide_eq_true (by kernel_rfl))).trans (vals_at hI (by decide) (dep hdep 8 (by kernel_rfl)) rfl)
          refine ⟨.bool ft, ?_, vF_upd rfl⟩
          simp [execOp, go_sem, e0]
      case r8_fin =>
        intro vals Wf hCf hVf
        have v0 := hVf 0 _ rfl
        have v1 := hVf 1 _ rfl
        have v2 := hVf 2 _ rfl
        have v3 := hVf 3 _ rfl
        have v4 := hVf 4 _ rfl
        have v5 := hVf 5 _ rfl
        have v6 := hVf 6 _ rfl
        have v7 := hVf 7 _ rfl
        have v8 := hVf 8 _ rfl
        have v9 := hVf 9 _ rfl
        have v10 := hVf 10 _ rfl
        simp [canon, dstOf, Act.put, v0, v1, v2, v3, v4, v5, v6, v7, v8, v9, v10]
        clear v0 v1 v2 v3 v4 v5 v6 v7 v8 v9 v10 hVf
        have hb45 : Below W4.heap.size W4 Wf := (below_drewN (Below.refl _ _) 1 : Below _ W4 W4.drew).trans hCf
        have hJ5 := hJ4.below hb45
        have hbs5 := (hb45.block bs (by omega)).trans hbs4
        have hbl5 := (hb45.block (bs + 1) (by omega)).trans hbl4
        have hA5 := own_below hA4 hb45 (Nat.le_refl _)
        have HOw5 := hide (own_below HOw.out hb45 (Nat.le_refl _))
        have HPw5 := hide (HPw.out.below hb45)
        have hs5 := hb45.size
        have kq5 : Wf.cell? ⟨w.heap.size + 6, n, none⟩ = some (.slice Ap Lp cp) := (bcl hb45 (by omega)).trans kq
        clear kq r0 r1 r2 r3 r4 r5 hCf hJ4 hbs4 hbl4 hA4 HOw HPw hb45 HFst HQf
        generalize Wf = W5 at *
        rcases HCase.out with ⟨rfl, rfl, h64⟩ | ⟨rfl, h64⟩
        · have H64 := hide h64
          have hL00 : 0 ≤ at0 := by rw [HL0.out]; exact sumI_nonneg fun s hs => HOk.out.loadOf0 (n : Int) s (List.mem_of_mem_take hs)
          have hwr : IntKind.i64.wrap (at0 + (1 + s.size)) = at0 + (1 + s.size) := by rw [IntKind.wrap_i64]; omega
          have HLp100 : Lp ≤ 1000 := by have := HOk.out.sl; have := HK.out; omega
          clear HCase
          generalize hl0 : at0 = L0 at *
          gi_wp2
          refine wpIn_region_facts (p1C bs (sC s.src As m cs s.kind s.size s.depth s.fresh) (w.heap.size + 11)) (p1F W5 (.pointer (some ⟨w.heap.size + 6, n, none⟩)) (.slice Ap Lp cp) (sC s.src As m cs s.kind s.size s.depth s.fresh) (w.heap.size + 6) (w.heap.size + 8) L0 (1 + s.size) Lp ((payTo d.tasks d.streams (n : Int) k).flatMap spC)) p1T p1M (fun j hj => if_pos hj) p1_mb p1_sup (by kernel_rfl) (by kernel_rfl) ⟨hbs5, by show w.heap.size + 11 ≤ W5.heap.size; omega⟩ ?p1ini ?p1steps ?p1fin
          case p1ini =>
            intro j hj
            have hj' : 14 ≤ j := hj
            match j, hj' with
            | 14, _ => exact below_drewN (Below.refl _ _) 1
            | 15, _ => rfl
            | n + 16, _ => trivial
          case p1steps =>
            refine AllFrom.cons (i := 0) (step_isIn (by kernel_rfl) (fun _ _ => rfl) (fun _ => rfl) ?p1_0) (AllFrom.cons (i := 1) (step_isIn (by kernel_rfl) (fun _ _ => rfl) (fun _ => rfl) ?p1_1) (AllFrom.cons (i := 2) (step_isIn (by kernel_rfl) (fun _ _ => rfl) (fun _ => rfl) ?p1_2) (AllFrom.cons (i := 3) (step_isIn (by kernel_rfl) (fun _ _ => rfl) (fun _ => rfl) ?p1_3) (AllFrom.cons (i := 4) (step_isIn (by kernel_rfl) (fun _ _ => rfl) (fun _ => rfl) ?p1_4) (AllFrom.cons (i := 5) (step_isIn (by kernel_rfl) (fun _ _ => rfl) (fun _ => rfl) ?p1_5) (AllFrom.cons (i := 6) (step_isIn (by kernel_rfl) (fun _ _ => rfl) (fun _ => rfl) ?p1_6) (AllFrom.cons (i := 7) (step_fnIn (by kernel_rfl) _ _ _ rfl (fun _ => rfl) (enters_of Tryd.func17 (by kernel_rfl) rfl) ?p1_7) (AllFrom.cons (i := 8) (step_isIn (by kernel_rfl) (fun _ _ => rfl) (fun _ => rfl) ?p1_8) (AllFrom.cons (i := 9) (step_isIn (by kernel_rfl) (fun _ _ => rfl) (fun _ => rfl) ?p1_9) (AllFrom.cons (i := 10) (step_runIn (by kernel_rfl) (fun _ _ => rfl) (fun _ => rfl) ?p1_10) (AllFrom.cons (i := 11) (step_runIn (by kernel_rfl) (fun _ _ => rfl) (fun _ => rfl) ?p1_11) (AllFrom.cons (i := 12) (step_isIn (by kernel_rfl) (fun _ _ => rfl) (fun _ => rfl) ?p1_12) (AllFrom.cons (i := 13) (step_runIn (by kernel_rfl) (fun _ _ => rfl) (fun _ => rfl) ?p1_13) (trivial))))))))))))))
            case p1_0 =>
              intro L' vals W2 ρ hI hi hdep hnew hold hc
              have e0 : ρ (.tmp 10) = .pointer (some ⟨w.heap.size + 6, n, none⟩) := (hold 10 (by kernel_rfl)).trans (by kernel_rfl)
              refine ⟨.pointer (some ⟨w.heap.size + 6, n, none⟩), ?_, by simp [p1F, upd]⟩
              simp [execOp, go_sem, e0]
            case p1_1 =>
              intro L' vals W2 ρ hI hi hdep hnew hold hc
              have e0 : ρ (.tmp 10) = .pointer (some ⟨w.heap.size + 6, n, none⟩) := (hold 10 (by kernel_rfl)).trans (by kernel_rfl)
              refine ⟨.pointer (some ⟨w.heap.size + 6, n, none⟩), ?_, by simp [p1F, upd]⟩
              simp [execOp, go_sem, e0]
            case p1_2 =>
              intro L' vals W2 ρ hI hi hdep hnew hold hc
              have e0 : ρ (.tmp 41) = .pointer (some ⟨w.heap.size + 6, n, none⟩) := (hnew 1 41 (dep hdep 1 (by kernel_rfl)) (by kernel_rfl) (of_decide_eq_true (by kernel_rfl)) (of_decide_eq_true (by kernel_rfl))).trans (hI.fact 1 (.inr (dep hdep 1 (by kernel_rfl))) (neverW hI (of_decide_eq_true (by kernel_rfl))))
              refine ⟨.pointer (some ⟨w.heap.size + 6, n, none⟩), ?_, by simp [p1F, upd]⟩
              simp [execOp, go_sem, e0]
            case p1_3 =>
              intro L' vals W2 ρ hI hi hdep hnew hold hc
              have e0 : ρ (.tmp 42) = .pointer (some ⟨w.heap.size + 6, n, none⟩) := (hnew 2 42 (dep hdep 2 (by kernel_rfl)) (by kernel_rfl) (of_decide_eq_true (by kernel_rfl)) (of_decide_eq_true (by kernel_rfl))).trans (hI.fact 2 (.inr (dep hdep 2 (by kernel_rfl))) (neverW hI (of_decide_eq_true (by kernel_rfl))))
              have h11 := hI.ahead hi 11 (by kernel_rfl)
              have h13 := hI.ahead h11 13 (by kernel_rfl)
              have p0 : W2.cell? ⟨w.heap.size + 6, n, none⟩ = some (.slice Ap Lp cp) := (cell_same (hI.fact 15 (.inl (of_decide_eq_true (by kernel_rfl))) h13) n).trans kq5
              refine ⟨.slice Ap Lp cp, ?_, by simp [p1F, upd]⟩
              simp [execOp, go_sem, e0, p0]
            case p1_4 =>
              intro L' vals W2 ρ hI hi hdep hnew hold hc
              have e0 : ρ (.tmp 11) = .int .i64 L0 := (hold 11 (by kernel_rfl)).trans (by kernel_rfl)
              refine ⟨.int .i64 L0, ?_, by simp [p1F, upd]⟩
              simp [execOp, go_sem, e0]
            case p1_5 =>
              intro L' vals W2 ρ hI hi hdep hnew hold hc
              have e0 : ρ (.tmp 11) = .int .i64 L0 := (hold 11 (by kernel_rfl)).trans (by kernel_rfl)
              refine ⟨.int .i64 L0, ?_, by simp [p1F, upd]⟩
              simp [execOp, go_sem, e0]
            case p1_6 =>
              intro L' vals W2 ρ hI hi hdep hnew hold hc
              have e0 : ρ (.tmp 8) = .pointer (some ⟨bs, 0, none⟩) := (hold 8 (by kernel_rfl)).trans (by kernel_rfl)
              have hrw : W2.heap[bs]? = some (.cells #[.int .i64 s.src, .slice As m cs, .int .i64 s.kind, .int .i64 s.size, .int .i64 s.depth, .int .i64 s.fresh] 53 (0, 0)) := hI.com.1
              have p0 : W2.cell? ⟨bs, 0, none⟩ = some (.int .i64 s.src) := by rw [cell_of_row _ _ _ _ _ _ hrw]; rfl
              have p1 : W2.cell? ⟨bs, 1, none⟩ = some (.slice As m cs) := by rw [cell_of_row _ _ _ _ _ _ hrw]; rfl
              have p2 : W2.cell? ⟨bs, 2, none⟩ = some (.int .i64 s.kind) := by rw [cell_of_row _ _ _ _ _ _ hrw]; rfl
              have p3 : W2.cell? ⟨bs, 3, none⟩ = some (.int .i64 s.size) := by rw [cell_of_row _ _ _ _ _ _ hrw]; rfl
              have p4 : W2.cell? ⟨bs, 4, none⟩ = some (.int .i64 s.depth) := by rw [cell_of_row _ _ _ _ _ _ hrw]; rfl
              have p5 : W2.cell? ⟨bs, 5, none⟩ = some (.int .i64 s.fresh) := by rw [cell_of_row _ _ _ _ _ _ hrw]; rfl
              refine ⟨.agg #[.int .i64 s.src, .slice As m cs, .int .i64 s.kind, .int .i64 s.size, .int .i64 s.depth, .int .i64 s.fresh], ?_, by simp [p1F, upd, sC]⟩
              simp [execOp, go_sem, e0, p0, p1, p2, p3, p4, p5]
            case p1_7 =>
              intro L' vals W2 ρ hI hi hdep hnew hold hc
              have e0 : ρ (.tmp 46) = .agg #[.int .i64 s.src, .slice As m cs, .int .i64 s.kind, .int .i64 s.size, .int .i64 s.depth, .int .i64 s.fresh] := (hnew 6 46 (dep hdep 6 (by kernel_rfl)) (by kernel_rfl) (of_decide_eq_true (by kernel_rfl)) (of_decide_eq_true (by kernel_rfl))).trans (hI.fact 6 (.inr (dep hdep 6 (by kernel_rfl))) (neverW hI (of_decide_eq_true (by kernel_rfl))))
              have h8 := hI.ahead hi 8 (by kernel_rfl)
              have h9 := hI.ahead h8 9 (by kernel_rfl)
              have h10 := hI.ahead h9 10 (by kernel_rfl)
              have h11 := hI.ahead h10 11 (by kernel_rfl)
              have h13 := hI.ahead h11 13 (by kernel_rfl)
              have hb2 := hI.fact 14 (.inl (of_decide_eq_true (by kernel_rfl))) hi
              have hb2 : Below W5.heap.size W5 W2 := hb2
              refine ⟨_, by simp [e0], (HTak.out W2).mono ?_⟩
              rintro e W' ⟨rfl, hb'⟩
              have hz2 := hb2.size
              refine ⟨_, rfl, ⟨(hb'.block bs (Nat.lt_of_lt_of_le (by omega) hz2)).trans hI.com.1, Nat.le_trans hI.com.2 hb'.size⟩, ⟨by simp [upd], hb2.trans (hb'.mono hb2.size)⟩, ?_⟩
              intro j hji hTj hd hT
              by_cases hj : j ≤ 6 ∨ j = 8 ∨ j = 9 ∨ j = 12 ∨ 16 ≤ j
              · exact p1_still hj (hI.fact j hd hT)
              · have : j = 7 ∨ j = 10 ∨ j = 11 ∨ j = 13 ∨ j = 14 ∨ j = 15 := by omega
                rcases this with rfl | rfl | rfl | rfl | rfl | rfl
                · exact absurd rfl hji
                · rcases hd with hd | hd
                  · exact absurd hd (of_decide_eq_false (by kernel_rfl))
                  · rw [h10] at hd; cases hd
                · rcases hd with hd | hd
                  · exact absurd hd (of_decide_eq_false (by kernel_rfl))
                  · rw [h11] at hd; cases hd
                · rcases hd with hd | hd
                  · exact absurd hd (of_decide_eq_false (by kernel_rfl))
                  · rw [h13] at hd; cases hd
                · exact absurd rfl hTj
                · have := hI.fact 15 hd hT
                  exact (hb'.block (w.heap.size + 6) (by omega)).trans this
            case p1_8 =>
              intro L' vals W2 ρ hI hi hdep hnew hold hc
              have e0 : ρ (.tmp 45) = .int .i64 L0 := (hnew 5 45 (dep hdep 5 (by kernel_rfl)) (by kernel_rfl) (of_decide_eq_true (by kernel_rfl)) (of_decide_eq_true (by kernel_rfl))).trans (hI.fact 5 (.inr (dep hdep 5 (by kernel_rfl))) (neverW hI (of_decide_eq_true (by kernel_rfl))))
              have h9 := hI.ahead hi 9 (by kernel_rfl)
              have h10 := hI.ahead h9 10 (by kernel_rfl)
              have h11 := hI.ahead h10 11 (by kernel_rfl)
              have h13 := hI.ahead h11 13 (by kernel_rfl)
              have hf7 := hI.fact 7 (.inr (dep hdep 7 (by kernel_rfl))) h10
              have e1 : ρ (.tmp 47) = .int .i64 (1 + s.size) := (hnew 7 47 (dep hdep 7 (by kernel_rfl)) (by kernel_rfl) (of_decide_eq_true (by kernel_rfl)) (of_decide_eq_true (by kernel_rfl))).trans hf7.1
              refine ⟨.int .i64 (L0 + (1 + s.size)), ?_, by simp [p1F, upd]⟩
              simp [execOp, go_sem, e0, e1, hwr]
            case p1_9 =>
              intro L' vals W2 ρ hI hi hdep hnew hold hc
              have e0 : ρ (.tmp 44) = .int .i64 L0 := (hnew 4 44 (dep hdep 4 (by kernel_rfl)) (by kernel_rfl) (of_decide_eq_true (by kernel_rfl)) (of_decide_eq_true (by kernel_rfl))).trans (hI.fact 4 (.inr (dep hdep 4 (by kernel_rfl))) (neverW hI (of_decide_eq_true (by kernel_rfl))))
              have e1 : ρ (.tmp 48) = .int .i64 (L0 + (1 + s.size)) := (hnew 8 48 (dep hdep 8 (by kernel_rfl)) (by kernel_rfl) (of_decide_eq_true (by kernel_rfl)) (of_decide_eq_true (by kernel_rfl))).trans (hI.fact 8 (.inr (dep hdep 8 (by kernel_rfl))) (neverW hI (of_decide_eq_true (by kernel_rfl))))
              refine ⟨.agg #[.int .i64 L0, .int .i64 (L0 + (1 + s.size))], ?_, by simp [p1F, upd]⟩
              simp [execOp, go_sem, e0, e1]
            case p1_10 =>
              intro L' vals W2 ρ hI hi hdep hnew hold hc
              have e0 : ρ (.tmp 49) = .agg #[.int .i64 L0, .int .i64 (L0 + (1 + s.size))] := (hnew 9 49 (dep hdep 9 (by kernel_rfl)) (by kernel_rfl) (of_decide_eq_true (by kernel_rfl)) (of_decide_eq_true (by kernel_rfl))).trans (hI.fact 9 (.inr (dep hdep 9 (by kernel_rfl))) (neverW hI (of_decide_eq_true (by kernel_rfl))))
              have h11 := hI.ahead hi 11 (by kernel_rfl)
              have h13 := hI.ahead h11 13 (by kernel_rfl)
              have hf7 := hI.fact 7 (.inr (by
                cases h7 : L'.getD 7 false with
                | true => rfl
                | false =>
                  have h8 := hI.ahead h7 8 (by kernel_rfl)
                  have h9 := hI.ahead h8 9 (by kernel_rfl)
                  rw [dep hdep 9 (by kernel_rfl)] at h9; cases h9)) hi
              have hb2 : Below W5.heap.size W5 W2 := hf7.2
              have hb3 := bal W2 (.cells #[.int .i64 L0, .int .i64 (L0 + (1 + s.size))] 78)
              have hz2 := hb2.size
              refine ⟨.slice (some ⟨W2.heap.size, 0, none⟩) 1 1, W2.alloc (.cells #[.int .i64 L0, .int .i64 (L0 + (1 + s.size))] 78), .inl ?_, ⟨(hb3.block bs (Nat.lt_of_lt_of_le (by omega) hz2)).trans hI.com.1, Nat.le_trans hI.com.2 hb3.size⟩, ⟨W2.heap.size, by simp [upd], heap_alloc_new W2 _, hb2.trans (hb3.mono hb2.size)⟩, ?_⟩
              · simp [execOp, go_sem, e0]
              · intro j hji hTj hd hT
                by_cases hj : j ≤ 6 ∨ j = 8 ∨ j = 9 ∨ j = 12 ∨ 16 ≤ j
                · exact p1_still hj (hI.fact j hd hT)
                · have : j = 7 ∨ j = 10 ∨ j = 11 ∨ j = 13 ∨ j = 14 ∨ j = 15 := by omega
                  rcases this with rfl | rfl | rfl | rfl | rfl | rfl
                  · exact absurd rfl hTj
                  · exact absurd rfl hji
                  · rcases hd with hd | hd
                    · exact absurd hd (of_decide_eq_false (by kernel_rfl))
                    · rw [h11] at hd; cases hd
                  · rcases hd with hd | hd
                    · exact absurd hd (of_decide_eq_false (by kernel_rfl))
                    · rw [h13] at hd; cases hd
                  · have h7 : L'.getD 7 false = true := by
                      cases h7 : L'.getD 7 false with
                      | true => rfl
                      | false =>
                        have h8 := hI.ahead h7 8 (by kernel_rfl)
                        have h9 := hI.ahead h8 9 (by kernel_rfl)
                        rw [dep hdep 9 (by kernel_rfl)] at h9; cases h9
                    rw [show p1T 14 = 7 from rfl, h7] at hT; cases hT
                  · have := hI.fact 15 hd hT
                    exact (hb3.block (w.heap.size + 6) (by omega)).trans this
            case p1_11 =>
              intro L' vals W2 ρ hI hi hdep hnew hold hc
              have e0 : ρ (.tmp 43) = .slice Ap Lp cp := (hnew 3 43 (dep hdep 3 (by kernel_rfl)) (by kernel_rfl) (of_decide_eq_true (by kernel_rfl)) (of_decide_eq_true (by kernel_rfl))).trans (hI.fact 3 (.inr (dep hdep 3 (by kernel_rfl))) (neverW hI (of_decide_eq_true (by kernel_rfl))))
              have h13 := hI.ahead hi 13 (by kernel_rfl)
              obtain ⟨q, hv10, hq, hb2⟩ := hI.fact 10 (.inr (dep hdep 10 (by kernel_rfl))) hi
              have e1 : ρ (.tmp 50) = .slice (some ⟨q, 0, none⟩) 1 1 := (hnew 10 50 (dep hdep 10 (by kernel_rfl)) (by kernel_rfl) (of_decide_eq_true (by kernel_rfl)) (of_decide_eq_true (by kernel_rfl))).trans hv10
              have hown2 := own_below HOw5.out hb2 (Nat.le_refl _)
              have hz2 := hb2.size
              obtain ⟨v', w', hr, r1, r2, r3⟩ := app_run W2 (w.heap.size + 8) 74 74 78 (.agg #[.int .i64 0, .int .i64 0]) 2 16 Tryd.underlying74 info_sp rfl (by decide) (by decide) _ Lp _ hown2 q 1 1 [.int .i64 L0, .int .i64 (L0 + (1 + s.size))] rfl (fun j y hy => by rw [cell_of_row _ _ _ _ _ _ hq]; simpa using hy) (by simp [Value.oneCell']) (by omega) (by omega)
              have hkeep : ∀ k, k < W2.heap.size → (Value.slice Ap Lp cp).ownBlock ≠ some k → w'.heap[k]? = W2.heap[k]? := fun k h1 h2 => r2.block k h1 fun e => h2 e.symm
              refine ⟨v', w', .inl ?_, ⟨(hkeep bs (Nat.lt_of_lt_of_le (by omega) hz2) fun e => by have := (own_block HOw5.out e).2.2; obtain ⟨cur, hc⟩ := this; rw [hbs5] at hc; cases hc).trans hI.com.1, Nat.le_trans hI.com.2 r2.size⟩, ⟨W2, hb2, r2, by simpa [upd] using r1, by simpa [upd] using r3⟩, ?_⟩
              · simp [execOp, e0, e1, resolve, invoke, builtin, hr, Result.andThen]
              · intro j hji hTj hd hT
                by_cases hj : j ≤ 6 ∨ j = 8 ∨ j = 9 ∨ j = 12 ∨ 16 ≤ j
                · exact p1_still hj (hI.fact j hd hT)
                · have : j = 7 ∨ j = 10 ∨ j = 11 ∨ j = 13 ∨ j = 14 ∨ j = 15 := by omega
                  rcases this with rfl | rfl | rfl | rfl | rfl | rfl
                  · have h10' := dep hdep 10 (by kernel_rfl)
                    rw [show p1T 7 = 10 from rfl, h10'] at hT; cases hT
                  · exact absurd rfl hTj
                  · exact absurd rfl hji
                  · rcases hd with hd | hd
                    · exact absurd hd (of_decide_eq_false (by kernel_rfl))
                    · rw [h13] at hd; cases hd
                  · have h7 : L'.getD 7 false = true := by
                      cases h7 : L'.getD 7 false with
                      | true => rfl
                      | false =>
                        have h8 := hI.ahead h7 8 (by kernel_rfl)
                        have h9 := hI.ahead h8 9 (by kernel_rfl)
                        have h10 := hI.ahead h9 10 (by kernel_rfl)
                        rw [dep hdep 10 (by kernel_rfl)] at h10; cases h10
                    rw [show p1T 14 = 7 from rfl, h7] at hT; cases hT
                  · have := hI.fact 15 hd hT
                    exact (hkeep (w.heap.size + 6) (by omega) fun e => by have := (own_block HOw5.out e).2.1; omega).trans this
            case p1_12 =>
              intro L' vals W2 ρ hI hi hdep hnew hold hc
              have e0 : ρ (.tmp 40) = .pointer (some ⟨w.heap.size + 6, n, none⟩) := (hnew 0 40 (dep hdep 0 (by kernel_rfl)) (by kernel_rfl) (of_decide_eq_true (by kernel_rfl)) (of_decide_eq_true (by kernel_rfl))).trans (hI.fact 0 (.inr (dep hdep 0 (by kernel_rfl))) (neverW hI (of_decide_eq_true (by kernel_rfl))))
              refine ⟨.pointer (some ⟨w.heap.size + 6, n, none⟩), ?_, by simp [p1F, upd]⟩
              simp [execOp, go_sem, e0]
            case p1_13 =>
              intro L' vals W2 ρ hI hi hdep hnew hold hc
              have e0 : ρ (.tmp 52) = .pointer (some ⟨w.heap.size + 6, n, none⟩) := (hnew 12 52 (dep hdep 12 (by kernel_rfl)) (by kernel_rfl) (of_decide_eq_true (by kernel_rfl)) (of_decide_eq_true (by kernel_rfl))).trans (hI.fact 12 (.inr (dep hdep 12 (by kernel_rfl))) (neverW hI (of_decide_eq_true (by kernel_rfl))))
              have hA11 := hI.fact 11 (.inr (dep hdep 11 (by kernel_rfl))) hi
              have e1 : ρ (.tmp 51) = vals 11 := (hnew 11 51 (dep hdep 11 (by kernel_rfl)) (by kernel_rfl) (of_decide_eq_true (by kernel_rfl)) (of_decide_eq_true (by kernel_rfl)))
              obtain ⟨W0', hA1, hA2, hA3, hA4⟩ := hA11
              obtain ⟨A4, c4, hv4⟩ := own_slice hA3
              rw [hv4] at e1 hA3 hA4
              have h15 : W2.heap[w.heap.size + 6]? = W5.heap[w.heap.size + 6]? := hI.fact 15 (.inl (of_decide_eq_true (by kernel_rfl))) hi
              have p0 : W2.cell? ⟨w.heap.size + 6, n, none⟩ = some (.slice Ap Lp cp) := (cell_same h15 n).trans kq5
              have f0 : W2.frozen? ⟨w.heap.size + 6, n, none⟩ = false := by simp [World.frozen?, h15, HPw5.out.blk]
              refine ⟨undef, W2.setCell ⟨w.heap.size + 6, n, none⟩ (.slice A4 (Lp + 1) c4), .inr ⟨rfl, ?_⟩, ⟨(setCell_other (by omega)).trans hI.com.1, by simp; exact hI.com.2⟩, ⟨.slice A4 (Lp + 1) c4, W2, ⟨W0', hA1, hA2, hA3, hA4⟩, n, rfl, rfl⟩, ?_⟩
              · simp [execOp, e0, e1, go_sem, p0, f0]
              · intro j hji hTj hd hT
                by_cases hj : j ≤ 6 ∨ j = 8 ∨ j = 9 ∨ j = 12 ∨ 16 ≤ j
                · exact p1_still hj (hI.fact j hd hT)
                · have : j = 7 ∨ j = 10 ∨ j = 11 ∨ j = 13 ∨ j = 14 ∨ j = 15 := by omega
                  rcases this with rfl | rfl | rfl | rfl | rfl | rfl
                  · have h10' : L'.getD 10 false = true := by
                      cases h10 : L'.getD 10 false with
                      | true => rfl
                      | false =>
                        have h11 := hI.ahead h10 11 (by kernel_rfl)
                        rw [dep hdep 11 (by kernel_rfl)] at h11; cases h11
                    rw [show p1T 7 = 10 from rfl, h10'] at hT; cases hT
                  · have h11' := dep hdep 11 (by kernel_rfl)
                    rw [show p1T 10 = 11 from rfl, h11'] at hT; cases hT
                  · exact absurd rfl hTj
                  · exact absurd rfl hji
                  · have h7 : L'.getD 7 false = true := by
                      cases h7 : L'.getD 7 false with
                      | true => rfl
                      | false =>
                        have h8 := hI.ahead h7 8 (by kernel_rfl)
                        have h9 := hI.ahead h8 9 (by kernel_rfl)
                        have h10 := hI.ahead h9 10 (by kernel_rfl)
                        have h11 := hI.ahead h10 11 (by kernel_rfl)
                        rw [dep hdep 11 (by kernel_rfl)] at h11; cases h11
                    rw [show p1T 14 = 7 from rfl, h7] at hT; cases hT
                  · exact absurd rfl hTj
          case p1fin =>
            intro vals W6 hC6 hF6
            have hf13 := hF6 13 (of_decide_eq_true (by kernel_rfl)) (of_decide_eq_true (by kernel_rfl))
            obtain ⟨v, W61, ⟨W60, hA1, hA2, hA3, hA4⟩, n', hP', hW6⟩ := hf13
            have hnn : n' = n := by cases hP'; rfl
            subst hnn
            have hs61 : W5.heap.size ≤ W61.heap.size := Nat.le_trans hA1.size hA2.size
            have hs6 : W6.heap.size = W61.heap.size := by rw [hW6]; simp
            have hbel6 : Below w.heap.size w W6 := by
              rw [hW6]
              exact (below_own (hJ5.bel.trans (hA1.mono hJ5.bel.size)) (own_below HOw5.out hA1 (Nat.le_refl _)) hA2 (by omega) (by have := hA1.size; omega)).setCell (p := ⟨w.heap.size + 6, n', none⟩) (by show w.heap.size ≤ w.heap.size + 6; omega) v
            have hk6 : ∀ j o, j < W5.heap.size → W5.heap[j]? = some o → (∀ cs, o ≠ .cells cs 78 (0, 0)) → j ≠ w.heap.size + 6 → W6.heap[j]? = some o := fun j o hj ho hne hj6 => by
              rw [hW6, setCell_other hj6, hA2.block j (Nat.lt_of_lt_of_le hj hA1.size) (fun e => ?_), hA1.block j hj, ho]
              obtain ⟨_, _, cur, hc⟩ := own_block HOw5.out e.symm
              rw [ho] at hc
              exact hne cur (Option.some.inj hc)
            have hpw6 : ∃ vs, RwS spC 78 74 2 W6 (w.heap.size + 8) (w.heap.size + 6) vs (payRows N d.tasks d.streams (k + 1)) := by
              refine ⟨vs.set n' v, ?_⟩
              rw [hW6, ← payRows_next hnN (by rw [HSd.out]; exact HNd.out), HSd.out]
              refine (HPw5.out.below hA1).put hil _ ?_ (by rw [HVs.out]; exact hA2) fun g e => ?_
              · rw [List.length_append, ← HLp.out, List.flatMap_append, ← HL0.out]
                exact hA3
              · rw [HVs.out]
                rcases hA4 with hA4 | hA4
                · exact .inl (hA4.symm.trans e)
                · rw [hA4] at e; cases e; exact .inr (Nat.le_refl _)
            have hld6 : ∀ j : Nat, j < N → loadN d.tasks (j : Int) (d.streams.take (k + 1)) ≤ 64 := fun j hj => by
              rw [load_next HK.out, HSd.out]
              unfold loadOf
              by_cases e : n' = j
              · subst e
                rw [if_pos HNd.out, ← HL0.out]; exact H64.out
              · rw [if_neg (by rw [HNd.out]; omega), Int.add_zero]; exact hJ5.ld j hj
            have hJ6 := hJ5.newW (kw' := k + 1) hbel6 (by omega) hk6 hpw6 hld6
            have hbs6 : W6.heap[bs]? = _ := hC6.1
            have hbl6 := hk6 (bs + 1) _ (by omega) hbl5 (fun _ => ty_ne (by decide)) (by omega)
            have hA6 := own_stands (W' := W6) hA5 fun j hj => by
              obtain ⟨h1, _, cur, hc⟩ := own_block hA5 hj
              rw [hc]
              refine hk6 j _ h1 hc (fun _ => ty_ne (by decide)) fun e => ?_
              subst e
              rw [HPw5.out.blk] at hc
              exact absurd (Option.some.inj hc) (ty_ne (by decide))
            have HLo := hide (show ∀ g, (Value.slice Al k cl).ownBlock = some g → g < bs from fun g hg => by
              have := (own_block HJ.out.li.2 hg).1
              rw [HBs.out]; exact this)
            have hs6' : W5.heap.size ≤ W6.heap.size := by omega
            clear hF6 hA1 hA2 hA3 hA4 hP' hW6 hs61 hs6 hbel6 hk6 hpw6 hld6 hC6 hJ5 hbs5 hbl5 hA5 kq5 HPw5 HOw5 hil
            simp [canon, dstOf, Act.put]
            have l2 : W6.cell? ⟨bs + 1, 2, none⟩ = some (.int .i64 0) := by rw [cell_of_row _ _ _ _ _ _ hbl6]; rfl
            have lf : W6.frozen? ⟨bs + 1, 2, none⟩ = false := by simp [World.frozen?, hbl6]
            have lz : bs + 1 < W6.heap.size := by omega
            have HJ6 := hide hJ6
            have HBs6 := hide hbs6
            have HBl6 := hide hbl6
            have HA6 := hide hA6
            clear hJ6 hbs6 hbl6 hA6
            gi_wp2
            clear l2 lf
            have hJ7 := HJ6.out.boxw (x := bs + 1) (o := 2) (v := .int .i64 L0) (by omega) (fun g hg => by have := HLo.out g hg; omega) HBl6.out
            have hbs7 := (setCell_other (W := W6) (g := bs + 1) (k := bs) (j := 2) (v := .int .i64 L0) (by omega)).trans HBs6.out
            have hbl7 : (W6.setCell ⟨bs + 1, 2, none⟩ (.int .i64 L0)).heap[bs + 1]? = some (.cells #[.int .i64 (p : Nat), .slice A m c, .int .i64 L0] 51 (0, 0)) := by rw [set_cells HBl6.out]; rfl
            have hA7 := own_stands (W' := W6.setCell ⟨bs + 1, 2, none⟩ (.int .i64 L0)) HA6.out fun j hj => setCell_other fun e => by
              obtain ⟨_, _, cur, hc⟩ := own_block HA6.out hj
              rw [e, HBl6.out] at hc
              exact absurd (Option.some.inj hc) (ty_ne (by decide))
            have hs7 : bs + 2 ≤ (W6.setCell ⟨bs + 1, 2, none⟩ (.int .i64 L0)).heap.size := by simp; omega
            generalize W6.setCell ⟨bs + 1, 2, none⟩ (.int .i64 L0) = W7 at *
            obtain ⟨Apo, cpo, hph7, hop7⟩ := hJ7.po
            rw [← HP.out] at hph7 hop7
            have HOp7 := hide hop7
            have kp7 : W7.cell? ⟨w.heap.size + 4, 0, none⟩ = some (.slice Apo p cpo) := by rw [cell_of_row _ _ _ _ _ _ hph7]; rfl
            have HPo := hide (fun W (hb : Below w.heap.size w W) => portsOf_at s As cs W (HAs.out.of_below hb (Nat.le_refl _)) (by rw [← HM.out]; omega))
            unfold Sm.v at HPo
            rw [← HM.out, portsOf_len, ← HM.out] at HPo
            clear hop7 lz HJ6 HBs6 HBl6 HA6
            refine wpIn_region_facts (p1C bs (sC s.src As m cs s.kind s.size s.depth s.fresh) (w.heap.size + 11)) (p2F W7 (.slice Apo p cpo) (sC s.src As m cs s.kind s.size s.depth s.fresh) (w.heap.size + 4) (w.heap.size + 8) p (1 + m) ((portsAll (d.streams.take k)).flatMap poC) ((portsOf s).flatMap poC)) p2T p2M (fun j hj => if_pos hj) p2_mb p2_sup (by kernel_rfl) (by kernel_rfl) ⟨hbs7, by show w.heap.size + 11 ≤ W7.heap.size; omega⟩ ?p2ini ?p2steps ?p2fin
            case p2ini =>
              intro j hj
              have hj' : 5 ≤ j := hj
              match j, hj' with
              | 5, _ => exact below_drewN (Below.refl _ _) 1
              | 6, _ => rfl
              | n + 7, _ => trivial
            case p2steps =>
              refine AllFrom.cons (i := 0) (step_isIn (by kernel_rfl) (fun _ _ => rfl) (fun _ => rfl) ?p2_0) (AllFrom.cons (i := 1) (step_isIn (by kernel_rfl) (fun _ _ => rfl) (fun _ => rfl) ?p2_1) (AllFrom.cons (i := 2) (step_fnIn (by kernel_rfl) _ _ _ rfl (fun _ => rfl) (enters_of Tryd.func25 (by kernel_rfl) rfl) ?p2_2) (AllFrom.cons (i := 3) (step_runIn (by kernel_rfl) (fun _ _ => rfl) (fun _ => rfl) ?p2_3) (AllFrom.cons (i := 4) (step_runIn (by kernel_rfl) (fun _ _ => rfl) (fun _ => rfl) ?p2_4) (trivial)))))
              case p2_0 =>
                intro L' vals W2 ρ hI hi hdep hnew hold hc
                have e0 : ρ (.tmp 5) = .pointer (some ⟨w.heap.size + 4, 0, none⟩) := (hold 5 (by kernel_rfl)).trans (by kernel_rfl)
                have h3 := hI.ahead hi 3 (by kernel_rfl)
                have h4 := hI.ahead h3 4 (by kernel_rfl)
                have p0 : W2.cell? ⟨w.heap.size + 4, 0, none⟩ = some (.slice Apo p cpo) := (cell_same (hI.fact 6 (.inl (of_decide_eq_true (by kernel_rfl))) h4) 0).trans kp7
                refine ⟨.slice Apo p cpo, ?_, by simp [p2F, upd]⟩
                simp [execOp, go_sem, e0, p0]
              case p2_1 =>
                intro L' vals W2 ρ hI hi hdep hnew hold hc
                have e0 : ρ (.tmp 8) = .pointer (some ⟨bs, 0, none⟩) := (hold 8 (by kernel_rfl)).trans (by kernel_rfl)
                have hrw : W2.heap[bs]? = some (.cells #[.int .i64 s.src, .slice As m cs, .int .i64 s.kind, .int .i64 s.size, .int .i64 s.depth, .int .i64 s.fresh] 53 (0, 0)) := hI.com.1
                have p0 : W2.cell? ⟨bs, 0, none⟩ = some (.int .i64 s.src) := by rw [cell_of_row _ _ _ _ _ _ hrw]; rfl
                have p1 : W2.cell? ⟨bs, 1, none⟩ = some (.slice As m cs) := by rw [cell_of_row _ _ _ _ _ _ hrw]; rfl
                have p2 : W2.cell? ⟨bs, 2, none⟩ = some (.int .i64 s.kind) := by rw [cell_of_row _ _ _ _ _ _ hrw]; rfl
                have p3 : W2.cell? ⟨bs, 3, none⟩ = some (.int .i64 s.size) := by rw [cell_of_row _ _ _ _ _ _ hrw]; rfl
                have p4 : W2.cell? ⟨bs, 4, none⟩ = some (.int .i64 s.depth) := by rw [cell_of_row _ _ _ _ _ _ hrw]; rfl
                have p5 : W2.cell? ⟨bs, 5, none⟩ = some (.int .i64 s.fresh) := by rw [cell_of_row _ _ _ _ _ _ hrw]; rfl
                refine ⟨.agg #[.int .i64 s.src, .slice As m cs, .int .i64 s.kind, .int .i64 s.size, .int .i64 s.depth, .int .i64 s.fresh], ?_, by simp [p2F, upd, sC]⟩
                simp [execOp, go_sem, e0, p0, p1, p2, p3, p4, p5]
              case p2_2 =>
                intro L' vals W2 ρ hI hi hdep hnew hold hc
                have e0 : ρ (.tmp 56) = .agg #[.int .i64 s.src, .slice As m cs, .int .i64 s.kind, .int .i64 s.size, .int .i64 s.depth, .int .i64 s.fresh] := (hnew 1 56 (dep hdep 1 (by kernel_rfl)) (by kernel_rfl) (of_decide_eq_true (by kernel_rfl)) (of_decide_eq_true (by kernel_rfl))).trans (hI.fact 1 (.inr (dep hdep 1 (by kernel_rfl))) (neverW hI (of_decide_eq_true (by kernel_rfl))))
                have h3 := hI.ahead hi 3 (by kernel_rfl)
                have h4 := hI.ahead h3 4 (by kernel_rfl)
                have hb2 : Below W7.heap.size W7 W2 := hI.fact 5 (.inl (of_decide_eq_true (by kernel_rfl))) hi
                refine ⟨_, by simp [e0], (HPo.out W2 (hJ7.bel.trans (hb2.mono hJ7.bel.size))).mono ?_⟩
                rintro e W' ⟨hb', v, rfl, hov⟩
                have hz2 := hb2.size
                refine ⟨_, rfl, ⟨(hb'.block bs (Nat.lt_of_lt_of_le (by omega) hz2)).trans hI.com.1, Nat.le_trans hI.com.2 hb'.size⟩, ⟨by simpa [upd] using own_base hov hz2, hb2.trans (hb'.mono hb2.size)⟩, ?_⟩
                intro j hji hTj hd hT
                by_cases hj : j ≤ 1 ∨ 7 ≤ j
                · exact p2_still hj (hI.fact j hd hT)
                · have : j = 2 ∨ j = 3 ∨ j = 4 ∨ j = 5 ∨ j = 6 := by omega
                  rcases this with rfl | rfl | rfl | rfl | rfl
                  · exact absurd rfl hji
                  · rcases hd with hd | hd
                    · exact absurd hd (of_decide_eq_false (by kernel_rfl))
                    · rw [h3] at hd; cases hd
                  · rcases hd with hd | hd
                    · exact absurd hd (of_decide_eq_false (by kernel_rfl))
                    · rw [h4] at hd; cases hd
                  · exact absurd rfl hTj
                  · have := hI.fact 6 hd hT
                    exact (hb'.block (w.heap.size + 4) (by omega)).trans this
              case p2_3 =>
                intro L' vals W2 ρ hI hi hdep hnew hold hc
                have e0 : ρ (.tmp 55) = .slice Apo p cpo := (hnew 0 55 (dep hdep 0 (by kernel_rfl)) (by kernel_rfl) (of_decide_eq_true (by kernel_rfl)) (of_decide_eq_true (by kernel_rfl))).trans (hI.fact 0 (.inr (dep hdep 0 (by kernel_rfl))) (neverW hI (of_decide_eq_true (by kernel_rfl))))
                have h4 := hI.ahead hi 4 (by kernel_rfl)
                obtain ⟨hov, hb2⟩ := hI.fact 2 (.inr (dep hdep 2 (by kernel_rfl))) hi
                have e1 : ρ (.tmp 57) = vals 2 := (hnew 2 57 (dep hdep 2 (by kernel_rfl)) (by kernel_rfl) (of_decide_eq_true (by kernel_rfl)) (of_decide_eq_true (by kernel_rfl)))
                obtain ⟨Av2, cv2, hv2⟩ := own_slice hov
                rw [hv2] at e1 hov
                obtain ⟨q, rfl⟩ : ∃ q, Av2 = some ⟨q, 0, none⟩ := by
                  rcases hov.2 with ⟨h1, h2⟩ | ⟨g, cap, cur, h1, _⟩
                  · omega
                  · cases h1; exact ⟨g, rfl⟩
                have hnw : ∀ (j : Nat) (y : Value), ((portsOf s).flatMap poC)[j]? = some y → W2.cell? ⟨q, j, none⟩ = some y := fun j y hy => by
                  obtain ⟨g, c2, e3, _, e4⟩ := own_cell hov hy
                  cases e3; exact e4
                have hown2 := own_below HOp7.out hb2 (Nat.le_refl _)
                have hz2 := hb2.size
                obtain ⟨v', w', hr, r1, r2, r3⟩ := app_run W2 (w.heap.size + 8) 31 31 49 (.agg #[.int .i64 0, .int .i64 0, .int .i64 0, .int .i64 0, .int .i64 0, .int .i64 0]) 6 48 Tryd.underlying31 info_po rfl (by decide) (by decide) _ p _ hown2 q (1 + m) cv2 ((portsOf s).flatMap poC) hov.1 hnw (fun u hu => by
                  obtain ⟨x, _, hx⟩ := List.mem_flatMap.1 hu
                  simp only [poC, List.mem_cons, List.not_mem_nil, or_false] at hx
                  rcases hx with rfl | rfl | rfl | rfl | rfl | rfl <;> rfl) (by omega) (by omega)
                have hkeep : ∀ k, k < W2.heap.size → (Value.slice Apo p cpo).ownBlock ≠ some k → w'.heap[k]? = W2.heap[k]? := fun k h1 h2 => r2.block k h1 fun e => h2 e.symm
                refine ⟨v', w', .inl ?_, ⟨(hkeep bs (Nat.lt_of_lt_of_le (by omega) hz2) fun e => by have := (own_block HOp7.out e).2.2; obtain ⟨cur, hc⟩ := this; rw [hbs7] at hc; cases hc).trans hI.com.1, Nat.le_trans hI.com.2 r2.size⟩, ⟨W2, hb2, r2, by simpa [upd] using r1, by simpa [upd] using r3⟩, ?_⟩
                · simp [execOp, e0, e1, resolve, invoke, builtin, hr, Result.andThen]
                · intro j hji hTj hd hT
                  by_cases hj : j ≤ 1 ∨ 7 ≤ j
                  · exact p2_still hj (hI.fact j hd hT)
                  · have : j = 2 ∨ j = 3 ∨ j = 4 ∨ j = 5 ∨ j = 6 := by omega
                    rcases this with rfl | rfl | rfl | rfl | rfl
                    · exact absurd rfl hTj
                    · exact absurd rfl hji
                    · rcases hd with hd | hd
                      · exact absurd hd (of_decide_eq_false (by kernel_rfl))
                      · rw [h4] at hd; cases hd
                    · have h2' := dep hdep 2 (by kernel_rfl)
                      rw [show p2T 5 = 2 from rfl, h2'] at hT; cases hT
                    · have := hI.fact 6 hd hT
                      exact (hkeep (w.heap.size + 4) (by omega) fun e => by have := (own_block HOp7.out e).2.1; omega).trans this
              case p2_4 =>
                intro L' vals W2 ρ hI hi hdep hnew hold hc
                have e0 : ρ (.tmp 5) = .pointer (some ⟨w.heap.size + 4, 0, none⟩) := (hold 5 (by kernel_rfl)).trans (by kernel_rfl)
                have hA11 := hI.fact 3 (.inr (dep hdep 3 (by kernel_rfl))) hi
                have e1 : ρ (.tmp 58) = vals 3 := (hnew 3 58 (dep hdep 3 (by kernel_rfl)) (by kernel_rfl) (of_decide_eq_true (by kernel_rfl)) (of_decide_eq_true (by kernel_rfl)))
                obtain ⟨W0', hA1, hA2, hA3, hA4⟩ := hA11
                obtain ⟨A4, c4, hv4⟩ := own_slice hA3
                rw [hv4] at e1 hA3 hA4
                have h6 : W2.heap[w.heap.size + 4]? = W7.heap[w.heap.size + 4]? := hI.fact 6 (.inl (of_decide_eq_true (by kernel_rfl))) hi
                have p0 : W2.cell? ⟨w.heap.size + 4, 0, none⟩ = some (.slice Apo p cpo) := (cell_same h6 0).trans kp7
                have f0 : W2.frozen? ⟨w.heap.size + 4, 0, none⟩ = false := by simp [World.frozen?, h6, hph7]
                refine ⟨undef, W2.setCell ⟨w.heap.size + 4, 0, none⟩ (.slice A4 (p + (1 + m)) c4), .inr ⟨rfl, ?_⟩, ⟨(setCell_other (by omega)).trans hI.com.1, by simp; exact hI.com.2⟩, ⟨.slice A4 (p + (1 + m)) c4, W2, ⟨W0', hA1, hA2, hA3, hA4⟩, rfl⟩, ?_⟩
                · simp [execOp, e0, e1, go_sem, p0, f0]
                · intro j hji hTj hd hT
                  by_cases hj : j ≤ 1 ∨ 7 ≤ j
                  · exact p2_still hj (hI.fact j hd hT)
                  · have : j = 2 ∨ j = 3 ∨ j = 4 ∨ j = 5 ∨ j = 6 := by omega
                    rcases this with rfl | rfl | rfl | rfl | rfl
                    · have h3' := dep hdep 3 (by kernel_rfl)
                      rw [show p2T 2 = 3 from rfl, h3'] at hT; cases hT
                    · exact absurd rfl hTj
                    · exact absurd rfl hji
                    · have h2 : L'.getD 2 false = true := by
                        cases h2 : L'.getD 2 false with
                        | true => rfl
                        | false =>
                          have h3 := hI.ahead h2 3 (by kernel_rfl)
                          rw [dep hdep 3 (by kernel_rfl)] at h3; cases h3
                      rw [show p2T 5 = 2 from rfl, h2] at hT; cases hT
                    · exact absurd rfl hTj
            case p2fin =>
              intro vals W8 hC8 hF8
              have hf4 := hF8 4 (of_decide_eq_true (by kernel_rfl)) (of_decide_eq_true (by kernel_rfl))
              obtain ⟨v, W81, ⟨W80, hA1, hA2, hA3, hA4⟩, hW8⟩ := hf4
              obtain ⟨Ap8, cp8, rfl⟩ := own_slice hA3
              have hs81 : W7.heap.size ≤ W81.heap.size := Nat.le_trans hA1.size hA2.size
              have hs8 : W8.heap.size = W81.heap.size := by rw [hW8]; simp
              have hbel8 : Below w.heap.size w W8 := by
                rw [hW8]
                exact (below_own (hJ7.bel.trans (hA1.mono hJ7.bel.size)) (own_below HOp7.out hA1 (Nat.le_refl _)) hA2 (by omega) (by have := hA1.size; omega)).setCell (p := ⟨w.heap.size + 4, 0, none⟩) (by show w.heap.size ≤ w.heap.size + 4; omega) _
              have hk8 : ∀ j o, j < W7.heap.size → W7.heap[j]? = some o → (∀ cs, o ≠ .cells cs 49 (0, 0)) → j ≠ w.heap.size + 4 → W8.heap[j]? = some o := fun j o hj ho hne hj6 => by
                rw [hW8, setCell_other hj6, hA2.block j (Nat.lt_of_lt_of_le hj hA1.size) (fun e => ?_), hA1.block j hj, ho]
                obtain ⟨_, _, cur, hc⟩ := own_block HOp7.out e.symm
                rw [ho] at hc
                exact hne cur (Option.some.inj hc)
              have hpo8 : ∃ A c, W8.heap[w.heap.size + 4]? = some (.cells #[.slice A (portN (d.streams.take (k + 1))) c] 31 (0, 0)) ∧ W8.ownsRow (w.heap.size + 8) 49 6 (.slice A (portN (d.streams.take (k + 1))) c) (portN (d.streams.take (k + 1))) ((portsAll (d.streams.take (k + 1))).flatMap poC) := by
                rw [HPn.out]
                refine ⟨Ap8, cp8, ?_, ?_⟩
                · have h1 : W81.heap[w.heap.size + 4]? = some (.cells #[.slice Apo p cpo] 31 (0, 0)) := by
                    rw [hA2.block _ (by have := hA1.size; omega) (fun e => by have := (own_block HOp7.out e.symm).2.1; omega), hA1.block _ (by omega), hph7]
                  rw [hW8, set_cells h1]; rfl
                · rw [portsAll_next d.streams k HK.out, HSd.out, List.flatMap_append, hW8]
                  exact own_stands hA3 fun j hj => setCell_other (by have := (own_block hA3 hj).2.1; omega)
              have hJ8 := hJ7.newP (kp' := k + 1) hbel8 (by omega) hk8 hpo8
              have hbl8 := hk8 (bs + 1) _ (by omega) hbl7 (fun _ => ty_ne (by decide)) (by omega)
              have hA8 := own_stands (W' := W8) hA7 fun j hj => by
                obtain ⟨h1, _, cur, hc⟩ := own_block hA7 hj
                rw [hc]
                refine hk8 j _ h1 hc (fun _ => ty_ne (by decide)) fun e => ?_
                subst e
                rw [hph7] at hc
                exact absurd (Option.some.inj hc) (ty_ne (by decide))
              have hs8' : bs + 2 ≤ W8.heap.size := by omega
              clear hF8 hA1 hA2 hA3 hA4 hW8 hs81 hs8 hbel8 hk8 hpo8 hC8 hJ7 hbs7 hbl7 hA7 kp7 HOp7 hph7
              simp [canon, dstOf, Act.put]
              obtain ⟨li1, li2⟩ := hJ8.li
              have HLi := hide li2
              have k6 : W8.cell? ⟨w.heap.size + 5, 0, none⟩ = some (.slice Al k cl) := by rw [cell_of_row _ _ _ _ _ _ li1]; rfl
              have k60 : W8.frozen? ⟨w.heap.size + 5, 0, none⟩ = false := by simp [World.frozen?, li1]
              have l0 : W8.cell? ⟨bs + 1, 0, none⟩ = some (.int .i64 (p : Nat)) := by rw [cell_of_row _ _ _ _ _ _ hbl8]; rfl
              have l1 : W8.cell? ⟨bs + 1, 1, none⟩ = some (.slice A m c) := by rw [cell_of_row _ _ _ _ _ _ hbl8]; rfl
              have l2 : W8.cell? ⟨bs + 1, 2, none⟩ = some (.int .i64 L0) := by rw [cell_of_row _ _ _ _ _ _ hbl8]; rfl
              have z6 : w.heap.size + 5 < W8.heap.size := by omega
              have z7 : bs + 1 < W8.heap.size := by omega
              have hk64 : k ≤ 100 := by have := HOk.out.sl; have := HK.out; omega
              have HJ8 := hide hJ8
              have HA8 := hide hA8
              have HLi1 := hide li1
              have HQ := hide (show (Q ++ [((⟨(p : Nat), dsTo p m, L0⟩ : Lk), A, c)]).flatMap lkC = Q.flatMap lkC ++ [.int .i64 (p : Nat), .slice A m c, .int .i64 L0] from by
                rw [List.flatMap_append]; simp [lkC, dsTo_len])
              have E := hide (fun v9 W9' (h5 : W9'.ownsRow (w.heap.size + 8) 51 3 v9 (k + 1) (Q.flatMap lkC ++ [.int .i64 (p : Nat), .slice A m c, .int .i64 L0])) (hg : (W8.alloc (.cells #[.int .i64 (p : Nat), .slice A m c, .int .i64 L0] 51)).grownBy W9' (Value.slice Al k cl).ownBlock) =>
                show (∃ Q' Al' cl', JnS w (W9'.setCell ⟨w.heap.size + 5, 0, none⟩ v9) d a N { rec with state := .busy } (k + 1) (k + 1) (k + 1) Q' Al' cl') ∧ W9'.cell? ⟨w.heap.size + 5, 0, none⟩ = some (.slice Al k cl) ∧ W9'.frozen? ⟨w.heap.size + 5, 0, none⟩ = false ∧ w.heap.size + 5 < W9'.heap.size from by
                have hb9 := bal W8 (.cells #[.int .i64 (p : Nat), .slice A m c, .int .i64 L0] 51)
                have hsz9 := hg.size
                simp only [World.size_alloc] at hsz9
                obtain ⟨Al', cl', rfl⟩ := own_slice h5
                have k5 := ((app_keep HLi.out hb9 hg (k := w.heap.size + 5) (by simp; omega) (.inl (by omega))).trans (hb9.block _ z6)).trans HLi1.out
                refine ⟨⟨Q ++ [((⟨(p : Nat), dsTo p m, L0⟩ : Lk), A, c)], Al', cl', HJ8.out.newL ?_ ?_ ?_ ?_ ?_ ?_⟩, (cell_of_row _ _ _ _ _ _ k5).trans rfl, by simp [World.frozen?, k5], by omega⟩
                · exact (below_own (HJ8.out.bel.trans (hb9.mono HJ8.out.bel.size)) (own_below HLi.out hb9 (Nat.le_refl _)) hg (by omega) (by simp; omega)).setCell (p := ⟨w.heap.size + 5, 0, none⟩) (by show w.heap.size ≤ w.heap.size + 5; omega) _
                · simp; omega
                · intro j o hj ho hne hj5
                  rw [setCell_other hj5, hg.block j (by simp; omega) (fun e => ?_), hb9.block j hj, ho]
                  obtain ⟨_, _, cur, hc⟩ := own_block HLi.out e.symm
                  rw [ho] at hc
                  exact hne cur (Option.some.inj hc)
                · refine ⟨by rw [set_cells k5]; rfl, ?_⟩
                  rw [HQ.out]
                  exact own_stands h5 fun j hj => setCell_other (by have := (own_block h5 hj).2.1; omega)
                · rw [List.map_append, HJ8.out.qs, linksTo_next, HLk.out, HNd.out, ← HL0.out]; rfl
                · intro q hq
                  rcases List.mem_append.1 hq with hq | hq
                  · exact HJ8.out.ds q hq
                  · obtain rfl := List.mem_singleton.1 hq
                    refine ⟨?_, dsTo_i64 (by omega) (by omega)⟩
                    dsimp only
                    rw [dsTo_len]
                    exact HA8.out)
              clear hJ8 hA8 li1 li2 hbl8 HLo
              gi_wp2_with (gi_at_builtin; refine wpListIn_one _ rfl _ _ 32 rfl 51 (.agg #[.int .i64 0, .slice none 0 0, .int .i64 0]) 3 40 Tryd.underlying32 info_lk rfl (by decide) (by decide) (w.heap.size + 8) _ _ _ rfl (own_below HLi.out (bal W8 _) (Nat.le_refl _)) _ _ [.int .i64 (p : Nat), .slice A m c, .int .i64 L0] rfl (heap_alloc_new W8 _) rfl (by simp [Value.oneCell']) (by omega) (by simp; omega) ?_; intro v9 w9 hown9 hgr9 hwh; obtain ⟨x1, x2, x3, x4⟩ := E.out v9 w9 hown9 hgr9; obtain ⟨A9, c9, rfl⟩ := own_slice hown9; have HX1 := hide x1; clear hown9 hgr9 hwh x1)
              obtain ⟨Q', Al', cl', hJ9⟩ := HX1.out
              have key : ∀ R : Loop, R = rec → JnS w ((w9.setCell ⟨w.heap.size + 5, 0, none⟩ (.slice A9 (k + 1) c9)).putObj (w.heap.size + 10) (.loop R)) d a N rec (k + 1) (k + 1) (k + 1) Q' Al' cl' := by
                rintro R rfl
                exact hJ9.put R
              refine ⟨none, { rec with state := .busy }, rfl, hJ9.lp, .inl ⟨rfl, Q', Al', cl', key _ ?_⟩⟩
              show ({ rec with state := LoopState.ready, pending := none } : Loop) = rec
              rw [← HST.out, ← HPE.out]
        · have HNo := hide (fitL_not HOk.out (n := n) (k := k + 1) hnN (by
            rw [load_next HK.out, HSd.out]
            unfold loadOf
            rw [if_pos HNd.out, ← HL0.out]; exact h64))
          have HJ5 := hide hJ5
          have a2 : W5.cell? ⟨w.heap.size + 1, 0, none⟩ = some (.slice none 0 0) := by rw [cell_of_row _ _ _ _ _ _ hJ5.r2]; rfl
          have a3 : W5.cell? ⟨w.heap.size + 1 + 1, 0, none⟩ = some (.slice none 0 0) := by rw [cell_of_row _ _ _ _ _ _ hJ5.r3]; rfl
          have a4 : W5.cell? ⟨w.heap.size + 1 + 1 + 1, 0, none⟩ = some (.bool false) := by rw [cell_of_row _ _ _ _ _ _ hJ5.r4]; rfl
          have f2 : W5.frozen? ⟨w.heap.size + 1, 0, none⟩ = false := by simp [World.frozen?, hJ5.r2]
          have f3 : W5.frozen? ⟨w.heap.size + 1 + 1, 0, none⟩ = false := by have := hJ5.r3; simp [World.frozen?, this]
          have f4 : W5.frozen? ⟨w.heap.size + 1 + 1 + 1, 0, none⟩ = false := by have := hJ5.r4; simp [World.frozen?, this]
          have z5 : w.heap.size + 11 ≤ W5.heap.size := by omega
          clear hJ5 hbs5 hbl5 hA5 kq5
          gi_wp2
          have hset : ∀ j, j ≠ w.heap.size + 1 → j ≠ w.heap.size + 2 → j ≠ w.heap.size + 3 → (((W5.setCell ⟨w.heap.size + 1, 0, none⟩ (.slice none 0 0)).setCell ⟨w.heap.size + 2, 0, none⟩ (.slice none 0 0)).setCell ⟨w.heap.size + 3, 0, none⟩ (.bool false)).heap[j]? = W5.heap[j]? := fun j h1 h2 h3 => by rw [setCell_other h3, setCell_other h2, setCell_other h1]
          have hb6 : Below w.heap.size w (((W5.setCell ⟨w.heap.size + 1, 0, none⟩ (.slice none 0 0)).setCell ⟨w.heap.size + 2, 0, none⟩ (.slice none 0 0)).setCell ⟨w.heap.size + 3, 0, none⟩ (.bool false)) := ((HJ5.out.bel.setCell (p := ⟨w.heap.size + 1, 0, none⟩) (by show w.heap.size ≤ w.heap.size + 1; omega) _).setCell (p := ⟨w.heap.size + 2, 0, none⟩) (by show w.heap.size ≤ w.heap.size + 2; omega) _).setCell (p := ⟨w.heap.size + 3, 0, none⟩) (by show w.heap.size ≤ w.heap.size + 3; omega) _
          have hr2 : (((W5.setCell ⟨w.heap.size + 1, 0, none⟩ (.slice none 0 0)).setCell ⟨w.heap.size + 2, 0, none⟩ (.slice none 0 0)).setCell ⟨w.heap.size + 3, 0, none⟩ (.bool false)).heap[w.heap.size + 1]? = some (.cells #[.slice none 0 0] 31 (0, 0)) := by rw [setCell_other (by omega), setCell_other (by omega), set_cells HJ5.out.r2]; rfl
          have hr3 : (((W5.setCell ⟨w.heap.size + 1, 0, none⟩ (.slice none 0 0)).setCell ⟨w.heap.size + 2, 0, none⟩ (.slice none 0 0)).setCell ⟨w.heap.size + 3, 0, none⟩ (.bool false)).heap[w.heap.size + 2]? = some (.cells #[.slice none 0 0] 32 (0, 0)) := by rw [setCell_other (by omega), set_cells (show (W5.setCell ⟨w.heap.size + 1, 0, none⟩ (.slice none 0 0)).heap[w.heap.size + 2]? = _ from (setCell_other (by omega)).trans HJ5.out.r3)]; rfl
          have hr4 : (((W5.setCell ⟨w.heap.size + 1, 0, none⟩ (.slice none 0 0)).setCell ⟨w.heap.size + 2, 0, none⟩ (.slice none 0 0)).setCell ⟨w.heap.size + 3, 0, none⟩ (.bool false)).heap[w.heap.size + 3]? = some (.cells #[.bool false] 4 (0, 0)) := by rw [set_cells (show ((W5.setCell ⟨w.heap.size + 1, 0, none⟩ (.slice none 0 0)).setCell ⟨w.heap.size + 2, 0, none⟩ (.slice none 0 0)).heap[w.heap.size + 3]? = _ from (setCell_other (by omega)).trans ((setCell_other (by omega)).trans HJ5.out.r4))]; rfl
          have hl6 := (hset (w.heap.size + 10) (by omega) (by omega) (by omega)).trans HJ5.out.lp
          have hd6 := (hset (w.heap.size + 9) (by omega) (by omega) (by omega)).trans HJ5.out.df
          have hz6 : (((W5.setCell ⟨w.heap.size + 1, 0, none⟩ (.slice none 0 0)).setCell ⟨w.heap.size + 2, 0, none⟩ (.slice none 0 0)).setCell ⟨w.heap.size + 3, 0, none⟩ (.bool false)).heap.size = W5.heap.size := by simp
          change ∃ j, _ ∧ ∃ x, (((W5.setCell ⟨w.heap.size + 1, 0, none⟩ (.slice none 0 0)).setCell ⟨w.heap.size + 2, 0, none⟩ (.slice none 0 0)).setCell ⟨w.heap.size + 3, 0, none⟩ (.bool false)).heap[w.heap.size + 10]? = _ ∧ _
          refine ⟨some .ret, rfl, _, hl6, .inr ⟨?_, ?_⟩⟩
          · simp
          · refine ⟨hb6.grown (grownBy_putObj' _ _ _) hb6.size (fun q e => by cases e; omega), by simp; omega, World.putObj_heap_same (by rw [hz6]; omega), (World.putObj_heap_other (by omega)).trans hd6, (World.putObj_heap_other (by omega)).trans hr2, (World.putObj_heap_other (by omega)).trans hr3, (World.putObj_heap_other (by omega)).trans hr4, HNo.out⟩
end Go.Proofs.YtdennekkbdlhdaaDoor
