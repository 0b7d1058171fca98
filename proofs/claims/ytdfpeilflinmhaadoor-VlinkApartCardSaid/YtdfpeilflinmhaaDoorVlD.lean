/-
  A link's own data, by its number.
-/
import Derived.Test.YtdfpeilflinmhaaDoorVlC
import Derived.StillTailTactics
import Derived.Laws.Tables
import Derived.Laws.CopyOwn
namespace Go.Proofs.YtdfpeilflinmhaaDoor
open Go.RowKit Go.Deep
set_option linter.unusedVariables false
set_option linter.unusedSimpArgs false

/-- append of one element, in a region -/
theorem wp_one {o : Oper} {a : Act} {w : World} {K : Act → World → Prop} {Q : Exit → Act → World → Prop} (s x : Operand) (t : TypeId)
    (ho : o.op = .call { callee := .builtin .append, args := #[s, x], argTypes := #[t, t] })
    (e : TypeId) (z : Value) (size bytes : Nat) (ht : Tryd.prog.underlying t = some (.slice e)) (hi : (Tryd.prog.info? e).map (fun i => (i.zero, i.size, i.bytes)) = some (some z, size, bytes)) (hzs : z.cells.size = size) (hsz : 0 < size) (hby : bytes ≤ 1000)
    (base : Nat) (v : Value) (n : Nat) (xs : List Value) (hs : a.eval s = v) (hown : w.ownsRow base e size v n xs)
    (q c : Nat) (us : List Value) (hx : a.eval x = .slice (some ⟨q, 0, none⟩) 1 c) (hq : w.heap[q]? = some (.cells us.toArray e (0, 0))) (hul : us.length = size) (hu : ∀ u ∈ us, u.oneCell' = true) (hn : n ≤ 100000) (hbase : base ≤ w.heap.size)
    (h : ∀ v' w', w'.ownsRow base e size v' (n + 1) (xs ++ us) → w.grownBy w' v.ownBlock → (v'.ownBlock = v.ownBlock ∨ ∀ k, v'.ownBlock = some k → w.heap.size ≤ k) → K (a.put o.dst v') w') :
    o.wp Tryd.prog a w K Q := by
  rcases hi' : Tryd.prog.info? e with _ | i
  · rw [hi'] at hi; cases hi
  rw [hi'] at hi
  simp only [Option.map_some, Option.some.injEq, Prod.mk.injEq] at hi
  obtain ⟨hz, hs1, hb⟩ := hi
  have hnews : ∀ (j : Nat) (y : Value), us[j]? = some y → w.cell? ((⟨q, 0, none⟩ : Addr).add j) = some y := by
    intro j y hy
    rw [plain_add, cell_of_row _ _ _ _ _ _ hq]
    simpa using hy
  have hbb : (n + 1) * bytes ≤ 140737488355328 := by have := Nat.mul_le_mul (show n + 1 ≤ 100001 by omega) hby; omega
  obtain ⟨v', w', hr, h2, h3, _⟩ := run_append_own (P := Tryd.prog) w base t o.type e i _ size bytes ht hi' hz hs1 hb hzs hsz v n xs hown ⟨q, 0, none⟩ 1 c us (by omega) hnews hu (by simp only [maxLen]; omega) hbb hbase
  have h4 := app_where base t o.type e i _ size ht hi' hz hs1 v n xs hown ⟨q, 0, none⟩ 1 c us (by omega) hnews hu (by omega) (by simp only [maxLen]; omega) (by rw [hb]; exact hbb) hr
  unfold Oper.wp execOp
  simp only [ho, resolve, invoke, builtin, Sem.run_bind, Sem.run_pure, Result.andThen_ok, List.map_toArray, List.map_cons, List.map_nil, hs, hx, hr]
  exact h v' w' h2 h3 h4

/-- a configuration in a function's own block stands, if that block does, and what lay there before -/
theorem CfS.only {w W W' : World} {c : Conf} {d : Ad} (h0 : Glo w) (h1 : ConfAt w c d) (h : CfS w W c d) (hb : Below w.heap.size w W') (hN : W'.heap[w.heap.size]? = W.heap[w.heap.size]?) : CfS w W' c d := by
  have hk : ∀ (o : Nat) (u : Value), W.cell? ⟨w.heap.size, o, none⟩ = some u → W'.cell? ⟨w.heap.size, o, none⟩ = some u := fun o u e => (World.cell?_of_block (a := ⟨w.heap.size, o, none⟩) hN).trans e
  have hlt : w.heap.size < W'.heap.size := by
    have := h.x.lt
    rw [Array.getElem?_eq_getElem this] at hN
    exact (Array.getElem?_eq_some_iff.1 hN).1
  exact ⟨hb, ⟨hlt, hk _ _ h.x.c0, hk _ _ h.x.c1, hk _ _ h.x.c2, hk _ _ h.x.c3, hk _ _ h.x.c4, hk _ _ h.x.c5, hk _ _ h.x.c6, hk _ _ h.x.c7, hk _ _ h.x.c8, hk _ _ h.x.c9, hk _ _ h.x.c10, hk _ _ h.x.c11⟩, h0.below hb (Nat.le_refl _), h1.of_below hb (Nat.le_refl _)⟩

theorem info_link1 : (Tryd.prog.info? 134).map (·.size) = some 5 := by kernel_rfl
theorem info_dest : (Tryd.prog.info? 140).map (fun i => (i.zero, i.size, i.bytes)) = some (some (.agg #[.int .i64 0, .int .i64 0]), 2, 16) := by kernel_rfl
theorem vset_row {w : World} {g k : Nat} {v : Value} {cs : Array Value} {t : TypeId} {fr : Nat × Nat} (h : w.heap[g]? = some (.cells cs t fr)) : (w.setCell ⟨g, k, none⟩ v).heap[g]? = some (.cells (cs.setIfInBounds k v) t fr) := by
  show (w.heap.modify g _)[g]? = _
  rw [Array.getElem?_modify, if_pos rfl, h]
  rfl
theorem vset_size (W : World) (a : Addr) (v : Value) : (W.setCell a v).heap.size = W.heap.size := by
  show (W.heap.modify _ _).size = _
  rw [Array.size_modify]

/-- what stands while a link's data are gathered -/
structure LoV (w W : World) (c : Conf) (d : Ad) (A : Option Addr) (m : Nat) (x : Lr) (dl : Nat) (v : Value) : Prop where
  cf : CfS w W c d
  frm : W.heap[w.heap.size + 2]? = some (.cells #[.int .i64 x.src, .slice A dl m, .int .i64 x.off] 46 (0, 0))
  res : W.heap[w.heap.size + 1]? = some (.cells #[.int .i64 0, .int .i64 0, .int .i64 0, .int .i64 0, .slice none 0 0] 134 (0, 0))
  lnk : W.heap[w.heap.size + 3]? = some (.cells #[.int .i64 x.num, .int .i64 x.src, .int .i64 x.off, .int .i64 x.siz, v] 134 (0, 0))
  siz : w.heap.size + 4 ≤ W.heap.size
section
variable {w W W' : World} {c : Conf} {d : Ad} {A : Option Addr} {m : Nat} {x : Lr} {dl : Nat} {v : Value}
theorem LoV.below (h : LoV w W c d A m x dl v) (hb : Below W.heap.size W W') : LoV w W' c d A m x dl v := by
  have hs := h.siz
  exact ⟨h.cf.below hb, (hb.block _ (by omega)).trans h.frm, (hb.block _ (by omega)).trans h.res, (hb.block _ (by omega)).trans h.lnk, Nat.le_trans hs hb.size⟩
theorem LoV.grown (h0 : Glo w) (h1 : ConfAt w c d) (h : LoV w W c d A m x dl v) {row : Option Nat} (hg : W.grownBy W' row) (hr : ∀ k, row = some k → w.heap.size + 4 ≤ k) : LoV w W' c d A m x dl v := by
  have hs := h.siz
  have hne : ∀ j, j < w.heap.size + 4 → W'.heap[j]? = W.heap[j]? := fun j hj => hg.block j (by omega) fun e => by have := hr j e.symm; omega
  exact ⟨h.cf.only h0 h1 (h.cf.bel.grown hg h.cf.bel.size fun k e => by have := hr k e; omega) (hne _ (by omega)), (hne _ (by omega)).trans h.frm, (hne _ (by omega)).trans h.res, (hne _ (by omega)).trans h.lnk, Nat.le_trans hs hg.size⟩
theorem LoV.set (h0 : Glo w) (h1 : ConfAt w c d) (h : LoV w W c d A m x dl v) (v' : Value) : LoV w (W.setCell ⟨w.heap.size + 3, 4, none⟩ v') c d A m x dl v' := by
  have hs := h.siz
  have hne : ∀ j, j ≠ w.heap.size + 3 → (W.setCell ⟨w.heap.size + 3, 4, none⟩ v').heap[j]? = W.heap[j]? := fun j hj => setCell_other hj
  exact ⟨h.cf.only h0 h1 (h.cf.bel.setCell (p := ⟨w.heap.size + 3, 4, none⟩) (by show _ ≤ _ + 3; omega) _) (hne _ (by omega)), (hne _ (by omega)).trans h.frm, (hne _ (by omega)).trans h.res, by rw [vset_row h.lnk]; rfl, by rw [vset_size]; exact hs⟩
end
/-- what the operations have made that put a port behind -/
def loF (w : World) (c : Conf) (d : Ad) (A : Option Addr) (m dl : Nat) (x : Lr) (v0 : Value) (ds : List (Int × Int)) (z nd : Int) (j : Nat) (vals : Nat → Value) (W : World) : Prop :=
  match j with
  | 0 => vals 0 = .pointer (some ⟨w.heap.size + 3, 4, none⟩)
  | 1 => vals 1 = v0
  | 2 => vals 2 = .int .i64 z
  | 3 => vals 3 = c.val d
  | 4 => vals 4 = .int .i64 z
  | 5 => vals 5 = .int .i64 nd
  | 6 => vals 6 = .agg #[.int .i64 z, .int .i64 nd]
  | 7 => ∃ q, vals 7 = .slice (some ⟨q, 0, none⟩) 1 1 ∧ W.heap[q]? = some (.cells #[.int .i64 z, .int .i64 nd] 140 (0, 0))
  | 8 => LoV w W c d A m x dl v0 ∧ DsAt W (w.heap.size + 4) (vals 8) (ds ++ [(z, nd)])
  | 9 => vals 9 = .pointer (some ⟨w.heap.size + 3, 4, none⟩)
  | 10 => ∃ v, LoV w W c d A m x dl v ∧ DsAt W (w.heap.size + 4) v (ds ++ [(z, nd)])
  | 11 => LoV w W c d A m x dl v0 ∧ DsAt W (w.heap.size + 4) v0 ds
  | _ => True
def loT : Nat → Nat
  | 7 => 8 | 8 => 10 | 11 => 8 | _ => 100
def loM (j : Nat) : List Nat := if 11 ≤ j then [] else [j]
section
variable {w : World} {c : Conf} {d : Ad} {A : Option Addr} {m dl : Nat} {x : Lr} {v0 : Value} {ds : List (Int × Int)} {z nd : Int}
theorem loF_sup : ∀ j vals vals' W, (∀ i ∈ loM j, vals i = vals' i) → loF w c d A m dl x v0 ds z nd j vals W → loF w c d A m dl x v0 ds z nd j vals' W := by
  intro j vals vals' W h hF
  unfold loM at h
  match j, hF with
  | 0, hF | 1, hF | 2, hF | 3, hF | 4, hF | 5, hF | 6, hF | 7, hF | 8, hF | 9, hF =>
    simp only [loF] at hF ⊢
    rw [← h _ (by simp)]; exact hF
  | 10, hF | 11, hF => exact hF
  | _ + 12, _ => trivial
theorem loF_later {W W' : World} (hb : Below W.heap.size W W') (j : Nat) (vals : Nat → Value) (h : loF w c d A m dl x v0 ds z nd j vals W) : loF w c d A m dl x v0 ds z nd j vals W' := by
  match j, h with
  | 0, h | 1, h | 2, h | 3, h | 4, h | 5, h | 6, h | 9, h => exact h
  | 7, ⟨q, h1, h2⟩ => exact ⟨q, h1, (hb.block _ (Array.getElem?_eq_some_iff.1 h2).1).trans h2⟩
  | 8, ⟨h1, h2⟩ => exact ⟨h1.below hb, ow_below h2 hb⟩
  | 10, ⟨v, h1, h2⟩ => exact ⟨v, h1.below hb, ow_below h2 hb⟩
  | 11, ⟨h1, h2⟩ => exact ⟨h1.below hb, ow_below h2 hb⟩
  | _ + 12, _ => trivial
end
theorem map_take {α β : Type} (f : α → β) (l : List α) (k : Nat) (h : k < l.length) (d : α) : (l.map f).take (k + 1) = (l.map f).take k ++ [f (l.getD k d)] := by
  rw [List.take_succ_eq_append_getElem (by simpa using h), List.getD_eq_getElem?_getD, List.getElem?_eq_getElem h]
  simp

set_option maxRecDepth 100000 in
set_option maxHeartbeats 4000000 in
theorem linkOf_at (c : Conf) (d : Ad) (n : Nat) (w : World) (hg : Glo w) (h : ConfAt w c d) (hm : MayK c) (hn : n < c.links.length) :
    Calls Tryd.prog 78 #[c.val d, .int .i64 n] w fun e w' => ∃ v, e = .returned (.agg #[.int .i64 (lrF c n).num, .int .i64 (lrF c n).src, .int .i64 (lrF c n).off, .int .i64 (lrF c n).siz, v]) ∧ DsAt w' w.heap.size v (lrF c n).dests ∧ Below w.heap.size w w' := by
  have hS := CfS.first 28 hg h
  have hsrc := hm.src hn
  have hdl := hm.dlen hn
  have HND := hide (fun j (hj : j < (c.links.getD n default).dests.length) W (H : CfS w W c d) => nodeOf_at c d ((c.links.getD n default).dests.getD j 0) W H.g H.cf (hm.dst hn hj) (hm.ofp (hm.dst hn hj)))
  simp only [ofB, Bool.and_eq_true, decide_eq_true_eq] at hsrc
  obtain ⟨sN, hsN⟩ := Int.eq_ofNat_of_zero_le hsrc.1
  have hsl : sN < c.ports.length := by omega
  obtain ⟨x, hx⟩ : ∃ x : Lr, x = lrF c n := ⟨_, rfl⟩
  have HX0 : Hid (x.num = (n : Int)) := by subst hx; exact rfl
  have HX1 : Hid (x.src = (sN : Int)) := by subst hx; exact hsN
  have HX2 : Hid (x.off = (c.links.getD n default).offset) := by subst hx; exact rfl
  have HX3 : Hid (x.siz = (c.ports.getD sN default).size) := by subst hx; show _ = _; simp only [lrF]; rw [hsN]; rfl
  have HX4 : Hid (x.dests = (c.links.getD n default).dests.map fun d => (d, nodeF c d)) := by subst hx; exact rfl
  rw [← hx]
  obtain ⟨lb, lo, Ai, ci, hlA, hlb, g0, g1, g2, h3, h4, hI, _, _⟩ := h.links.at hn
  obtain ⟨pb, po, hpA, hpb, _, _, _, f3, _, _⟩ := h.ports.at hsl
  obtain ⟨lk, hlk⟩ : ∃ lk, c.links.getD n default = lk := ⟨_, rfl⟩
  rw [hlk] at hsN hdl HND HX2 HX4 g0 g1 g2 h3 hI
  rw [hsN] at g0
  rw [← HX2.out] at g2
  rw [← HX3.out] at f3
  clear hx hsrc hm hlk
  have HG := hide hg; have HC := hide h
  clear hg h
  obtain ⟨oA, oC, pA, pC, wA, wC, qA, qC, lA, lC⟩ := d
  dsimp only at hlA hpA
  subst hlA hpA
  unfold Conf.cells at hS
  dsimp only at hS
  have HNV : Hid (c.val ⟨oA, oC, pA, pC, wA, wC, some ⟨pb, po, none⟩, qC, some ⟨lb, lo, none⟩, lC⟩ = .agg #[.int .i64 c.nodes, .slice oA c.owners.length oC, .int .i64 c.drift, .int .i64 c.reading, .int .i64 c.margin, .int .i64 c.bound, .int .i64 c.rejoin, .int .i64 c.quota, .slice pA c.parts.length pC, .slice wA c.windows.length wC, .slice (some ⟨pb, po, none⟩) c.ports.length qC, .slice (some ⟨lb, lo, none⟩) c.links.length lC]) := rfl
  rw [HNV.out]
  have hzA : (w.alloc (.cells #[.int .i64 c.nodes, .slice oA c.owners.length oC, .int .i64 c.drift, .int .i64 c.reading, .int .i64 c.margin, .int .i64 c.bound, .int .i64 c.rejoin, .int .i64 c.quota, .slice pA c.parts.length pC, .slice wA c.windows.length wC, .slice (some ⟨pb, po, none⟩) c.ports.length qC, .slice (some ⟨lb, lo, none⟩) c.links.length lC] 28)).heap.size = w.heap.size + 1 := by simp
  generalize hA : w.alloc (.cells #[.int .i64 c.nodes, .slice oA c.owners.length oC, .int .i64 c.drift, .int .i64 c.reading, .int .i64 c.margin, .int .i64 c.bound, .int .i64 c.rejoin, .int .i64 c.quota, .slice pA c.parts.length pC, .slice wA c.windows.length wC, .slice (some ⟨pb, po, none⟩) c.ports.length qC, .slice (some ⟨lb, lo, none⟩) c.links.length lC] 28) = w1 at hS hzA
  have HA := hide hA
  have HS := hide hS
  have HZA := hide hzA
  have G0 := hide g0; have G1 := hide g1; have G2 := hide g2; have F3 := hide f3; have HI := hide hI
  clear hS hA hzA g0 g1 g2 f3 hI h3 h4
  go_enter Tryd.func78, Tryd.ntmps78
  go_upto_region 1 with fail
  rw [HA.out]
  have hT := HS.out.below (bal w1 (.cells #[.int .i64 0, .int .i64 0, .int .i64 0, .int .i64 0, .slice none 0 0] 134))
  have hr := heap_alloc_new w1 (.cells #[.int .i64 0, .int .i64 0, .int .i64 0, .int .i64 0, .slice none 0 0] 134)
  have hz2 : (w1.alloc (.cells #[.int .i64 0, .int .i64 0, .int .i64 0, .int .i64 0, .slice none 0 0] 134)).heap.size = w.heap.size + 2 := by simp [HZA.out]
  rw [HZA.out] at hr
  generalize w1.alloc (.cells #[.int .i64 0, .int .i64 0, .int .i64 0, .int .i64 0, .slice none 0 0] 134) = w2 at hT hr hz2 ⊢
  have HT := hide hT; have HR := hide hr
  clear HS HA HZA hr hT
  obtain ⟨_, ⟨_, _, _, _, _, _, _, _, _, _, _, _, e11⟩, _, _⟩ := HT.out
  dsimp only at e11
  have g0 : w2.cell? ⟨lb, lo + n * 3, none⟩ = some (.int .i64 (sN : Int)) := by rw [bcl HT.out.bel hlb]; exact G0.out
  have g1 : w2.cell? ⟨lb, lo + n * 3 + 1, none⟩ = some (.slice Ai lk.dests.length ci) := by rw [bcl HT.out.bel hlb]; exact G1.out
  have g2 : w2.cell? ⟨lb, lo + n * 3 + 2, none⟩ = some (.int .i64 x.off) := by rw [bcl HT.out.bel hlb]; exact G2.out
  go_upto_region 2 with fail
  have q1 := (HT.out.below (bal w2 (.cells #[.int .i64 (sN : Int), .slice Ai lk.dests.length ci, .int .i64 x.off] 46)))
  have r1 := heap_alloc_new w2 (.cells #[.int .i64 (sN : Int), .slice Ai lk.dests.length ci, .int .i64 x.off] 46)
  have r2 := (heap_alloc_old w2 (.cells #[.int .i64 (sN : Int), .slice Ai lk.dests.length ci, .int .i64 x.off] 46) (by omega)).trans HR.out
  have hz3 : (w2.alloc (.cells #[.int .i64 (sN : Int), .slice Ai lk.dests.length ci, .int .i64 x.off] 46)).heap.size = w.heap.size + 3 := by simp [hz2]
  rw [hz2] at r1
  generalize w2.alloc (.cells #[.int .i64 (sN : Int), .slice Ai lk.dests.length ci, .int .i64 x.off] 46) = w3 at q1 r1 r2 hz3 ⊢
  have Q1 := hide q1; have R1 := hide r1; have R2 := hide r2
  clear q1 r1 r2 HT HR e11 g0 g1 g2 hz2
  obtain ⟨_, ⟨_, _, _, _, _, _, _, _, _, _, _, e10, _⟩, _, _⟩ := Q1.out
  dsimp only at e10
  have f3 : w3.cell? ⟨pb, po + sN * 6 + 3, none⟩ = some (.int .i64 x.siz) := by rw [bcl Q1.out.bel hpb]; exact F3.out
  have s0 : w3.cell? ⟨w.heap.size + 2, 0, none⟩ = some (.int .i64 (sN : Int)) := by rw [cell_of_row _ _ _ _ _ _ R1.out]; rfl
  have s2 : w3.cell? ⟨w.heap.size + 2, 2, none⟩ = some (.int .i64 x.off) := by rw [cell_of_row _ _ _ _ _ _ R1.out]; rfl
  have a0 : ∀ o, (w3.alloc o).cell? ⟨w.heap.size + 2, 0, none⟩ = some (.int .i64 (sN : Int)) := fun o => by rw [bcl (bal w3 o) (by omega)]; exact s0
  have a2 : ∀ o, (w3.alloc o).cell? ⟨w.heap.size + 2, 2, none⟩ = some (.int .i64 x.off) := fun o => by rw [bcl (bal w3 o) (by omega)]; exact s2
  have a10 : ∀ o, (w3.alloc o).cell? ⟨w.heap.size, 10, none⟩ = some (.slice (some ⟨pb, po, none⟩) c.ports.length qC) := fun o => by rw [bcl (bal w3 o) (by omega)]; exact e10
  have a3 : ∀ o, (w3.alloc o).cell? ⟨pb, po + sN * 6 + 3, none⟩ = some (.int .i64 x.siz) := fun o => by rw [bcl (bal w3 o) (by omega)]; exact f3
  go_region
  have hV : LoV w (w3.alloc (.cells #[.int .i64 (n : Int), .int .i64 (sN : Int), .int .i64 x.off, .int .i64 x.siz, .slice none 0 0] 134)).drew c ⟨oA, oC, pA, pC, wA, wC, some ⟨pb, po, none⟩, qC, some ⟨lb, lo, none⟩, lC⟩ Ai ci x lk.dests.length (.slice none 0 0) := by
    have hb4 := bal w3 (.cells #[.int .i64 (n : Int), .int .i64 (sN : Int), .int .i64 x.off, .int .i64 x.siz, .slice none 0 0] 134)
    have hn4 := heap_alloc_new w3 (.cells #[.int .i64 (n : Int), .int .i64 (sN : Int), .int .i64 x.off, .int .i64 x.siz, .slice none 0 0] 134)
    rw [hz3] at hn4
    refine ⟨Q1.out.below (vdrewN hb4 1), ?_, ?_, ?_, ?_⟩
    · rw [HX1.out]; exact (hb4.block _ (by omega)).trans R1.out
    · exact (hb4.block _ (by omega)).trans R2.out
    · rw [HX0.out, HX1.out]; exact hn4
    · show _ ≤ (w3.alloc _).heap.size
      simp [hz3]
  clear a0 a2 a10 a3 s0 s2 f3 e10
  generalize (w3.alloc (.cells #[.int .i64 (n : Int), .int .i64 (sN : Int), .int .i64 x.off, .int .i64 x.siz, .slice none 0 0] 134)).drew = w4 at hV ⊢
  have HV := hide hV
  clear hV Q1 R1 R2 hz3
  have t1 : w4.cell? ⟨w.heap.size + 2, 1, none⟩ = some (.slice Ai lk.dests.length ci) := by rw [cell_of_row _ _ _ _ _ _ HV.out.frm]; rfl
  go_wp2_with fail
  clear t1
  go_loopw [30, 8] (fun i s8 W => ∃ k : Nat, k ≤ lk.dests.length ∧ i = .int .i64 k ∧ ∃ v, LoV w W c ⟨oA, oC, pA, pC, wA, wC, some ⟨pb, po, none⟩, qC, some ⟨lb, lo, none⟩, lC⟩ Ai ci x lk.dests.length v ∧ DsAt W (w.heap.size + 4) v (x.dests.take k)) (fun i _ _ => lk.dests.length - (intOf i).toNat)
  case atStart => exact ⟨0, by omega, rfl, _, HV.out, ⟨rfl, .inl ⟨rfl, rfl⟩⟩⟩
  case round =>
    obtain ⟨k, hk, rfl, v0, hV, hD⟩ := hrel
    clear HV
    have HV := hide hV; have HD := hide hD
    clear hV hD
    by_cases hlt : k < lk.dests.length
    · obtain ⟨ib, io, hiA, hib, ic⟩ := (HI.out.of_below HV.out.cf.bel (Nat.le_refl _)).at hlt
      subst hiA
      have HN := hide (HND.out k hlt)
      have HDS : Hid (x.dests.take (k + 1) = x.dests.take k ++ [(lk.dests.getD k 0, nodeF c (lk.dests.getD k 0))]) := by
        show _ = _
        rw [HX4.out]
        exact map_take _ _ _ hlt 0
      have hdk : (x.dests.take k).length ≤ 1000 := by
        rw [HX4.out]; simp; omega
      generalize lk.dests.getD k 0 = z at *
      generalize nodeF c z = nd at HN HDS
      generalize x.dests.take k = ds at *
      clear HND HI
      go_wp2_with fail
      refine wp_region_factsW (fun _ => True) (loF w c ⟨oA, oC, pA, pC, wA, wC, some ⟨pb, po, none⟩, qC, some ⟨lb, lo, none⟩, lC⟩ (some ⟨ib, io, none⟩) ci lk.dests.length x v0 ds z nd) loT loM ?m0 ?mb loF_sup (by kernel_rfl) (by kernel_rfl) ?com ?ini ?steps ?fin
      case m0 =>
        intro j hj
        have hj' : 11 ≤ j := hj
        unfold loM; rw [if_pos hj']
      case mb =>
        intro j i hi hij
        unfold loM at hi
        split at hi
        · cases hi
        · exact absurd (List.mem_singleton.1 hi) hij
      case com => trivial
      case ini =>
        intro j hj
        have hj' : 11 ≤ j := hj
        match j, hj' with
        | 11, _ => exact ⟨HV.out.below (vdrewN (Below.refl _ _) 1), ow_below HD.out (vdrewN (Below.refl _ _) 1)⟩
        | _ + 12, _ => exact trivial
      case steps =>
        refine AllFrom.cons (step_isW (by kernel_rfl) ?s0) (AllFrom.cons (i := 1) (step_isW (by kernel_rfl) ?s1) (AllFrom.cons (i := 2) (step_isW (by kernel_rfl) ?s2) (AllFrom.cons (i := 3) (step_isW (by kernel_rfl) ?s3) (AllFrom.cons (i := 4) (step_isW (by kernel_rfl) ?s4) (AllFrom.cons (i := 5) (step_fnW (by kernel_rfl) 77 #[.tmp 37, .tmp 38] _ rfl (enters_of Tryd.func77 (by kernel_rfl) rfl) ?s5) (AllFrom.cons (i := 6) (step_isW (by kernel_rfl) ?s6) (AllFrom.cons (i := 7) (step_runW (by kernel_rfl) ?s7) (AllFrom.cons (i := 8) ?s8 (AllFrom.cons (i := 9) (step_isW (by kernel_rfl) ?s9) (AllFrom.cons (i := 10) (step_runW (by kernel_rfl) ?s10) (trivial)))))))))))
        case s0 =>
          intro L vals W ρ hI hi hdep hnew hold hc
          have e6 : ρ (.tmp 6) = .pointer (some ⟨w.heap.size + 3, 0, none⟩) := (hold 6 (by kernel_rfl)).trans (by kernel_rfl)
          refine ⟨.pointer (some ⟨w.heap.size + 3, 4, none⟩), ?_, by simp [loF, upd]⟩
          simp [execOp, e6, go_sem]
        case s1 =>
          intro L vals W ρ hI hi hdep hnew hold hc
          have e34 : ρ (.tmp 34) = .pointer (some ⟨w.heap.size + 3, 4, none⟩) := (hnew 0 34 (dep hdep 0 (by kernel_rfl)) (by kernel_rfl) (of_decide_eq_true (by kernel_rfl)) (of_decide_eq_true (by kernel_rfl))).trans (hI.fact 0 (.inr (dep hdep 0 (by kernel_rfl))) (neverW hI (of_decide_eq_true (by kernel_rfl))))
          obtain ⟨hV, hD⟩ : loF w c ⟨oA, oC, pA, pC, wA, wC, some ⟨pb, po, none⟩, qC, some ⟨lb, lo, none⟩, lC⟩ (some ⟨ib, io, none⟩) ci lk.dests.length x v0 ds z nd 11 vals W := hI.fact 11 (.inl (of_decide_eq_true (by kernel_rfl))) (hI.ahead hi 8 (by kernel_rfl))
          have cl : W.cell? ⟨w.heap.size + 3, 4, none⟩ = some v0 := by rw [cell_of_row _ _ _ _ _ _ hV.lnk]; rfl
          obtain ⟨dA, dc, rfl⟩ := ow_slice hD
          refine ⟨.slice dA ds.length dc, ?_, by simp [loF, upd]⟩
          simp [execOp, e34, cl, go_sem]
        case s2 =>
          intro L vals W ρ hI hi hdep hnew hold hc
          have e8 : ρ (.tmp 8) = .int .i64 z := (hold 8 (by kernel_rfl)).trans (by kernel_rfl)
          refine ⟨.int .i64 z, ?_, by simp [loF, upd]⟩
          simp [execOp, e8, go_sem]
        case s3 =>
          intro L vals W ρ hI hi hdep hnew hold hc
          have p2 : ρ (.tmp 2) = .pointer (some ⟨w.heap.size, 0, none⟩) := (hold 2 (by kernel_rfl)).trans (by kernel_rfl)
          obtain ⟨hV, hD⟩ : loF w c ⟨oA, oC, pA, pC, wA, wC, some ⟨pb, po, none⟩, qC, some ⟨lb, lo, none⟩, lC⟩ (some ⟨ib, io, none⟩) ci lk.dests.length x v0 ds z nd 11 vals W := hI.fact 11 (.inl (of_decide_eq_true (by kernel_rfl))) (hI.ahead (hI.ahead hi 5 (by kernel_rfl)) 8 (by kernel_rfl))
          obtain ⟨_, ⟨_, e0, e1, e2, e3, e4, e5, e6, e7, e8, e9, e10, e11⟩, _, _⟩ := hV.cf
          dsimp only at e0 e1 e2 e3 e4 e5 e6 e7 e8 e9 e10 e11
          refine ⟨c.val ⟨oA, oC, pA, pC, wA, wC, some ⟨pb, po, none⟩, qC, some ⟨lb, lo, none⟩, lC⟩, ?_, rfl⟩
          simp [execOp, p2, e0, e1, e2, e3, e4, e5, e6, e7, e8, e9, e10, e11, HNV.out, go_sem]
        case s4 =>
          intro L vals W ρ hI hi hdep hnew hold hc
          have e8 : ρ (.tmp 8) = .int .i64 z := (hold 8 (by kernel_rfl)).trans (by kernel_rfl)
          refine ⟨.int .i64 z, ?_, by simp [loF, upd]⟩
          simp [execOp, e8, go_sem]
        case s5 =>
          intro L vals W ρ hI hi hdep hnew hold hc
          have e37 : ρ (.tmp 37) = c.val ⟨oA, oC, pA, pC, wA, wC, some ⟨pb, po, none⟩, qC, some ⟨lb, lo, none⟩, lC⟩ := (hnew 3 37 (dep hdep 3 (by kernel_rfl)) (by kernel_rfl) (of_decide_eq_true (by kernel_rfl)) (of_decide_eq_true (by kernel_rfl))).trans (hI.fact 3 (.inr (dep hdep 3 (by kernel_rfl))) (neverW hI (of_decide_eq_true (by kernel_rfl))))
          have e38 : ρ (.tmp 38) = .int .i64 z := (hnew 4 38 (dep hdep 4 (by kernel_rfl)) (by kernel_rfl) (of_decide_eq_true (by kernel_rfl)) (of_decide_eq_true (by kernel_rfl))).trans (hI.fact 4 (.inr (dep hdep 4 (by kernel_rfl))) (neverW hI (of_decide_eq_true (by kernel_rfl))))
          obtain ⟨hV, hD⟩ : loF w c ⟨oA, oC, pA, pC, wA, wC, some ⟨pb, po, none⟩, qC, some ⟨lb, lo, none⟩, lC⟩ (some ⟨ib, io, none⟩) ci lk.dests.length x v0 ds z nd 11 vals W := hI.fact 11 (.inl (of_decide_eq_true (by kernel_rfl))) (hI.ahead hi 8 (by kernel_rfl))
          refine ⟨#[c.val ⟨oA, oC, pA, pC, wA, wC, some ⟨pb, po, none⟩, qC, some ⟨lb, lo, none⟩, lC⟩, .int .i64 z], by simp [e37, e38], (HN.out W hV.cf).mono ?_⟩
          rintro e W' ⟨rfl, hb'⟩
          exact ⟨_, rfl, trivial, by simp [loF, upd], fun j _ _ hj hT => loF_later hb' j vals (hI.fact j hj hT)⟩
        case s6 =>
          intro L vals W ρ hI hi hdep hnew hold hc
          have e36 : ρ (.tmp 36) = .int .i64 z := (hnew 2 36 (dep hdep 2 (by kernel_rfl)) (by kernel_rfl) (of_decide_eq_true (by kernel_rfl)) (of_decide_eq_true (by kernel_rfl))).trans (hI.fact 2 (.inr (dep hdep 2 (by kernel_rfl))) (neverW hI (of_decide_eq_true (by kernel_rfl))))
          have e39 : ρ (.tmp 39) = .int .i64 nd := (hnew 5 39 (dep hdep 5 (by kernel_rfl)) (by kernel_rfl) (of_decide_eq_true (by kernel_rfl)) (of_decide_eq_true (by kernel_rfl))).trans (hI.fact 5 (.inr (dep hdep 5 (by kernel_rfl))) (neverW hI (of_decide_eq_true (by kernel_rfl))))
          refine ⟨.agg #[.int .i64 z, .int .i64 nd], ?_, by simp [loF, upd]⟩
          simp [execOp, e36, e39, go_sem]
        case s7 =>
          intro L vals W ρ hI hi hdep hnew hold hc
          have e40 : ρ (.tmp 40) = .agg #[.int .i64 z, .int .i64 nd] := (hnew 6 40 (dep hdep 6 (by kernel_rfl)) (by kernel_rfl) (of_decide_eq_true (by kernel_rfl)) (of_decide_eq_true (by kernel_rfl))).trans (hI.fact 6 (.inr (dep hdep 6 (by kernel_rfl))) (neverW hI (of_decide_eq_true (by kernel_rfl))))
          have hb' := bal W (.cells #[.int .i64 z, .int .i64 nd] 140)
          refine ⟨.slice (some ⟨W.heap.size, 0, none⟩) 1 1, W.alloc (.cells #[.int .i64 z, .int .i64 nd] 140), .inl ?_, trivial, ⟨W.heap.size, by simp [upd], heap_alloc_new W _⟩, fun j _ _ hj hT => loF_later hb' j vals (hI.fact j hj hT)⟩
          simp [execOp, e40, go_sem]
        case s8 =>
          intro L vals W hI hi hdep
          obtain ⟨q, f7, h7⟩ : loF w c ⟨oA, oC, pA, pC, wA, wC, some ⟨pb, po, none⟩, qC, some ⟨lb, lo, none⟩, lC⟩ (some ⟨ib, io, none⟩) ci lk.dests.length x v0 ds z nd 7 vals W := hI.fact 7 (.inr (dep hdep 7 (by kernel_rfl))) hi
          have f1 : vals 1 = v0 := hI.fact 1 (.inr (dep hdep 1 (by kernel_rfl))) (neverW hI (of_decide_eq_true (by kernel_rfl)))
          obtain ⟨hV, hD⟩ : loF w c ⟨oA, oC, pA, pC, wA, wC, some ⟨pb, po, none⟩, qC, some ⟨lb, lo, none⟩, lC⟩ (some ⟨ib, io, none⟩) ci lk.dests.length x v0 ds z nd 11 vals W := hI.fact 11 (.inl (of_decide_eq_true (by kernel_rfl))) hi
          have hsz := hV.siz
          refine wp_one (.tmp 35) (.tmp 41) 132 rfl 140 _ 2 16 Tryd.underlying132 info_dest rfl (by decide) (by decide) (w.heap.size + 4) v0 ds.length (ds.flatMap dsC) ((ev_get (by kernel_rfl) 1 35 (dep hdep 1 (by kernel_rfl)) (by kernel_rfl) (of_decide_eq_true (by kernel_rfl)) (of_decide_eq_true (by kernel_rfl))).trans f1) hD q 1 [.int .i64 z, .int .i64 nd] ((ev_get (by kernel_rfl) 7 41 (dep hdep 7 (by kernel_rfl)) (by kernel_rfl) (of_decide_eq_true (by kernel_rfl)) (of_decide_eq_true (by kernel_rfl))).trans f7) h7 rfl (by simp [Value.oneCell']) (by omega) (by omega) ?_
          intro v' W' hown hgr _
          refine ⟨v', rfl, trivial, ⟨hV.grown HG.out HC.out hgr fun k hk => (ow_block hD hk).2.1, ?_⟩, fun j hj8 hT8 hj hT => ?_⟩
          · show DsAt W' _ (upd vals 8 v' 8) _
            rw [show upd vals 8 v' 8 = v' from rfl]
            unfold DsAt
            simpa [dsC] using hown
          have hf := hI.fact j hj hT
          match j, hf, hT8, hj8, hT, hj with
          | 0, hf, _, _, _, _ | 1, hf, _, _, _, _ | 2, hf, _, _, _, _ | 3, hf, _, _, _, _ | 4, hf, _, _, _, _ | 5, hf, _, _, _, _ | 6, hf, _, _, _, _ | 9, hf, _, _, _, _ => exact hf
          | 7, _, hT8, _, _, _ | 11, _, hT8, _, _, _ => exact absurd rfl hT8
          | 8, _, _, hj8, _, _ => exact absurd rfl hj8
          | 10, _, _, _, _, hj => exact absurd (hj.resolve_left (by exact of_decide_eq_false (by kernel_rfl))) (by rw [hI.ahead hi 10 (by kernel_rfl)]; simp)
          | _ + 12, _, _, _, _, _ => trivial
        case s9 =>
          intro L vals W ρ hI hi hdep hnew hold hc
          have e6 : ρ (.tmp 6) = .pointer (some ⟨w.heap.size + 3, 0, none⟩) := (hold 6 (by kernel_rfl)).trans (by kernel_rfl)
          refine ⟨.pointer (some ⟨w.heap.size + 3, 4, none⟩), ?_, by simp [loF, upd]⟩
          simp [execOp, e6, go_sem]
        case s10 =>
          intro L vals W ρ hI hi hdep hnew hold hc
          have e43 : ρ (.tmp 43) = .pointer (some ⟨w.heap.size + 3, 4, none⟩) := (hnew 9 43 (dep hdep 9 (by kernel_rfl)) (by kernel_rfl) (of_decide_eq_true (by kernel_rfl)) (of_decide_eq_true (by kernel_rfl))).trans (hI.fact 9 (.inr (dep hdep 9 (by kernel_rfl))) (neverW hI (of_decide_eq_true (by kernel_rfl))))
          obtain ⟨hV, hD⟩ : loF w c ⟨oA, oC, pA, pC, wA, wC, some ⟨pb, po, none⟩, qC, some ⟨lb, lo, none⟩, lC⟩ (some ⟨ib, io, none⟩) ci lk.dests.length x v0 ds z nd 8 vals W := hI.fact 8 (.inr (dep hdep 8 (by kernel_rfl))) hi
          have e42 : ρ (.tmp 42) = vals 8 := hnew 8 42 (dep hdep 8 (by kernel_rfl)) (by kernel_rfl) (of_decide_eq_true (by kernel_rfl)) (of_decide_eq_true (by kernel_rfl))
          have cl : W.cell? ⟨w.heap.size + 3, 4, none⟩ = some v0 := by rw [cell_of_row _ _ _ _ _ _ hV.lnk]; rfl
          have fl : W.frozen? ⟨w.heap.size + 3, 4, none⟩ = false := by unfold World.frozen?; rw [hV.lnk]; rfl
          obtain ⟨dA, dc, hdv⟩ := ow_slice hD
          rw [hdv] at e42 hD
          refine ⟨undef, W.setCell ⟨w.heap.size + 3, 4, none⟩ (.slice dA (ds ++ [(z, nd)]).length dc), .inr ⟨rfl, ?_⟩, trivial, ⟨_, hV.set HG.out HC.out _, ow_stands hD fun j hj => setCell_other (by have := (ow_block hD hj).2.1; omega)⟩, fun j hj10 hT10 hj hT => ?_⟩
          · generalize (ds ++ [(z, nd)]).length = nn at *
            simp [execOp, e43, e42, cl, fl, go_sem]
          have hf := hI.fact j hj hT
          match j, hf, hT10, hj10, hT, hj with
          | 0, hf, _, _, _, _ | 1, hf, _, _, _, _ | 2, hf, _, _, _, _ | 3, hf, _, _, _, _ | 4, hf, _, _, _, _ | 5, hf, _, _, _, _ | 6, hf, _, _, _, _ | 9, hf, _, _, _, _ => exact hf
          | 7, _, _, _, hT, _ | 11, _, _, _, hT, _ => exact absurd (dep hdep 8 (by kernel_rfl)) (by rw [show L.getD 8 false = false from hT]; simp)
          | 8, _, hT10, _, _, _ => exact absurd rfl hT10
          | 10, _, _, hj10, _, _ => exact absurd rfl hj10
          | _ + 12, _, _, _, _, _ => trivial
      case fin =>
        intro vals W _ hF
        obtain ⟨v', hV', hD'⟩ : loF w c ⟨oA, oC, pA, pC, wA, wC, some ⟨pb, po, none⟩, qC, some ⟨lb, lo, none⟩, lC⟩ (some ⟨ib, io, none⟩) ci lk.dests.length x v0 ds z nd 10 vals W := hF 10 (of_decide_eq_true (by kernel_rfl)) (of_decide_eq_true (by kernel_rfl))
        have HV' := hide hV'; have HD' := hide hD'
        clear hV' hD' hF HV HD HN
        simp [canon, dstOf, Act.put]
        go_wp2
        go_roundw
        case rel => exact ⟨k + 1, by omega, by go_num, v', HV'.out, by rw [HDS.out]; exact HD'.out⟩
        case measure => simp [intOf]; omega
    · obtain rfl : k = lk.dests.length := by omega
      have HE : Hid (x.dests.take lk.dests.length = x.dests) := by
        show _ = _
        rw [HX4.out]
        exact List.take_of_length_le (by simp)
      have hD2 : DsAt wr (w.heap.size + 4) v0 x.dests := by have := HD.out; rwa [HE.out] at this
      obtain ⟨dA, dc, hdv⟩ := ow_slice hD2
      obtain ⟨nn, hnn⟩ : ∃ nn, x.dests.length = nn := ⟨_, rfl⟩
      rw [hnn] at hdv
      subst hdv
      have hsz := HV.out.siz
      have r0 : ∀ j u, #[Value.int .i64 x.num, .int .i64 x.src, .int .i64 x.off, .int .i64 x.siz, .slice dA nn dc][j]? = some u → wr.cell? ⟨w.heap.size + 3, j, none⟩ = some u := fun j u hu => by rw [cell_of_row _ _ _ _ _ _ HV.out.lnk]; exact hu
      have l0 := r0 0 _ rfl
      have l1 := r0 1 _ rfl
      have l2 := r0 2 _ rfl
      have l3 := r0 3 _ rfl
      have l4 := r0 4 _ rfl
      have HRES := hide HV.out.res
      have HRF : Hid ((wr.setRow (w.heap.size + 1) #[.int .i64 x.num, .int .i64 x.src, .int .i64 x.off, .int .i64 x.siz, .slice dA nn dc]).heap[w.heap.size + 1]? = some (.cells #[.int .i64 x.num, .int .i64 x.src, .int .i64 x.off, .int .i64 x.siz, .slice dA nn dc] 134 (0, 0))) := setRow_heap _ _ _ _ _ _ HV.out.res
      have HBF : Hid (Below w.heap.size w (wr.setRow (w.heap.size + 1) #[.int .i64 x.num, .int .i64 x.src, .int .i64 x.off, .int .i64 x.siz, .slice dA nn dc])) := below_setRow HV.out.cf.bel (by omega) _
      have HDF : Hid (DsAt (wr.setRow (w.heap.size + 1) #[.int .i64 x.num, .int .i64 x.src, .int .i64 x.off, .int .i64 x.siz, .slice dA nn dc]) w.heap.size (.slice dA nn dc) x.dests) := ow_from (ow_stands hD2 fun j hj => setRow_other _ _ _ _ (by have := (ow_block hD2 hj).2.1; omega)) (by omega)
      clear r0 hD2 HV HD HE HI HX0 HX1 HX2 HX3 HX4 HG HC hnn
      go_wp2_with (refine wpList_store_row rfl 134 (.tmp 4) (.tmp 45) rfl (w.heap.size + 1) #[.int .i64 x.num, .int .i64 x.src, .int .i64 x.off, .int .i64 x.siz, .slice dA nn dc] rfl rfl 134 _ HRES.out info_link1 rfl (by simp [Value.oneCell']) ?_; have HF := HRF; have HD9 := HDF; have HB9 := HBF; generalize wr.setRow (w.heap.size + 1) #[.int .i64 x.num, .int .i64 x.src, .int .i64 x.off, .int .i64 x.siz, .slice dA nn dc] = Wf at HF HD9 HB9 ⊢; clear l0 l1 l2 l3 l4)
      refine bodyPost_ret (results_cell_row (fn := Tryd.f78) rfl _ _ (w.heap.size + 1) _ _ (0, 0) _ rfl HF.out Tryd.underlying134 rfl info_link1) rfl ?_
      exact ⟨_, rfl, HD9.out, HB9.out⟩
end Go.Proofs.YtdfpeilflinmhaaDoor
