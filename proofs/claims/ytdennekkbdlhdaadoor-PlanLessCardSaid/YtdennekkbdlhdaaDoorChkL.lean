/-
  What the program asks of partitions: the append of one span, and the loop.
-/
import Derived.Test.YtdennekkbdlhdaaDoorMD
import Derived.Deep.RegionHeld3
import Derived.StillTailTactics
import Derived.Deep.LoopGhost
import Derived.Deep.DeepCutAuto
import Derived.Deep.CutBlock
namespace Go.Proofs.YtdennekkbdlhdaaDoor
open Go.RowKit Go.Deep
set_option linter.unusedVariables false
set_option linter.unusedSimpArgs false

theorem info_span : (Tryd.prog.info? 78).map (fun i => (i.zero, i.size, i.bytes)) = some (some (.agg #[.int .i64 0, .int .i64 0]), 2, 16) := by kernel_rfl
theorem cell_of_row (w : World) (b k : Nat) (cs : Array Value) (e : TypeId) (fz : Nat × Nat) (h : w.heap[b]? = some (.cells cs e fz)) : w.cell? ⟨b, k, none⟩ = cs[k]? := by simp [World.cell?, h]
/-- append: the row lies where it lay, or in a new block -/
theorem app_where {w : World} (base : Nat) (t ty e : TypeId) (i : TypeInfo) (z : Value) (size : Nat) (ht : Tryd.prog.underlying t = some (.slice e)) (hi : Tryd.prog.info? e = some i) (hz : i.zero = some z) (hsize : i.size = size)
    (v : Value) (n : Nat) (xs : List Value) (hown : w.ownsRow base e size v n xs) (a : Addr) (m c : Nat) (news : List Value) (hl : news.length = m * size) (hnews : ∀ j u, news[j]? = some u → w.cell? (a.add j) = some u) (h1 : ∀ u ∈ news, u.oneCell' = true)
    (hm : 0 < m) (h63 : n + m ≤ maxLen) (hbytes : (n + m) * i.bytes ≤ 140737488355328) {v' : Value} {w' : World} (hr : (Builtin.append_ #[t, t] ty #[v, .slice (some a) m c]).run Tryd.prog w = .ok v' w') :
    v'.ownBlock = v.ownBlock ∨ ∀ k, v'.ownBlock = some k → w.heap.size ≤ k := by
  subst hsize
  unfold maxLen at h63
  rcases hown.2 with ⟨rfl, rfl⟩ | ⟨g, cap, cur, rfl, hbg, hg, hnc, hcm, hcs, htake⟩
  · have h := run_append_nil (P := Tryd.prog) w t ty e i z ht hi hz a m c news hl hnews hm (by omega) (by rw [Nat.zero_add] at hbytes; omega)
    rw [h] at hr
    injection hr with hr _
    subst hr
    refine .inr fun k hk => ?_
    simp only [Value.ownBlock, Option.some.injEq] at hk
    omega
  · by_cases hroom : n + m ≤ cap
    · have h := run_append_room (P := Tryd.prog) w t ty e i ht hi g n cap cur hg a m c news hl hnews h1 hroom (by rw [hl, hcs, ← Nat.add_mul]; exact Nat.mul_le_mul_right _ hroom)
      rw [h] at hr
      injection hr with hr _
      subst hr
      exact .inl rfl
    · have h := run_append_grow (P := Tryd.prog) w t ty e i z ht hi hz ⟨g, 0, none⟩ n cap xs hown.1 (hown.cells (g := g) rfl) a m c news hl hnews (by omega) (by omega) (growslice_fits (by omega) hbytes)
      rw [h] at hr
      injection hr with hr _
      subst hr
      refine .inr fun k hk => ?_
      simp only [Value.ownBlock, Option.some.injEq] at hk
      omega
/-- append of one span -/
theorem wp_app_span {o : Oper} {a : Act} {w : World} {K : Act → World → Prop} {Q : Exit → Act → World → Prop} (s x : Operand)
    (ho : o.op = .call { callee := .builtin .append, args := #[s, x], argTypes := #[74, 74] })
    (base : Nat) (h : Value) (n : Nat) (xs : List Value) (hs : a.eval s = h) (hown : w.ownsRow base 78 2 h n xs) (q : Nat) (c : Nat) (u v : Value) (hx : a.eval x = .slice (some ⟨q, 0, none⟩) 1 c)
    (hq : w.heap[q]? = some (.cells #[u, v] 78 (0, 0))) (hu : u.oneCell' = true) (hv : v.oneCell' = true) (hn : n ≤ 100000) (hbase : base ≤ w.heap.size)
    (hk : ∀ h' w', w'.ownsRow base 78 2 h' (n + 1) (xs ++ [u, v]) → w.grownBy w' h.ownBlock → (h'.ownBlock = h.ownBlock ∨ ∀ k, h'.ownBlock = some k → w.heap.size ≤ k) → K (a.put o.dst h') w') : o.wp Tryd.prog a w K Q := by
  have hi3 := info_span
  rcases hi : Tryd.prog.info? 78 with _ | i
  · rw [hi] at hi3; cases hi3
  rw [hi] at hi3
  simp only [Option.map_some, Option.some.injEq, Prod.mk.injEq] at hi3
  obtain ⟨hz, hs2, hb⟩ := hi3
  have hnews : ∀ j y, [u, v][j]? = some y → w.cell? ((⟨q, 0, none⟩ : Addr).add j) = some y := by
    intro j y hy
    rcases j with _ | _ | j
    · rw [plain_add, cell_of_row _ _ _ _ _ _ hq]; simpa using hy
    · rw [plain_add, cell_of_row _ _ _ _ _ _ hq]; simpa using hy
    · simp at hy
  have hone : ∀ y ∈ [u, v], y.oneCell' = true := by
    intro y hy
    simp only [List.mem_cons, List.not_mem_nil, or_false] at hy
    rcases hy with rfl | rfl
    · exact hu
    · exact hv
  obtain ⟨v', w', hr, h2, h3, _⟩ := run_append_own (P := Tryd.prog) w base 74 o.type 78 i _ 2 16 Tryd.underlying74 hi hz hs2 hb rfl (by omega) h n xs hown ⟨q, 0, none⟩ 1 c [u, v] rfl hnews hone (by simp only [maxLen]; omega) (by omega) hbase
  have h4 := app_where base 74 o.type 78 i _ 2 Tryd.underlying74 hi hz hs2 h n xs hown ⟨q, 0, none⟩ 1 c [u, v] rfl hnews hone (by omega) (by simp only [maxLen]; omega) (by rw [hb]; omega) hr
  unfold Oper.wp execOp
  simp only [ho, resolve, invoke, builtin, Sem.run_bind, Sem.run_pure, Result.andThen_ok, List.map_toArray, List.map_cons, List.map_nil, hs, hx, hr]
  exact hk v' w' h2 h3 h4

theorem meetL_iff (l : List Sp) : MeetL l ↔ ¬ l.Pairwise fun a b => meetS a b = false := by
  rw [List.pairwise_iff_getElem]
  constructor
  · rintro ⟨i, j, h1, h2, h3⟩ h
    have := h j i (by omega) h2 h1
    rw [List.getD_eq_getElem?_getD, List.getD_eq_getElem?_getD, List.getElem?_eq_getElem h2, List.getElem?_eq_getElem (by omega : j < l.length)] at h3
    simp only [Option.getD_some] at h3
    rw [this] at h3
    cases h3
  · intro h
    refine Classical.byContradiction fun hn => h fun j i hj hi hji => ?_
    cases hm : meetS l[j] l[i] with
    | false => rfl
    | true =>
      refine absurd ⟨i, j, hji, hi, ?_⟩ hn
      rw [List.getD_eq_getElem?_getD, List.getD_eq_getElem?_getD, List.getElem?_eq_getElem hi, List.getElem?_eq_getElem hj]
      exact hm

def spOf (p : Pt) : Sp := ⟨p.lo, p.hi⟩
/-- whose spans, of some partitions, lie in which list -/
def regsOf (n : Nat) (l : List Pt) : List (List Sp) := (List.range n).map fun (k : Nat) => (l.filter fun p => decide (p.node = (k : Int))).map spOf
theorem regs_len (n : Nat) (l : List Pt) : (regsOf n l).length = n := by simp [regsOf]
theorem regs_at (n : Nat) (l : List Pt) (k : Nat) (hk : k < n) : (regsOf n l).getD k [] = (l.filter fun p => decide (p.node = (k : Int))).map spOf := by
  simp [regsOf, List.getD_eq_getElem?_getD, hk]
theorem regs_snoc (n : Nat) (l : List Pt) (p : Pt) (k : Nat) (hk : k < n) (hp : p.node = (k : Int)) : regsOf n (l ++ [p]) = (regsOf n l).set k ((regsOf n l).getD k [] ++ [spOf p]) := by
  apply List.ext_getElem?
  intro j
  rw [List.getElem?_set, regs_len, regs_at n l k hk]
  by_cases hj : j < n
  · simp only [regsOf, List.getElem?_map, List.getElem?_range hj, Option.map_some, List.filter_append, List.map_append]
    by_cases e : k = j
    · subst e
      simp [hp, hk]
    · rw [if_neg e]
      have : ¬ p.node = (j : Int) := by rw [hp]; omega
      simp [this]
  · rw [List.getElem?_eq_none (by rw [regs_len]; omega)]
    by_cases e : k = j
    · omega
    · rw [if_neg e, List.getElem?_eq_none (by rw [regs_len]; omega)]
/-- no two of one node meet -/
def ApartP (l : List Pt) : Prop := l.Pairwise fun p q => p.node = q.node → meetS (spOf p) (spOf q) = false
theorem regs_meet (n : Nat) (l : List Pt) (h : ∀ p ∈ l, 0 ≤ p.node ∧ p.node < (n : Int)) : (∃ x ∈ regsOf n l, MeetL x) ↔ ¬ ApartP l := by
  constructor
  · rintro ⟨x, hx, hm⟩ ha
    rw [meetL_iff] at hm
    obtain ⟨k, hk, rfl⟩ := List.mem_map.1 hx
    refine hm ?_
    rw [List.pairwise_map, List.pairwise_filter]
    refine List.Pairwise.imp ?_ ha
    intro p q hpq h1 h2
    exact hpq ((of_decide_eq_true h1).trans (of_decide_eq_true h2).symm)
  · intro hn
    refine Classical.byContradiction fun hno => hn ?_
    unfold ApartP
    rw [List.pairwise_iff_getElem]
    intro i j hi hj hij he
    obtain ⟨a, b⟩ := h l[j] (List.getElem_mem hj)
    obtain ⟨k, hk⟩ := Int.eq_ofNat_of_zero_le a
    have hkn : k < n := by omega
    have hmem : ((l.filter fun p => decide (p.node = (k : Int))).map spOf) ∈ regsOf n l := List.mem_map.2 ⟨k, List.mem_range.2 hkn, rfl⟩
    have hx : ¬ MeetL ((l.filter fun p => decide (p.node = (k : Int))).map spOf) := fun hm => hno ⟨_, hmem, hm⟩
    rw [meetL_iff, Classical.not_not, List.pairwise_map, List.pairwise_filter, List.pairwise_iff_getElem] at hx
    exact hx i j hi hj hij (decide_eq_true (he.trans hk)) (decide_eq_true hk)

theorem info_rowL : (Tryd.prog.info? 74).map (fun i => (i.zero, i.size, i.bytes)) = some (some (.slice none 0 0), 1, 24) := by kernel_rfl
theorem make_rowsL (n : Nat) (hn : n ≤ 16) (W : World) : (Instr.makeSlice 69 (.int .i64 (n : Int)) (.int .i64 (n : Int))).run Tryd.prog W = .ok (.slice (some ⟨W.heap.size, 0, none⟩) n n) (W.alloc (.cells (List.replicate n (.slice none 0 0)).toArray 74)) := by
  have hi3 := info_rowL
  rcases hi : Tryd.prog.info? 74 with _ | i
  · rw [hi] at hi3; cases hi3
  rw [hi] at hi3
  simp only [Option.map_some, Option.some.injEq, Prod.mk.injEq] at hi3
  obtain ⟨hz, hs2, hb⟩ := hi3
  have hm := run_make (P := Tryd.prog) W 69 74 i (.slice none 0 0) Tryd.underlying69 hi hz .i64 .i64 (n : Int) (n : Int) (by omega) (by omega) (by rw [hb]; omega) (by omega)
  rw [hm]
  have e : madeCells (Value.slice none 0 0).cells n = (List.replicate n (Value.slice none 0 0)).toArray := by
    apply Array.ext_getElem?
    intro j
    by_cases hj : j < n
    · simp [madeCells, Value.cells, hj, Nat.mod_one]
    · simp [madeCells, hj]
  simp [hs2, e]
theorem rows_new (n : Nat) (W : World) : RowsS (W.alloc (.cells (List.replicate n (.slice none 0 0)).toArray 74)) (W.heap.size + 1) W.heap.size (List.replicate n (.slice none 0 0)) (regsOf n []) := by
  have hv : ∀ i, i < n → (List.replicate n (Value.slice none 0 0)).getD i undef = .slice none 0 0 := fun i hi => by simp [List.getD_eq_getElem?_getD, hi]
  refine ⟨heap_alloc_new W _, by simp [regs_len], fun i hi => ?_, fun i j hi hj _ g h1 => ?_, by omega⟩
  · rw [regs_len] at hi
    rw [hv i hi, regs_at n [] i hi]
    exact ⟨rfl, .inl ⟨rfl, rfl⟩⟩
  · rw [regs_len] at hi
    rw [hv i hi] at h1
    cases h1
theorem RowsS.app {W W1 : World} {base rb : Nat} {vs : List Value} {L : List (List Sp)} (h : RowsS W base rb vs L) {i : Nat} (hi : i < L.length) (lo hj : Int) {h' : Value}
    (ho : W1.ownsRow base 78 2 h' ((L.getD i []).length + 1) (spCells (L.getD i []) ++ [.int .i64 lo, .int .i64 hj])) (hg : W.grownBy W1 (vs.getD i undef).ownBlock)
    (hp : h'.ownBlock = (vs.getD i undef).ownBlock ∨ ∀ k, h'.ownBlock = some k → W.heap.size ≤ k) : RowsS (W1.setCell ⟨rb, i, none⟩ h') base rb (vs.set i h') (L.set i (L.getD i [] ++ [⟨lo, hj⟩])) := by
  refine h.add hi ⟨lo, hj⟩ ?_ hg (fun g e => hp.elim (fun q => .inl (q ▸ e)) (fun q => .inr (q g e)))
  unfold RowV
  rw [List.length_append, show spCells (L.getD i [] ++ [⟨lo, hj⟩]) = spCells (L.getD i []) ++ [.int .i64 lo, .int .i64 hj] from by simp [spCells]]
  exact ho
theorem CfS.wrote {w W W1 : World} {c : Conf} {d : Ad} (h0 : Glo w) (h1 : ConfAt w c d) (h : CfS w W c d) {row : Option Nat} (hg : W.grownBy W1 row) (hr : ∀ k, row = some k → w.heap.size + 1 < k) (hW : w.heap.size + 1 ≤ W.heap.size) (i : Nat) (v : Value) :
    CfS w (W1.setCell ⟨w.heap.size + 1, i, none⟩ v) c d := by
  have hbel : Below w.heap.size w (W1.setCell ⟨w.heap.size + 1, i, none⟩ v) := (h.bel.grown hg h.bel.size (fun k e => by have := hr k e; omega)).setCell (by show _ ≤ _ + 1; omega) v
  have hb2 : Below (w.heap.size + 1) W (W1.setCell ⟨w.heap.size + 1, i, none⟩ v) := ((Below.refl (w.heap.size + 1) W).grown hg hW (fun k e => by have := hr k e; omega)).setCell (Nat.le_refl _) v
  have hk : ∀ (o : Nat) (u : Value), W.cell? ⟨w.heap.size, o, none⟩ = some u → (W1.setCell ⟨w.heap.size + 1, i, none⟩ v).cell? ⟨w.heap.size, o, none⟩ = some u := fun o u e => (hb2.cell (show w.heap.size < w.heap.size + 1 by omega)).trans e
  exact ⟨hbel, ⟨Nat.lt_of_lt_of_le h.x.lt hb2.size, hk _ _ h.x.c0, hk _ _ h.x.c1, hk _ _ h.x.c2, hk _ _ h.x.c3, hk _ _ h.x.c4, hk _ _ h.x.c5, hk _ _ h.x.c6, hk _ _ h.x.c7, hk _ _ h.x.c8, hk _ _ h.x.c9, hk _ _ h.x.c10, hk _ _ h.x.c11⟩,
    h0.below hbel (Nat.le_refl _), h1.of_below hbel (Nat.le_refl _)⟩

/-- the row on partitions -/
def PartsK (c : Conf) : Prop := c.parts.length ≤ 32 ∧ (∀ k, k < c.parts.length → (0 ≤ (c.parts.getD k default).node ∧ (c.parts.getD k default).node < c.nodes) ∧ 0 ≤ (c.parts.getD k default).lo ∧ (c.parts.getD k default).lo ≤ (c.parts.getD k default).hi ∧ (c.parts.getD k default).hi ≤ 256) ∧ ApartP c.parts
noncomputable instance (c : Conf) : Decidable (PartsK c) := Classical.propDecidable _

set_option maxRecDepth 100000 in
set_option maxHeartbeats 8000000 in
theorem parts_any (c : Conf) (d : Ad) (w : World) (hg : Glo w) (h : ConfAt w c d) (n : Nat) (hn : c.nodes = (n : Int)) (hn2 : n ≤ 16) :
    Calls Tryd.prog 32 #[c.val d] w fun e w' => ∃ v : Bool, e = .returned (.bool v) ∧ (v = true ↔ PartsK c) ∧ Below w.heap.size w w' := by
  have hS := CfS.first 34 hg h
  have HG0 := hide hg
  have HC0 := hide h
  clear hg h
  obtain ⟨oA, oC, pA, pC, wA, wC, qA, qC, lA, lC⟩ := d
  obtain ⟨nodes, owners, drift, reading, margin, bound, rejoin, quota, parts, windows, ports, links⟩ := c
  dsimp only at hn
  subst hn
  unfold Conf.val
  unfold Conf.cells at hS
  dsimp only at hS ⊢
  have hmk : ∀ W : World, (Instr.makeSlice 69 (.int .i64 (n : Int)) (.int .i64 (n : Int))).run Tryd.prog W = .ok (.slice (some ⟨W.heap.size, 0, none⟩) n n) (W.alloc (.cells (List.replicate n (.slice none 0 0)).toArray 74)) := fun W => make_rowsL n hn2 W
  go_enter Tryd.func32, Tryd.ntmps32
  by_cases hlen : parts.length ≤ 32
  · have hlen2 : ((parts.length : Nat) : Int) ≤ 32 := by omega
    obtain ⟨hb, ⟨hl, e0, e1, e2, e3, e4, e5, e6, e7, e8, e9, e10, e11⟩, hg, hc⟩ := id hS
    dsimp only at e0 e1 e2 e3 e4 e5 e6 e7 e8 e9 e10 e11
    have HS := hide hS
    clear hS hg hc
    have hR0 := rows_new n (w.alloc (.cells #[.int .i64 (n : Int), .slice oA owners.length oC, .int .i64 drift, .int .i64 reading, .int .i64 margin, .int .i64 bound, .int .i64 rejoin, .int .i64 quota, .slice pA parts.length pC, .slice wA windows.length wC, .slice qA ports.length qC, .slice lA links.length lC] 34))
    rw [show (w.alloc (.cells #[.int .i64 (n : Int), .slice oA owners.length oC, .int .i64 drift, .int .i64 reading, .int .i64 margin, .int .i64 bound, .int .i64 rejoin, .int .i64 quota, .slice pA parts.length pC, .slice wA windows.length wC, .slice qA ports.length qC, .slice lA links.length lC] 34)).heap.size = w.heap.size + 1 from Array.size_push _] at hR0
    have HR0 := hide hR0
    have HS1 := hide (HS.out.below ((Below.refl _ _).alloc (Nat.le_refl _) (.cells (List.replicate n (.slice none 0 0)).toArray 74)))
    clear hR0
    go_upto_region 5 with fail
    clear hb hl e0 e1 e2 e3 e4 e5 e6 e7 e8 e9 e10 e11
    go_loopw [16] (fun i W => ∃ (k : Nat) (vs : List Value), k ≤ parts.length ∧ i = .int .i64 k ∧ CfS w W ⟨(n : Int), owners, drift, reading, margin, bound, rejoin, quota, parts, windows, ports, links⟩ ⟨oA, oC, pA, pC, wA, wC, qA, qC, lA, lC⟩ ∧ RowsS W (w.heap.size + 2) (w.heap.size + 1) vs (regsOf n (parts.take k)) ∧ Hid (∀ j, j < k → (0 ≤ (parts.getD j default).node ∧ (parts.getD j default).node < (n : Int)) ∧ 0 ≤ (parts.getD j default).lo ∧ (parts.getD j default).lo ≤ (parts.getD j default).hi ∧ (parts.getD j default).hi ≤ 256)) (fun i _ => parts.length - (intOf i).toNat)
    case atStart => exact ⟨0, _, by omega, rfl, HS1.out, HR0.out, fun j hj => by omega⟩
    case round =>
      obtain ⟨k, vs, hk, rfl, hT, hR, H⟩ := hrel
      obtain ⟨hb, ⟨hl, e0, e1, e2, e3, e4, e5, e6, e7, e8, e9, e10, e11⟩, hg, hc⟩ := id hT
      dsimp only at e0 e1 e2 e3 e4 e5 e6 e7 e8 e9 e10 e11
      by_cases hlt : k < parts.length
      · obtain ⟨pb, po, hA, hpb, f0, f1, f2⟩ := hc.parts.at hlt
        dsimp only at hA
        subst hA
        obtain ⟨⟨node, lo, hi⟩, hp⟩ : ∃ p, parts.getD k default = p := ⟨_, rfl⟩
        dsimp only at f0 f1 f2
        rw [hp] at f0 f1 f2
        dsimp only at f0 f1 f2
        have HP := hide hp
        have HRR := hide hR
        have HC := hide hc
        have HT := hide hT
        have HF : Hid (¬ ((0 ≤ node ∧ node < (n : Int)) ∧ 0 ≤ lo ∧ lo ≤ hi ∧ hi ≤ 256) → ¬ PartsK ⟨(n : Int), owners, drift, reading, margin, bound, rejoin, quota, parts, windows, ports, links⟩) := fun g a => g (by
          have a1 := a.2.1 k hlt
          dsimp only at a1
          rw [hp] at a1
          exact a1)
        clear hp hR hc hg hT
        have hbx := (Below.refl wr.heap.size wr).alloc (Nat.le_refl _) (.cells #[.int .i64 node, .int .i64 lo, .int .i64 hi] 47)
        have HB1 := hide (HT.out.bel.trans (hbx.mono HT.out.bel.size))
        clear hbx
        by_cases hno : ofB node n = true
        · have hq := hide hno
          have hn3 := hno
          simp only [ofB, Bool.and_eq_true, decide_eq_true_eq] at hn3
          obtain ⟨u1, u2⟩ := hn3
          by_cases h1 : 0 ≤ lo
          · by_cases h2 : lo ≤ hi
            · by_cases h3 : hi ≤ 256
              · obtain ⟨nd, rfl⟩ := Int.eq_ofNat_of_zero_le u1
                have hnd : nd < n := by omega
                clear hno
                have hbx := (Below.refl wr.heap.size wr).alloc (Nat.le_refl _) (.cells #[.int .i64 (nd : Int), .int .i64 lo, .int .i64 hi] 47)
                have HR9 := hide (HRR.out.below hbx)
                have hp9 : (wr.alloc (.cells #[.int .i64 (nd : Int), .int .i64 lo, .int .i64 hi] 47)).heap[wr.heap.size]? = some (.cells #[.int .i64 (nd : Int), .int .i64 lo, .int .i64 hi] 47 (0, 0)) := heap_alloc_new wr _
                have HT9 := hide (HT.out.below hbx)
                clear hbx
                go_upto_region 9 with (go_at_call 45; refine (of_spans _ _ _ _ _).mono ?_; rintro e w1 ⟨rfl, rfl⟩; rw [hq.out])
                generalize wr.alloc (.cells #[.int .i64 (nd : Int), .int .i64 lo, .int .i64 hi] 47) = W9 at HR9 hp9 HT9 HB1 ⊢
                refine wp_region_held_drew (S := fun w' => w'.cell? ⟨wr.heap.size, 0, none⟩ = some (.int .i64 (nd : Int)) ∧ w'.cell? ⟨wr.heap.size, 1, none⟩ = some (.int .i64 lo) ∧ w'.cell? ⟨wr.heap.size, 2, none⟩ = some (.int .i64 hi)) (by kernel_rfl) (?hS9) (fun hHeld => ?_)
                case hS9 => exact ⟨by rw [cell_of_row _ _ _ _ _ _ (show W9.drew.heap[wr.heap.size]? = _ from hp9)]; rfl, by rw [cell_of_row _ _ _ _ _ _ (show W9.drew.heap[wr.heap.size]? = _ from hp9)]; rfl, by rw [cell_of_row _ _ _ _ _ _ (show W9.drew.heap[wr.heap.size]? = _ from hp9)]; rfl⟩
                have HRD := hide (show RowsS W9.drew (w.heap.size + 2) (w.heap.size + 1) vs (regsOf n (parts.take k)) from HR9.out.below (Below.refl _ _).drew)
                have HTD := hide (show CfS w W9.drew ⟨(n : Int), owners, drift, reading, margin, bound, rejoin, quota, parts, windows, ports, links⟩ ⟨oA, oC, some ⟨pb, po, none⟩, pC, wA, wC, qA, qC, lA, lC⟩ from HT9.out.below (Below.refl _ _).drew)
                have hpd : W9.drew.heap[wr.heap.size]? = some (.cells #[.int .i64 (nd : Int), .int .i64 lo, .int .i64 hi] 47 (0, 0)) := hp9
                clear hp9 HR9 HT9
                generalize W9.drew = WD at HRD HTD hpd hHeld ⊢
                obtain ⟨rc, rf⟩ := HRD.out.cell (i := nd) (by rw [regs_len]; exact hnd)
                refine wpAnyH_take (i := 0) (v := ?v801_0) rfl (by kernel_rfl) (by kernel_rfl) (by kernel_rfl) (fun _ _ _ h => h) (Or.inl ⟨by kernel_rfl, ?y801_0⟩) (by assumption) ?r801_0
                case y801_0 => (intro W hSW; (try dsimp only at hSW); go_simp; (try with_reducible rfl))
                change wpAnyH _ _ _ _ _ _ _ (Act.put _ (some 42) _) _
                (try simp only [Act.put, List.setIfInBounds_toArray, List.set_cons_zero, List.set_cons_succ])
                refine wpAnyH_take (i := 1) (v := ?v801_1) rfl (by kernel_rfl) (by kernel_rfl) (by kernel_rfl) (fun _ _ _ h => h) (Or.inl ⟨by kernel_rfl, ?y801_1⟩) (by assumption) ?r801_1
                case y801_1 => (intro W hSW; (try dsimp only at hSW); go_simp; (try with_reducible rfl))
                change wpAnyH _ _ _ _ _ _ _ (Act.put _ (some 43) _) _
                (try simp only [Act.put, List.setIfInBounds_toArray, List.set_cons_zero, List.set_cons_succ])
                refine wpAnyH_take (i := 2) (v := ?v801_2) rfl (by kernel_rfl) (by kernel_rfl) (by kernel_rfl) (fun _ _ _ h => h) (Or.inl ⟨by kernel_rfl, ?y801_2⟩) (by assumption) ?r801_2
                case y801_2 => (intro W hSW; (try dsimp only at hSW); go_simp; (try with_reducible rfl))
                change wpAnyH _ _ _ _ _ _ _ (Act.put _ (some 44) _) _
                (try simp only [Act.put, List.setIfInBounds_toArray, List.set_cons_zero, List.set_cons_succ])
                refine wpAnyH_take (i := 3) (v := ?v801_3) rfl (by kernel_rfl) (by kernel_rfl) (by kernel_rfl) (fun _ _ _ h => h) (Or.inl ⟨by kernel_rfl, ?y801_3⟩) (by assumption) ?r801_3
                case y801_3 => (intro W hSW; (try dsimp only at hSW); go_simp; (try with_reducible rfl))
                change wpAnyH _ _ _ _ _ _ _ (Act.put _ (some 45) _) _
                (try simp only [Act.put, List.setIfInBounds_toArray, List.set_cons_zero, List.set_cons_succ])
                refine wpAnyH_take (i := 4) (v := ?v801_4) rfl (by kernel_rfl) (by kernel_rfl) (by kernel_rfl) (fun _ _ _ h => h) (Or.inl ⟨by kernel_rfl, ?y801_4⟩) (by assumption) ?r801_4
                case y801_4 => (intro W hSW; (try dsimp only at hSW); go_simp; (try with_reducible rfl))
                change wpAnyH _ _ _ _ _ _ _ (Act.put _ (some 46) _) _
                (try simp only [Act.put, List.setIfInBounds_toArray, List.set_cons_zero, List.set_cons_succ])
                refine wpAnyH_take (i := 5) (v := ?v801_5) rfl (by kernel_rfl) (by kernel_rfl) (by kernel_rfl) (fun _ _ _ h => h) (Or.inl ⟨by kernel_rfl, ?y801_5⟩) (by assumption) ?r801_5
                case y801_5 => (intro W hSW; (try dsimp only at hSW); go_simp; (try with_reducible rfl))
                change wpAnyH _ _ _ _ _ _ _ (Act.put _ (some 47) _) _
                (try simp only [Act.put, List.setIfInBounds_toArray, List.set_cons_zero, List.set_cons_succ])
                refine wpAnyH_take (i := 6) (v := ?v801_6) rfl (by kernel_rfl) (by kernel_rfl) (by kernel_rfl) (fun _ _ _ h => h) (Or.inl ⟨by kernel_rfl, ?y801_6⟩) (by assumption) ?r801_6
                case y801_6 => (intro W hSW; (try dsimp only at hSW); go_simp; (try with_reducible rfl))
                change wpAnyH _ _ _ _ _ _ _ (Act.put _ (some 48) _) _
                (try simp only [Act.put, List.setIfInBounds_toArray, List.set_cons_zero, List.set_cons_succ])
                refine wpAnyH_take (i := 8) (v := ?v801_8) rfl (by kernel_rfl) (by kernel_rfl) (by kernel_rfl) (fun _ _ _ h => h) (Or.inl ⟨by kernel_rfl, ?y801_8⟩) (by assumption) ?r801_8
                case y801_8 => (intro W hSW; (try dsimp only at hSW); go_simp; (try with_reducible rfl))
                change wpAnyH _ _ _ _ _ _ _ (Act.put _ (some 50) _) _
                (try simp only [Act.put, List.setIfInBounds_toArray, List.set_cons_zero, List.set_cons_succ])
                refine wpAnyH_take (i := 9) (v := ?v801_9) rfl (by kernel_rfl) (by kernel_rfl) (by kernel_rfl) (fun _ _ _ h => h) (Or.inl ⟨by kernel_rfl, ?y801_9⟩) (by assumption) ?r801_9
                case y801_9 => (intro W hSW; (try dsimp only at hSW); go_simp; (try with_reducible rfl))
                change wpAnyH _ _ _ _ _ _ _ (Act.put _ (some 51) _) _
                (try simp only [Act.put, List.setIfInBounds_toArray, List.set_cons_zero, List.set_cons_succ])
                refine wpAnyH_take (i := 10) (v := ?v801_10) rfl (by kernel_rfl) (by kernel_rfl) (by kernel_rfl) (fun _ _ _ h => h) (Or.inl ⟨by kernel_rfl, ?y801_10⟩) (by assumption) ?r801_10
                case y801_10 => (intro W hSW; (try dsimp only at hSW); go_simp; (try with_reducible rfl))
                change wpAnyH _ _ _ _ _ _ _ (Act.put _ (some 52) _) _
                (try simp only [Act.put, List.setIfInBounds_toArray, List.set_cons_zero, List.set_cons_succ])
                refine wpAnyH_take (i := 11) (v := ?v801_11) rfl (by kernel_rfl) (by kernel_rfl) (by kernel_rfl) (fun _ _ _ h => h) (Or.inl ⟨by kernel_rfl, ?y801_11⟩) (by assumption) ?r801_11
                case y801_11 => (intro W hSW; (try dsimp only at hSW); go_simp; (try with_reducible rfl))
                change wpAnyH _ _ _ _ _ _ _ (Act.put _ (some 53) _) _
                (try simp only [Act.put, List.setIfInBounds_toArray, List.set_cons_zero, List.set_cons_succ])
                refine wpAnyH_take (i := 12) (v := ?v801_12) rfl (by kernel_rfl) (by kernel_rfl) (by kernel_rfl) (fun _ _ _ h => h) (Or.inl ⟨by kernel_rfl, ?y801_12⟩) (by assumption) ?r801_12
                case y801_12 => (intro W hSW; (try dsimp only at hSW); go_simp; (try with_reducible rfl))
                change wpAnyH _ _ _ _ _ _ _ (Act.put _ (some 54) _) _
                (try simp only [Act.put, List.setIfInBounds_toArray, List.set_cons_zero, List.set_cons_succ])
                have hplt : wr.heap.size < WD.heap.size := (Array.getElem?_eq_some_iff.1 hpd).1
                have ha := bal WD (.cells #[.int .i64 lo, .int .i64 hi] 78)
                have hp13 := (ha.block _ hplt).trans hpd
                have HR13 := hide (HRD.out.below ha)
                have HLN : Hid (((regsOf n (parts.take k)).getD nd []).length ≤ 100000) := by
                  rw [regs_at _ _ _ hnd]
                  have h1 := List.length_filter_le (fun p : Pt => decide (p.node = (nd : Int))) (parts.take k)
                  have h2 : (parts.take k).length ≤ parts.length := by rw [List.length_take]; omega
                  show _ ≤ _
                  rw [List.length_map]
                  omega
                have HBS : Hid (w.heap.size + 2 ≤ (WD.alloc (.cells #[.int .i64 lo, .int .i64 hi] 78)).heap.size) := by
                  have h1 := (Array.getElem?_eq_some_iff.1 HRD.out.blk).1
                  have h2 := alloc_lt WD (.cells #[.int .i64 lo, .int .i64 hi] 78)
                  show _ ≤ _
                  omega
                have HNE : Hid (∀ {cs : Array Value} {t : TypeId} (g : Nat), (WD.alloc (.cells #[.int .i64 lo, .int .i64 hi] 78)).heap[g]? = some (.cells cs t (0, 0)) → t ≠ 78 → some g ≠ (vs.getD nd undef).ownBlock) := by
                  intro cs t g hg ht e
                  obtain ⟨_, cur, h2⟩ := (HR13.out.own nd (by rw [regs_len]; exact hnd)).blk e.symm
                  rw [hg] at h2
                  injection h2 with h2
                  injection h2 with _ h2 _
                  exact ht h2
                have HRG : Hid ((regsOf n (parts.take k)).set nd ((regsOf n (parts.take k)).getD nd [] ++ [⟨lo, hi⟩]) = regsOf n (parts.take (k + 1))) := by
                  show _ = _
                  have e : parts[k] = ⟨(nd : Int), lo, hi⟩ := by
                    have := HP.out
                    rw [List.getD_eq_getElem?_getD, List.getElem?_eq_getElem hlt] at this
                    exact this
                  rw [← List.take_append_getElem hlt, e, regs_snoc n (parts.take k) ⟨(nd : Int), lo, hi⟩ nd hnd rfl]
                  rfl
                have HHX : Hid (∀ j, j < k + 1 → (0 ≤ (parts.getD j default).node ∧ (parts.getD j default).node < (n : Int)) ∧ 0 ≤ (parts.getD j default).lo ∧ (parts.getD j default).lo ≤ (parts.getD j default).hi ∧ (parts.getD j default).hi ≤ 256) := fun j hj => by
                  rcases Nat.lt_succ_iff_lt_or_eq.1 hj with h5 | rfl
                  · exact H.out j h5
                  · rw [HP.out]; exact ⟨⟨u1, u2⟩, h1, h2, h3⟩
                have HTA := hide (HTD.out.below ha)
                have HOB : Hid (∀ g, (vs.getD nd undef).ownBlock = some g → w.heap.size + 1 < g) := fun g e => ((HR13.out.own nd (by rw [regs_len]; exact hnd)).blk e).1
                obtain ⟨rc13, rf13⟩ := HR13.out.cell (i := nd) (by rw [regs_len]; exact hnd)
                refine wpAnyH_ready (rs := [7, 13]) (by kernel_rfl) (by simp) ?_
                refine AllReadyH.cons rfl (fun K hK => ?_) (AllReadyH.cons rfl (fun K hK => ?_) AllReadyH.nil)
                · rw [if_pos (by rfl)]
                  go_simp
                  refine hK.out _ _ (hHeld) (fun hHeld => ?_)
                  clear hK K
                  (try simp only [Act.put, List.setIfInBounds_toArray, List.set_cons_zero, List.set_cons_succ])
                  refine wpAnyH_ready (rs := [13]) (by kernel_rfl) (by simp) ?_
                  refine AllReadyH.cons rfl (fun K hK => ?_) AllReadyH.nil
                  rw [if_pos (by rfl)]
                  go_simp
                  refine hK.out _ _ (⟨cell_below ha (Nat.le_refl _) hplt hHeld.1, cell_below ha (Nat.le_refl _) hplt hHeld.2.1, cell_below ha (Nat.le_refl _) hplt hHeld.2.2⟩) (fun hHeld => ?_)
                  clear hK K
                  (try simp only [Act.put, List.setIfInBounds_toArray, List.set_cons_zero, List.set_cons_succ])
                  refine wpAnyH_ready (rs := [14]) (by kernel_rfl) (by simp) ?_
                  refine AllReadyH.cons rfl (fun K hK => ?_) AllReadyH.nil
                  rw [if_pos (by rfl)]
                  refine wp_app_span (.tmp 49) (.tmp 55) rfl (w.heap.size + 2) (vs.getD nd undef) _ _ rfl (HR13.out.own nd (by rw [regs_len]; exact hnd)) WD.heap.size 1 (.int .i64 lo) (.int .i64 hi) rfl (heap_alloc_new WD _) rfl rfl (HLN.out) (HBS.out) ?_
                  intro h' w14 o14 g14 p14
                  have hw14 := g14.block wr.heap.size (by have := alloc_lt WD (.cells #[.int .i64 lo, .int .i64 hi] 78); omega) (HNE.out wr.heap.size hp13 (by decide))
                  have hw14 := hw14.trans hp13
                  have hr14 := (g14.block (w.heap.size + 1) (Array.getElem?_eq_some_iff.1 HR13.out.blk).1 (HNE.out _ HR13.out.blk (by decide))).trans HR13.out.blk
                  obtain ⟨hA, hL, hC, rfl⟩ : ∃ A l c, h' = Value.slice A l c := by
                    rcases o14.2 with ⟨rfl, _⟩ | ⟨g, cap, cur, rfl, _⟩ <;> exact ⟨_, _, _, rfl⟩
                  have HO14 := hide o14; have HG14 := hide g14; have HPL14 := hide p14
                  clear o14 g14 p14
                  refine hK.out _ _ (⟨by rw [cell_of_row _ _ _ _ _ _ hw14]; rfl, by rw [cell_of_row _ _ _ _ _ _ hw14]; rfl, by rw [cell_of_row _ _ _ _ _ _ hw14]; rfl⟩) (fun hHeld => ?_)
                  clear hK K
                  (try simp only [Act.put, List.setIfInBounds_toArray, List.set_cons_zero, List.set_cons_succ])
                  refine wpAnyH_take (i := 15) (v := ?v811_15) rfl (by kernel_rfl) (by kernel_rfl) (by kernel_rfl) (fun _ _ _ h => h) (Or.inl ⟨by kernel_rfl, ?y811_15⟩) (by assumption) ?r811_15
                  case y811_15 => (intro W hSW; (try dsimp only at hSW); go_simp; (try with_reducible rfl))
                  change wpAnyH _ _ _ _ _ _ _ (Act.put _ (some 57) _) _
                  (try simp only [Act.put, List.setIfInBounds_toArray, List.set_cons_zero, List.set_cons_succ])
                  have s0 : w14.cell? ⟨w.heap.size + 1, nd, none⟩ = some (vs.getD nd undef) := by rw [cell_of_row _ _ _ _ _ _ hr14, ← cell_of_row _ _ _ _ _ _ HR13.out.blk]; exact (HR13.out.cell (by rw [regs_len]; exact hnd)).1
                  have s1 : w14.frozen? ⟨w.heap.size + 1, nd, none⟩ = false := by simp [World.frozen?, hr14]
                  refine wpAnyH_ready (rs := [16]) (by kernel_rfl) (by simp) ?_
                  refine AllReadyH.cons rfl (fun K hK => ?_) AllReadyH.nil
                  rw [if_pos (by rfl)]
                  go_simp
                  have hne16 : w.heap.size + 1 ≠ wr.heap.size := by have := (Array.getElem?_eq_some_iff.1 HRR.out.blk).1; omega
                  have hw16 : (w14.setCell ⟨w.heap.size + 1, nd, none⟩ (.slice hA hL hC)).heap[wr.heap.size]? = some (.cells #[.int .i64 (nd : Int), .int .i64 lo, .int .i64 hi] 47 (0, 0)) := by
                    simp only [World.setCell, Array.getElem?_modify]
                    rw [if_neg hne16]
                    exact hw14
                  refine hK.out _ _ (⟨by rw [cell_of_row _ _ _ _ _ _ hw16]; rfl, by rw [cell_of_row _ _ _ _ _ _ hw16]; rfl, by rw [cell_of_row _ _ _ _ _ _ hw16]; rfl⟩) (fun hHeld => ?_)
                  clear hK K
                  (try simp only [Act.put, List.setIfInBounds_toArray, List.set_cons_zero, List.set_cons_succ])
                  refine wpAnyH_done (by kernel_rfl) ?_ _
                  have hrx := RowsS.app HR13.out (by rw [regs_len]; exact hnd) lo hi HO14.out HG14.out HPL14.out
                  rw [HRG.out] at hrx
                  have HRX := hide hrx
                  have HTX := hide (CfS.wrote HG0.out HC0.out HTA.out HG14.out HOB.out (Nat.le_of_succ_le HBS.out) nd (.slice hA hL hC))
                  clear hrx
                  generalize w14.setCell ⟨w.heap.size + 1, nd, none⟩ (.slice hA hL hC) = WX at HRX HTX ⊢
                  clear hHeld hw16 s0 s1 hw14 hr14 HO14 HG14 HPL14 HNE HLN HRD HTD HR13 HTA HBS hp13 ha hpd rc rf rc13 rf13
                  go_wp2_with fail
                  go_roundw
                  case rel => exact ⟨k + 1, _, by omega, by go_num, HTX.out, HRX.out, HHX⟩
                  case measure => simp [intOf]; omega
                · rw [if_pos (by rfl)]
                  go_simp
                  refine hK.out _ _ (⟨cell_below ha (Nat.le_refl _) hplt hHeld.1, cell_below ha (Nat.le_refl _) hplt hHeld.2.1, cell_below ha (Nat.le_refl _) hplt hHeld.2.2⟩) (fun hHeld => ?_)
                  clear hK K
                  (try simp only [Act.put, List.setIfInBounds_toArray, List.set_cons_zero, List.set_cons_succ])
                  refine wpAnyH_ready (rs := [7]) (by kernel_rfl) (by simp) ?_
                  refine AllReadyH.cons rfl (fun K hK => ?_) AllReadyH.nil
                  rw [if_pos (by rfl)]
                  go_simp
                  refine hK.out _ _ (hHeld) (fun hHeld => ?_)
                  clear hK K
                  (try simp only [Act.put, List.setIfInBounds_toArray, List.set_cons_zero, List.set_cons_succ])
                  refine wpAnyH_ready (rs := [14]) (by kernel_rfl) (by simp) ?_
                  refine AllReadyH.cons rfl (fun K hK => ?_) AllReadyH.nil
                  rw [if_pos (by rfl)]
                  refine wp_app_span (.tmp 49) (.tmp 55) rfl (w.heap.size + 2) (vs.getD nd undef) _ _ rfl (HR13.out.own nd (by rw [regs_len]; exact hnd)) WD.heap.size 1 (.int .i64 lo) (.int .i64 hi) rfl (heap_alloc_new WD _) rfl rfl (HLN.out) (HBS.out) ?_
                  intro h' w14 o14 g14 p14
                  have hw14 := g14.block wr.heap.size (by have := alloc_lt WD (.cells #[.int .i64 lo, .int .i64 hi] 78); omega) (HNE.out wr.heap.size hp13 (by decide))
                  have hw14 := hw14.trans hp13
                  have hr14 := (g14.block (w.heap.size + 1) (Array.getElem?_eq_some_iff.1 HR13.out.blk).1 (HNE.out _ HR13.out.blk (by decide))).trans HR13.out.blk
                  obtain ⟨hA, hL, hC, rfl⟩ : ∃ A l c, h' = Value.slice A l c := by
                    rcases o14.2 with ⟨rfl, _⟩ | ⟨g, cap, cur, rfl, _⟩ <;> exact ⟨_, _, _, rfl⟩
                  have HO14 := hide o14; have HG14 := hide g14; have HPL14 := hide p14
                  clear o14 g14 p14
                  refine hK.out _ _ (⟨by rw [cell_of_row _ _ _ _ _ _ hw14]; rfl, by rw [cell_of_row _ _ _ _ _ _ hw14]; rfl, by rw [cell_of_row _ _ _ _ _ _ hw14]; rfl⟩) (fun hHeld => ?_)
                  clear hK K
                  (try simp only [Act.put, List.setIfInBounds_toArray, List.set_cons_zero, List.set_cons_succ])
                  refine wpAnyH_take (i := 15) (v := ?v821_15) rfl (by kernel_rfl) (by kernel_rfl) (by kernel_rfl) (fun _ _ _ h => h) (Or.inl ⟨by kernel_rfl, ?y821_15⟩) (by assumption) ?r821_15
                  case y821_15 => (intro W hSW; (try dsimp only at hSW); go_simp; (try with_reducible rfl))
                  change wpAnyH _ _ _ _ _ _ _ (Act.put _ (some 57) _) _
                  (try simp only [Act.put, List.setIfInBounds_toArray, List.set_cons_zero, List.set_cons_succ])
                  have s0 : w14.cell? ⟨w.heap.size + 1, nd, none⟩ = some (vs.getD nd undef) := by rw [cell_of_row _ _ _ _ _ _ hr14, ← cell_of_row _ _ _ _ _ _ HR13.out.blk]; exact (HR13.out.cell (by rw [regs_len]; exact hnd)).1
                  have s1 : w14.frozen? ⟨w.heap.size + 1, nd, none⟩ = false := by simp [World.frozen?, hr14]
                  refine wpAnyH_ready (rs := [16]) (by kernel_rfl) (by simp) ?_
                  refine AllReadyH.cons rfl (fun K hK => ?_) AllReadyH.nil
                  rw [if_pos (by rfl)]
                  go_simp
                  have hne16 : w.heap.size + 1 ≠ wr.heap.size := by have := (Array.getElem?_eq_some_iff.1 HRR.out.blk).1; omega
                  have hw16 : (w14.setCell ⟨w.heap.size + 1, nd, none⟩ (.slice hA hL hC)).heap[wr.heap.size]? = some (.cells #[.int .i64 (nd : Int), .int .i64 lo, .int .i64 hi] 47 (0, 0)) := by
                    simp only [World.setCell, Array.getElem?_modify]
                    rw [if_neg hne16]
                    exact hw14
                  refine hK.out _ _ (⟨by rw [cell_of_row _ _ _ _ _ _ hw16]; rfl, by rw [cell_of_row _ _ _ _ _ _ hw16]; rfl, by rw [cell_of_row _ _ _ _ _ _ hw16]; rfl⟩) (fun hHeld => ?_)
                  clear hK K
                  (try simp only [Act.put, List.setIfInBounds_toArray, List.set_cons_zero, List.set_cons_succ])
                  refine wpAnyH_done (by kernel_rfl) ?_ _
                  have hrx := RowsS.app HR13.out (by rw [regs_len]; exact hnd) lo hi HO14.out HG14.out HPL14.out
                  rw [HRG.out] at hrx
                  have HRX := hide hrx
                  have HTX := hide (CfS.wrote HG0.out HC0.out HTA.out HG14.out HOB.out (Nat.le_of_succ_le HBS.out) nd (.slice hA hL hC))
                  clear hrx
                  generalize w14.setCell ⟨w.heap.size + 1, nd, none⟩ (.slice hA hL hC) = WX at HRX HTX ⊢
                  clear hHeld hw16 s0 s1 hw14 hr14 HO14 HG14 HPL14 HNE HLN HRD HTD HR13 HTA HBS hp13 ha hpd rc rf rc13 rf13
                  go_wp2_with fail
                  go_roundw
                  case rel => exact ⟨k + 1, _, by omega, by go_num, HTX.out, HRX.out, HHX⟩
                  case measure => simp [intOf]; omega
              · have K : True := trivial
                have HX := hide (HF.out (fun g => h3 g.2.2.2))
                go_wp2_with (go_at_call 45; refine (of_spans _ _ _ _ _).mono ?_; rintro e w1 ⟨rfl, rfl⟩; rw [hq.out])
                go_ret
                exact ⟨false, rfl, ⟨fun h => (by cases h), fun h => absurd h HX.out⟩, HB1.out⟩
            · have K : True := trivial
              have HX := hide (HF.out (fun g => h2 g.2.2.1))
              go_wp2_with (go_at_call 45; refine (of_spans _ _ _ _ _).mono ?_; rintro e w1 ⟨rfl, rfl⟩; rw [hq.out])
              go_ret
              exact ⟨false, rfl, ⟨fun h => (by cases h), fun h => absurd h HX.out⟩, HB1.out⟩
          · have K : True := trivial
            have HX := hide (HF.out (fun g => h1 g.2.1))
            go_wp2_with (go_at_call 45; refine (of_spans _ _ _ _ _).mono ?_; rintro e w1 ⟨rfl, rfl⟩; rw [hq.out])
            go_ret
            exact ⟨false, rfl, ⟨fun h => (by cases h), fun h => absurd h HX.out⟩, HB1.out⟩
        · have hq : Hid (ofB node n = false) := Bool.not_eq_true _ ▸ hno
          have HX := hide (HF.out (fun g => hno (by simp only [ofB, Bool.and_eq_true, decide_eq_true_eq]; exact g.1)))
          go_wp2_with (go_at_call 45; refine (of_spans _ _ _ _ _).mono ?_; rintro e w1 ⟨rfl, rfl⟩; rw [hq.out])
          go_ret
          exact ⟨false, rfl, ⟨fun h => (by cases h), fun h => absurd h HX.out⟩, HB1.out⟩
      · obtain rfl : k = parts.length := by omega
        rw [List.take_length] at hR
        have hm := meet_any (regsOf n parts) (some ⟨w.heap.size + 1, 0, none⟩) n wr hR.rows (by rw [regs_len]; omega)
        rw [regs_len] at hm
        have hap := regs_meet n parts fun p hp => by
          obtain ⟨j, hj, rfl⟩ := List.getElem_of_mem hp
          have := (H.out j hj).1
          rw [List.getD_eq_getElem?_getD, List.getElem?_eq_getElem hj] at this
          exact this
        have HM := hide hm
        have HAP := hide hap
        have HB := hide hb
        clear hm hap hR hc hg hT
        go_wp2_with (go_at_call 46; refine HM.out.mono ?_; rintro e w1 ⟨v, rfl, hv, hb1⟩; have HV := hide hv; have HB1 := hide hb1; clear hv hb1)
        go_ret
        refine ⟨!v, rfl, ?_, HB.out.trans (HB1.out.mono HB.out.size)⟩
        have hv := HV.out
        rw [HAP.out] at hv
        constructor
        · intro h
          refine ⟨hlen, H.out, Classical.byContradiction fun g => ?_⟩
          rw [hv.2 g] at h
          cases h
        · intro h
          cases v with
          | false => rfl
          | true => exact absurd h.2.2 (hv.1 rfl)
  · obtain ⟨hb, ⟨hl, e0, e1, e2, e3, e4, e5, e6, e7, e8, e9, e10, e11⟩, hg, hc⟩ := id hS
    dsimp only at e0 e1 e2 e3 e4 e5 e6 e7 e8 e9 e10 e11
    clear hS hg hc
    go_wp2
    go_ret
    exact ⟨false, rfl, ⟨fun h => (by cases h), fun h => absurd h.1 hlen⟩, hb⟩
end Go.Proofs.YtdennekkbdlhdaaDoor
