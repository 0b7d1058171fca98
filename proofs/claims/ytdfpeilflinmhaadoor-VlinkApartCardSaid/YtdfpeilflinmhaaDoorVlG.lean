/-
  What of a payload is handed to whom.
-/
import Derived.Test.YtdfpeilflinmhaaDoorVlF
import Derived.WalkMore
namespace Go.Proofs.YtdfpeilflinmhaaDoor
open Go.RowKit Go.Deep Go.Sort
attribute [local go_sem] Oper.semAt_some
set_option linter.unusedVariables false
set_option linter.unusedSimpArgs false

/-- what of one link is handed to a node's ports -/
def handF (p : List Nat) (node : Int) (x : Lr) (ds : List (Int × Int)) : List (Int × List Nat) := if yesF p x then (ds.filter fun d => decide (d.2 = node)).map fun d => (d.1, textF p x) else []
/-- what of a payload is -/
def dlF (p : List Nat) (node : Int) (L : List Lr) : List (Int × List Nat) := L.flatMap fun x => handF p node x x.dests
theorem hand_len (p : List Nat) (node : Int) (x : Lr) (ds : List (Int × Int)) : (handF p node x ds).length ≤ ds.length := by
  unfold handF
  split
  · simp only [List.length_map]; exact List.length_filter_le _ _
  · simp
theorem hand_snoc (p : List Nat) (node : Int) (x : Lr) (ds : List (Int × Int)) (d : Int × Int) : handF p node x (ds ++ [d]) = handF p node x ds ++ (if yesF p x = true ∧ d.2 = node then [(d.1, textF p x)] else []) := by
  unfold handF
  cases h : yesF p x
  · simp
  · by_cases h2 : d.2 = node <;> simp [h2]
theorem dl_len (p : List Nat) (node : Int) : ∀ L : List Lr, (∀ x ∈ L, x.dests.length ≤ 64) → (dlF p node L).length ≤ L.length * 64
  | [], _ => by simp [dlF]
  | x :: L, h => by
    have ih := dl_len p node L fun y hy => h y (.tail _ hy)
    have h1 := hand_len p node x x.dests
    have h2 := h x (.head _)
    unfold dlF at ih ⊢
    simp only [List.flatMap_cons, List.length_append, List.length_cons]
    omega
theorem dl_take {p : List Nat} {node : Int} {L : List Lr} {n : Nat} {x : Lr} (h : L[n]? = some x) : dlF p node (L.take (n + 1)) = dlF p node (L.take n) ++ handF p node x x.dests := by
  unfold dlF
  rw [List.take_add_one, h, List.flatMap_append]
  simp
theorem own_dests {c : Conf} (hm : MayK c) {node : Int} {n : Nat} (hn : n ≤ c.links.length) {x : Lr} (hx : x ∈ ownL c node n) : x.dests.length ≤ 64 := by
  obtain ⟨k, hk, _, rfl⟩ := ownL_mem hx
  simp only [lrF, List.length_map]
  exact hm.dlen (by omega)

/-- who is handed messages: what it knows after some (H), in which blocks of its own (S) -/
structure Recv (B : Nat) (xv : Value) (slot : Int) (D : List (Int × List Nat)) (H : List (Int × List Nat) → (Nat → Prop) → World → Prop) : Prop where
  keep : ∀ l S W W', H l S W → (∀ j, S j → W'.heap[j]? = W.heap[j]?) → W.heap.size ≤ W'.heap.size → H l S W'
  call : ∀ l S W port data g cap, (port, data) ∈ D → H l S W → (∀ j, S j → j < W.heap.size) → ¬ S g → B ≤ g → OwnS W B g data.length cap data → B ≤ W.heap.size → l.length ≤ 10000 → data.length ≤ 64 → 1 ≤ data.length →
    Calls Tryd.prog 21 #[xv, .int .i64 port, .slice (some ⟨g, 0, none⟩) data.length cap, .int .i64 slot] W fun e W' => ∃ r S', e = .returned (.int .i64 r) ∧ H (l ++ [(port, data)]) S' W' ∧ (∀ j, S' j → S j ∨ j = g ∨ W.heap.size ≤ j) ∧
      (∀ j, S' j → j < W'.heap.size) ∧ (∀ j, j < W.heap.size → ¬ S j → j ≠ g → W'.heap[j]? = W.heap[j]?) ∧ Below B W W'

/-- what holds while messages are handed out: the counter's box is ga -/
structure DlI (w w1 : World) (B ga : Nat) (S0 : Nat → Prop) (rec : Loop) (H : List (Int × List Nat) → (Nat → Prop) → World → Prop) (l : List (Int × List Nat)) (W : World) : Prop where
  lp : W.heap[w1.heap.size + 1]? = some (.loop rec)
  df : W.heap[w1.heap.size]? = some (.deferred (some []))
  bel : Below B w W
  low : B ≤ w.heap.size ∧ w.heap.size ≤ ga ∧ ga < w1.heap.size
  siz : w1.heap.size + 2 ≤ W.heap.size
  pre : ∀ j, w.heap.size ≤ j → j < w1.heap.size → j ≠ ga → W.heap[j]? = w1.heap[j]?
  old : ∀ j, j < w.heap.size → ¬ S0 j → W.heap[j]? = w.heap[j]?
  cnt : W.heap[ga]? = some (.cells #[.int .i64 (l.length : Int)] 3 (0, 0))
  hs : ∃ S, H l S W ∧ (∀ j, S j → (S0 j ∨ w1.heap.size + 2 ≤ j) ∧ j < W.heap.size)
theorem DlI.later {w w1 : World} {B ga : Nat} {S0 : Nat → Prop} {rec : Loop} {xv : Value} {slot : Int} {D : List (Int × List Nat)} {H : List (Int × List Nat) → (Nat → Prop) → World → Prop} (hR : Recv B xv slot D H) {l : List (Int × List Nat)} {W W' : World} (I : DlI w w1 B ga S0 rec H l W) (hb : Below W.heap.size W W') : DlI w w1 B ga S0 rec H l W' := by
  have hs := I.siz
  obtain ⟨l1, l2, l3⟩ := I.low
  obtain ⟨S, h1, h2⟩ := I.hs
  exact ⟨(hb.block _ (by omega)).trans I.lp, (hb.block _ (by omega)).trans I.df, I.bel.trans (hb.mono (by omega)), ⟨l1, l2, l3⟩, Nat.le_trans hs hb.size, fun j hl hj hn => (hb.block _ (by omega)).trans (I.pre j hl hj hn), fun j hj hn => (hb.block _ (by omega)).trans (I.old j hj hn), (hb.block _ (by omega)).trans I.cnt,
    S, hR.keep _ _ _ _ h1 (fun j hj => hb.block j (h2 j hj).2) hb.size, fun j hj => ⟨(h2 j hj).1, Nat.lt_of_lt_of_le (h2 j hj).2 hb.size⟩⟩
/-- the same within a round: the link's own block is bl -/
structure DrI (w w1 : World) (B ga bl : Nat) (S0 : Nat → Prop) (rec : Loop) (lk : Array Value) (H : List (Int × List Nat) → (Nat → Prop) → World → Prop) (l : List (Int × List Nat)) (W : World) : Prop where
  lp : W.heap[w1.heap.size + 1]? = some (.loop rec)
  df : W.heap[w1.heap.size]? = some (.deferred (some []))
  bel : Below B w W
  low : B ≤ w.heap.size ∧ w.heap.size ≤ ga ∧ ga < w1.heap.size
  siz : w1.heap.size + 2 ≤ bl ∧ bl < W.heap.size
  pre : ∀ j, w.heap.size ≤ j → j < w1.heap.size → j ≠ ga → W.heap[j]? = w1.heap[j]?
  old : ∀ j, j < w.heap.size → ¬ S0 j → W.heap[j]? = w.heap[j]?
  cnt : W.heap[ga]? = some (.cells #[.int .i64 (l.length : Int)] 3 (0, 0))
  lnk : W.heap[bl]? = some (.cells lk 134 (0, 0))
  hs : ∃ S, H l S W ∧ (∀ j, S j → (S0 j ∨ w1.heap.size + 2 ≤ j ∧ j ≠ bl) ∧ j < W.heap.size)
section
variable {w w1 : World} {B ga bl : Nat} {S0 : Nat → Prop} {rec : Loop} {lk : Array Value} {xv : Value} {slot : Int} {D : List (Int × List Nat)} {H : List (Int × List Nat) → (Nat → Prop) → World → Prop} {l : List (Int × List Nat)} {W W' : World}
theorem DrI.later (hR : Recv B xv slot D H) (I : DrI w w1 B ga bl S0 rec lk H l W) (hb : Below W.heap.size W W') : DrI w w1 B ga bl S0 rec lk H l W' := by
  obtain ⟨s1, s2⟩ := I.siz
  obtain ⟨l1, l2, l3⟩ := I.low
  obtain ⟨S, h1, h2⟩ := I.hs
  exact ⟨(hb.block _ (by omega)).trans I.lp, (hb.block _ (by omega)).trans I.df, I.bel.trans (hb.mono (by omega)), ⟨l1, l2, l3⟩, ⟨s1, Nat.lt_of_lt_of_le s2 hb.size⟩, fun j hl hj hn => (hb.block _ (by omega)).trans (I.pre j hl hj hn), fun j hj hn => (hb.block _ (by omega)).trans (I.old j hj hn), (hb.block _ (by omega)).trans I.cnt, (hb.block _ s2).trans I.lnk,
    S, hR.keep _ _ _ _ h1 (fun j hj => hb.block j (h2 j hj).2) hb.size, fun j hj => ⟨(h2 j hj).1, Nat.lt_of_lt_of_le (h2 j hj).2 hb.size⟩⟩
/-- what a call of who is handed a message leaves -/
structure Gave (B : Nat) (S : Nat → Prop) (g : Nat) (W W' : World) : Prop where
  bel : Below B W W'
  kept : ∀ j, j < W.heap.size → ¬ S j → j ≠ g → W'.heap[j]? = W.heap[j]?
theorem DrI.gave (hS0 : ∀ j, S0 j → j < w.heap.size) {S S' : Nat → Prop} {g : Nat} {x : Int × List Nat} (I : DrI w w1 B ga bl S0 rec lk H l W) (hg : bl < g) (hS : ∀ j, S j → (S0 j ∨ w1.heap.size + 2 ≤ j ∧ j ≠ bl) ∧ j < W.heap.size) (hH : H (l ++ [x]) S' W') (hS' : ∀ j, S' j → S j ∨ j = g ∨ W.heap.size ≤ j) (hl' : ∀ j, S' j → j < W'.heap.size) (hG : Gave B S g W W')
    (hR : Recv B xv slot D H) : DrI w w1 B ga bl S0 rec lk H (l ++ [x]) (W'.setCell ⟨ga, 0, none⟩ (.int .i64 ((l.length : Int) + 1))) := by
  obtain ⟨s1, s2⟩ := I.siz
  obtain ⟨l1, l2, l3⟩ := I.low
  have hns : ∀ j, w.heap.size ≤ j → j ≤ w1.heap.size + 1 → ¬ S j := fun j h1 h2 h3 => by
    rcases (hS j h3).1 with h | h
    · have := hS0 j h; omega
    · omega
  have hk : ∀ j, w.heap.size ≤ j → j ≤ w1.heap.size + 1 → W'.heap[j]? = W.heap[j]? := fun j h1 h2 => hG.kept j (by omega) (hns j h1 h2) (by omega)
  have hsz := hG.bel.size
  have hga := hk ga l2 (by omega)
  rw [I.cnt] at hga
  refine ⟨?_, ?_, ?_, ⟨l1, l2, l3⟩, ⟨s1, by rw [vset_size]; omega⟩, ?_, ?_, ?_, ?_, ?_⟩
  · rw [setCell_other (by omega), hk _ (by omega) (by omega)]; exact I.lp
  · rw [setCell_other (by omega), hk _ (by omega) (by omega)]; exact I.df
  · exact vset_below (I.bel.trans hG.bel) (by omega) _
  · intro j h1 h2 h3
    rw [setCell_other h3, hk _ h1 (by omega)]; exact I.pre j h1 h2 h3
  · intro j h1 h2
    rw [setCell_other (by omega), hG.kept j (by omega) (fun h3 => by
      rcases (hS j h3).1 with h | h
      · exact h2 h
      · omega) (by omega)]
    exact I.old j h1 h2
  · rw [vset_row hga]
    simp
  · rw [setCell_other (by omega), hG.kept bl s2 (fun h3 => by
      rcases (hS bl h3).1 with h | h
      · have := hS0 bl h; omega
      · exact h.2 rfl) (by omega)]
    exact I.lnk
  · refine ⟨S', hR.keep _ _ _ _ hH (fun j hj => setCell_other ?_) (by rw [vset_size]; exact Nat.le_refl _), fun j hj => ⟨?_, by rw [vset_size]; exact hl' j hj⟩⟩
    · rcases hS' j hj with h | h | h
      · rcases (hS j h).1 with h | h
        · have := hS0 j h; omega
        · omega
      · omega
      · omega
    · rcases hS' j hj with h | h | h
      · exact (hS j h).1
      · exact .inr ⟨by omega, by omega⟩
      · exact .inr ⟨by omega, by omega⟩
end

theorem arr_eq_nil (f : Fn) (bs lb : Array Value) (w : World) : (binOp .eql 72 (.func f bs lb) .nilFunc).run Tryd.prog w = .ok (.bool false) w := by
  have h : ∀ d : Nat, (Op.equalIn (d + 1) 72 (.func f bs lb) .nilFunc).run Tryd.prog w = .ok false w := fun d => by
    simp [Op.equalIn, run_underlying Tryd.underlying72, sizeOf, typeInfo]
  simp only [binOp]
  simp [Op.equal, Op.maxDepth, h 9999]
/-- what is handed in, in a function's own blocks -/
structure BxS (w W : World) (c : Conf) (d : Ad) (node slot : Int) (p : List Nat) (F : Value) : Prop where
  cf : CfS w W c d
  nd : W.heap[w.heap.size + 1]? = some (.cells #[.int .i64 node] 3 (0, 0))
  sl : W.heap[w.heap.size + 1 + 1]? = some (.cells #[.int .i64 slot] 3 (0, 0))
  py : W.heap[w.heap.size + 1 + 1 + 1]? = some (.cells (bys p) 38 (0, 0))
  fn : W.heap[w.heap.size + 1 + 1 + 1 + 1]? = some (.cells #[F] 72 (0, 0))
theorem BxS.below {w W W' : World} {c : Conf} {d : Ad} {node slot : Int} {p : List Nat} {F : Value} (h : BxS w W c d node slot p F) (hb : Below W.heap.size W W') : BxS w W' c d node slot p F := by
  have hlt := (Array.getElem?_eq_some_iff.1 h.fn).1
  exact ⟨h.cf.below hb, (hb.block _ (by omega)).trans h.nd, (hb.block _ (by omega)).trans h.sl, (hb.block _ (by omega)).trans h.py, (hb.block _ (by omega)).trans h.fn⟩
theorem BxS.made {w wa : World} {c : Conf} {d : Ad} (h : CfS w wa c d) (hz : wa.heap.size = w.heap.size + 1) (node slot : Int) (p : List Nat) (F : Value) :
    BxS w ((((wa.alloc (.cells #[.int .i64 node] 3)).alloc (.cells #[.int .i64 slot] 3)).alloc (.cells (bys p) 38)).alloc (.cells #[F] 72)) c d node slot p F := by
  have n1 := heap_alloc_new wa (.cells #[.int .i64 node] 3)
  have b1 := bal wa (.cells #[.int .i64 node] 3)
  have z1 : (wa.alloc (.cells #[.int .i64 node] 3)).heap.size = wa.heap.size + 1 := by simp
  generalize wa.alloc (.cells #[.int .i64 node] 3) = w1 at *
  have n2 := heap_alloc_new w1 (.cells #[.int .i64 slot] 3)
  have b2 := bal w1 (.cells #[.int .i64 slot] 3)
  have z2 : (w1.alloc (.cells #[.int .i64 slot] 3)).heap.size = w1.heap.size + 1 := by simp
  generalize w1.alloc (.cells #[.int .i64 slot] 3) = w2 at *
  have n3 := heap_alloc_new w2 (.cells (bys p) 38)
  have b3 := bal w2 (.cells (bys p) 38)
  have z3 : (w2.alloc (.cells (bys p) 38)).heap.size = w2.heap.size + 1 := by simp
  generalize w2.alloc (.cells (bys p) 38) = w3 at *
  have n4 := heap_alloc_new w3 (.cells #[F] 72)
  have b4 := bal w3 (.cells #[F] 72)
  generalize w3.alloc (.cells #[F] 72) = w4 at *
  refine ⟨(((h.below b1).below b2).below b3).below b4, ?_, ?_, ?_, ?_⟩
  · rw [← hz]; exact (b4.block _ (by omega)).trans ((b3.block _ (by omega)).trans ((b2.block _ (by omega)).trans n1))
  · rw [← hz, ← z1]; exact (b4.block _ (by omega)).trans ((b3.block _ (by omega)).trans n2)
  · rw [← hz, ← z1, ← z2]; exact (b4.block _ (by omega)).trans n3
  · rw [← hz, ← z1, ← z2, ← z3]; exact n4

/-- what Deliver answers -/
def DlPost (c : Conf) (owner node : Int) (p : List Nat) (B : Nat) (S0 : Nat → Prop) (H : List (Int × List Nat) → (Nat → Prop) → World → Prop) (w : World) (e : Ending) (w' : World) : Prop :=
  (refF c [owner, node] ≠ 0 ∧ e = .returned (.tuple #[.int .i64 0, .int .i64 (refF c [owner, node])]) ∧ Below w.heap.size w w') ∨
    (refF c [owner, node] = 0 ∧ e = .returned (.tuple #[.int .i64 ((dlF p node (ownL c owner c.links.length)).length : Int), .int .i64 0]) ∧ Below B w w' ∧ (∀ j, j < w.heap.size → ¬ S0 j → w'.heap[j]? = w.heap[j]?) ∧
      ∃ S, H (dlF p node (ownL c owner c.links.length)) S w' ∧ ∀ j, S j → (S0 j ∨ w.heap.size ≤ j) ∧ j < w'.heap.size)

set_option maxRecDepth 100000 in
set_option maxHeartbeats 8000000 in
theorem deliver_at (c : Conf) (d : Ad) (owner node slot : Int) (hown : I64 owner) (hnode : I64 node) (p : List Nat) (hpl : p.length = 64) (hpb : ∀ b ∈ p, b < 256) (w : World) (hg : Glo w) (h : ConfAt w c d)
    (B : Nat) (hB : B ≤ w.heap.size) (xa : Nat) (S0 : Nat → Prop) (H : List (Int × List Nat) → (Nat → Prop) → World → Prop) (hR : Recv B (.pointer (some ⟨xa, 0, none⟩)) slot (dlF p node (ownL c owner c.links.length)) H) (h0 : H [] S0 w) (hS0 : ∀ j, S0 j → j < w.heap.size) :
    Calls Tryd.prog 20 #[c.val d, .int .i64 owner, .int .i64 node, .int .i64 slot, .agg (bys p), .func (.func 21) #[.pointer (some ⟨xa, 0, none⟩)] #[]] w (DlPost c owner node p B S0 H w) := by
  have hS := CfS.first 28 hg h
  have HR := hide (fun W (H : CfS w W c d) A m (hI : Ints W A [owner, node]) => refusal_at c d [owner, node] A m W H.g H.cf hI (by simp))
  have HLs := hide (fun W (H : CfS w W c d) (hm : MayK c) => linksOf_at c d owner W H.g H.cf hm)
  have HMay := hide (fun h0 : refF c [owner, node] = 0 => may_of (refF_zero h0).1)
  have HP1 : Hid (∀ e w', refF c [owner, node] ≠ 0 → e = .returned (.tuple #[.int .i64 0, .int .i64 (refF c [owner, node])]) → Below w.heap.size w w' → DlPost c owner node p B S0 H w e w') := fun e w' h1 h2 h3 => .inl ⟨h1, h2, h3⟩
  have HP2 : Hid (∀ e w', refF c [owner, node] = 0 → e = .returned (.tuple #[.int .i64 ((dlF p node (ownL c owner c.links.length)).length : Int), .int .i64 0]) → Below B w w' → (∀ j, j < w.heap.size → ¬ S0 j → w'.heap[j]? = w.heap[j]?) → (∃ S, H (dlF p node (ownL c owner c.links.length)) S w' ∧ ∀ j, S j → (S0 j ∨ w.heap.size ≤ j) ∧ j < w'.heap.size) → DlPost c owner node p B S0 H w e w') := fun e w' h1 h2 h3 h4 h5 => .inr ⟨h1, h2, h3, h4, h5⟩
  generalize DlPost c owner node p B S0 H w = PP at HP1 HP2 ⊢
  generalize refF c [owner, node] = f at HR HP1 HP2 HMay
  have HRc := hide hR; have H00 := hide h0
  clear hR h0 hg h
  generalize hA : w.alloc (.cells (c.cells d) 28) = wa at hS
  have hza : wa.heap.size = w.heap.size + 1 := by rw [← hA]; simp
  obtain ⟨oA, oC, pA, pC, wA, wC, qA, qC, lA, lC⟩ := d
  unfold Conf.val at HR HLs ⊢
  unfold Conf.cells at hA
  dsimp only at hA HR HLs ⊢
  have HA := hide hA
  have HS := hide hS
  clear hA hS
  generalize hcs : bys p = cs
  refine calls_of_wp_marks Tryd.func20 rfl ?_
  simp only [Tryd.ntmps20, List.size_toArray, List.length_cons, List.length_nil, Nat.reduceAdd, Nat.reduceSub, Array.replicate_succ, Array.replicate_zero, List.push_toArray, List.append_toArray, List.nil_append, List.cons_append]
  go_upto_region 1 with fail
  rw [HA.out]
  have HX := hide (BxS.made HS.out hza node slot p (.func (.func 21) #[.pointer (some ⟨xa, 0, none⟩)] #[]))
  rw [hcs] at HX
  clear HS HA hza
  generalize (((wa.alloc (.cells #[.int .i64 node] 3)).alloc (.cells #[.int .i64 slot] 3)).alloc (.cells cs 38)).alloc (.cells #[.func (.func 21) #[.pointer (some ⟨xa, 0, none⟩)] #[]] 72) = w2 at HX ⊢
  obtain ⟨_, ⟨_, e0, e1, e2, e3, e4, e5, e6, e7, e8, e9, e10, e11⟩, _, _⟩ := HX.out.cf
  dsimp only at e0 e1 e2 e3 e4 e5 e6 e7 e8 e9 e10 e11
  have x1 : w2.cell? ⟨w.heap.size + 1, 0, none⟩ = some (.int .i64 node) := by rw [cell_of_row _ _ _ _ _ _ HX.out.nd]; rfl
  have hb3 := bal w2 (.cells #[.int .i64 owner, .int .i64 node] 3)
  have hI3 : Ints (w2.alloc (.cells #[.int .i64 owner, .int .i64 node] 3)) (some ⟨w2.heap.size, 0, none⟩) [owner, node] := ⟨by simp [hown, hnode], .inr ⟨_, 0, rfl, by simp, fun i hi => by
    dsimp only
    rw [cell_of_row _ _ _ _ _ _ (heap_alloc_new w2 _)]
    match i, hi with
    | 0, _ => rfl
    | 1, _ => rfl
    | _ + 2, hi => exact absurd hi (by simp)⟩⟩
  have HX3 := hide (HX.out.below hb3); have HI3 := hide hI3
  clear hb3 hI3
  go_wp2_with fail
  go_step3
  go_wp2_with fail
  refine (HR.out _ HX3.out.cf _ 2 HI3.out).mono ?_
  rintro e w3 ⟨rfl, hb⟩
  have HX4 := hide (HX3.out.below hb)
  clear hb HX3 HI3 HX e0 e1 e2 e3 e4 e5 e6 e7 e8 e9 e10 e11 x1 HR
  have x4 : w3.cell? ⟨w.heap.size + 1 + 1 + 1 + 1, 0, none⟩ = some (.func (.func 21) #[.pointer (some ⟨xa, 0, none⟩)] #[]) := by rw [cell_of_row _ _ _ _ _ _ HX4.out.fn]; rfl
  by_cases hf : f = 0
  · subst hf
    have HM := hide (HMay.out rfl)
    clear HMay HP1
    have hxl := (Array.getElem?_eq_some_iff.1 HX4.out.fn).1
    have HA := hide (HX4.out.below (bal w3 (.cells #[.int .i64 0] 3)))
    have HAR := hide (heap_alloc_new w3 (.cells #[.int .i64 0] 3))
    have HAZ : Hid ((w3.alloc (.cells #[.int .i64 0] 3)).heap.size = w3.heap.size + 1) := by show _ = _; simp
    clear HX4
    have he := fun W => arr_eq_nil (.func 21) #[.pointer (some ⟨xa, 0, none⟩)] #[] W
    go_wp2_with fail
    go_step3
    generalize w3.alloc (.cells #[.int .i64 0] 3) = wA at HA HAR HAZ ⊢
    obtain ⟨_, ⟨_, e0, e1, e2, e3, e4, e5, e6, e7, e8, e9, e10, e11⟩, _, _⟩ := HA.out.cf
    dsimp only at e0 e1 e2 e3 e4 e5 e6 e7 e8 e9 e10 e11
    clear he x4
    go_wp2_with fail
    refine (HLs.out _ HA.out.cf HM.out).mono ?_
    rintro e w1 ⟨Bo, v, P, rfl, ⟨hB1, hB2⟩, hBr, hL, hLP, hb2⟩
    clear e0 e1 e2 e3 e4 e5 e6 e7 e8 e9 e10 e11 HLs
    go_wp2_with fail
    have hzA := HAZ.out
    have hzb := hb2.size
    have hX1 := HA.out.below hb2
    have hbw1 : Below w.heap.size w w1 := hX1.cf.bel
    have hc1 : w1.heap[w3.heap.size]? = some (.cells #[.int .i64 0] 3 (0, 0)) := (hb2.block _ (by omega)).trans HAR.out
    have hPlen : P.length ≤ 64 := by
      have h1 := congrArg List.length hLP
      have h2 := ownL_len c owner c.links.length
      have h3 := HM.out.nl
      simp at h1; omega
    have HX1 := hide hX1
    have HSz := hide (show w.heap.size + 5 ≤ w3.heap.size ∧ w3.heap.size + 1 ≤ wA.heap.size ∧ wA.heap.size ≤ w1.heap.size from ⟨by omega, by omega, by omega⟩)
    clear hX1 hb2 HA HAR
    refine wp_range2 (g := .tmp 33) rfl (enters_of Tryd.func79 (by kernel_rfl) rfl) ?_
    rintro W0 rec hl hD hb0 hz0 hst hpe htm hps has hbo
    have I0 : DlI w w1 B w3.heap.size S0 rec H [] W0 := ⟨hl, hD, (hbw1.mono hB).trans (hb0.mono (by omega)), ⟨hB, by omega, by omega⟩, hz0, fun j _ hj _ => hb0.block j hj, fun j hj _ => (hb0.block j (by omega)).trans (hbw1.block j hj), (hb0.block _ (by omega)).trans hc1,
      S0, HRc.out.keep _ _ _ _ H00.out (fun j hj => (hb0.block j (by have := hS0 j hj; omega)).trans (hbw1.block j (hS0 j hj))) (by omega), fun j hj => ⟨.inl hj, by have := hS0 j hj; omega⟩⟩
    refine links1_all (base := wA.heap.size) (v := v) (P := P) 1 (w1.heap.size + 1) W0 _ (fun n W => DlI w w1 B w3.heap.size S0 rec H (dlF p node ((P.map Prod.fst).take n)) W) (fun W' hb => I0.later HRc.out hb) (by omega) ?hI ?hY ?hR
    case hI =>
      rintro n W' I
      refine ⟨?_, hL.stands fun k hk1 hk2 => I.pre k (by omega) hk2 (by omega)⟩
      have h1 := I.pre Bo (by omega) hB2 (by omega)
      rw [hBr] at h1
      rw [cell_of_row _ _ _ _ _ _ h1]; rfl
    case hY =>
      rintro n q W1 W2 hn I hb
      have I2 := I.later HRc.out hb
      have hq1 : q.1 ∈ ownL c owner c.links.length := by rw [← hLP]; exact List.mem_map_of_mem (List.mem_of_getElem? hn)
      obtain ⟨o, s, ho, hs, hos, hs1⟩ := own_nat HM.out (Nat.le_refl _) hq1
      have hdl := own_dests HM.out (Nat.le_refl _) hq1
      have hlen : (dlF p node ((P.map Prod.fst).take n)).length ≤ 4096 := by
        refine Nat.le_trans (dl_len p node _ fun x hx => ?_) (by simp; omega)
        have := List.mem_of_mem_take hx
        rw [hLP] at this
        exact own_dests HM.out (Nat.le_refl _) this
      rw [dl_take (x := q.1) (by rw [List.getElem?_map, hn]; rfl)]
      have hyes : yesF p q.1 = decide (p.getD o 0 = 1) := by unfold yesF; rw [ho]; rfl
      have htxt : textF p q.1 = dataF p o s := by unfold textF; rw [ho, hs]; rfl
      have HYes := hide hyes; have HTxt := hide htxt
      obtain ⟨dA, dc, hdv⟩ := ow_slice (hL.ds q (List.mem_of_getElem? hn))
      have hDS := hL.ds q (List.mem_of_getElem? hn)
      have HDS := hide hDS
      obtain ⟨dn, hdn⟩ : ∃ dn, q.1.dests.length = dn := ⟨_, rfl⟩
      rw [hdn] at hdv
      have HDN := hide hdn
      clear I hb hyes htxt hL hLP hBr hn hDS hdn
      generalize dlF p node ((P.map Prod.fst).take n) = l0 at I2 hlen ⊢
      obtain ⟨x, dv0⟩ := q
      obtain ⟨num, src, off, siz, dests⟩ := x
      dsimp only at ho hs HYes HTxt hdv hdl HDS HDN hq1 ⊢
      subst ho hs hdv
      obtain ⟨lx, hlx⟩ : ∃ lx : Lr, lx = ⟨num, src, o, s, dests⟩ := ⟨_, rfl⟩
      rw [← hlx] at HYes HTxt ⊢
      have HMem := hide (show ∀ dp dn', (dp, dn') ∈ dests → dn' = node → yesF p lx = true → (dp, textF p lx) ∈ dlF p node (ownL c owner c.links.length) from fun dp dn' h1 h2 h3 => by
        refine List.mem_flatMap.2 ⟨lx, by rw [hlx]; exact hq1, ?_⟩
        unfold handF
        rw [if_pos h3]
        exact List.mem_map.2 ⟨(dp, dn'), List.mem_filter.2 ⟨by rw [hlx]; exact h1, by simpa using h2⟩, rfl⟩)
      clear hlx hq1
      have hzs := I2.siz
      refine yield_at I2.lp (by rw [hps]; rfl) ?_
      rw [has, hps, htm]
      have HI2 := hide I2; have HST := hide hst; have HPE := hide hpe; have HBO := hide hbo
      clear I2 hst hpe hbo htm hps has hbw1 hb0 I0 hl hD hB1 hB2 hc1
      gi_wp2
      refine ⟨rec, (heap_alloc_old W2 _ (by omega)).trans HI2.out.lp, HST.out, ?_⟩
      have hIa := HI2.out.later HRc.out (bal W2 (.cells #[.int .i64 num, .int .i64 src, .int .i64 (o : Int), .int .i64 (s : Int), .slice dA dn dc] 134))
      have hLa := heap_alloc_new W2 (.cells #[.int .i64 num, .int .i64 src, .int .i64 (o : Int), .int .i64 (s : Int), .slice dA dn dc] 134)
      have hza : (W2.alloc (.cells #[.int .i64 num, .int .i64 src, .int .i64 (o : Int), .int .i64 (s : Int), .slice dA dn dc] 134)).heap.size = W2.heap.size + 1 := by simp
      obtain ⟨S, hH, hSS⟩ := HI2.out.hs
      have hH3 : ∃ S, H l0 S (W2.alloc (.cells #[.int .i64 num, .int .i64 src, .int .i64 (o : Int), .int .i64 (s : Int), .slice dA dn dc] 134)) ∧ ∀ j, S j → (S0 j ∨ w1.heap.size + 2 ≤ j) ∧ j < W2.heap.size := ⟨S, HRc.out.keep _ _ _ _ hH (fun j hj => heap_alloc_old W2 _ (hSS j hj).2) (by simp), hSS⟩
      clear hH hSS S
      obtain ⟨bl, hbl⟩ : ∃ bl, W2.heap.size = bl := ⟨_, rfl⟩
      rw [hbl] at hLa hza hzs hH3 ⊢
      generalize W2.alloc (.cells #[.int .i64 num, .int .i64 src, .int .i64 (o : Int), .int .i64 (s : Int), .slice dA dn dc] 134) = Wa at hIa hLa hH3 hza ⊢
      clear HI2 hbl
      obtain ⟨S, hH, hSS⟩ := hH3
      have hlow := hIa.low
      have hput : ∀ j, j ≠ w1.heap.size + 1 → (Wa.putObj (w1.heap.size + 1) (.loop { rec with state := .busy })).heap[j]? = Wa.heap[j]? := fun j h1 => World.putObj_heap_other h1
      have hne : ∀ j, S j → j ≠ w1.heap.size + 1 := fun j hj => by
        rcases (hSS j hj).1 with h | h
        · have := hS0 j h; omega
        · omega
      have hR3 : DrI w w1 B w3.heap.size bl S0 { rec with state := .busy } #[.int .i64 num, .int .i64 src, .int .i64 (o : Int), .int .i64 (s : Int), .slice dA dn dc] H l0 (Wa.putObj (w1.heap.size + 1) (.loop { rec with state := .busy })) :=
        ⟨World.putObj_heap_same (by omega), (hput _ (by omega)).trans hIa.df, vput_below hIa.bel (by omega) (by omega) _, hlow, ⟨hzs, by simp; omega⟩, fun j h1 h2 h3 => (hput j (by omega)).trans (hIa.pre j h1 h2 h3), fun j h1 h2 => (hput j (by omega)).trans (hIa.old j h1 h2), (hput _ (by omega)).trans hIa.cnt, (hput _ (by omega)).trans hLa,
          S, HRc.out.keep _ _ _ _ hH (fun j hj => hput j (hne j hj)) (by simp), fun j hj => ⟨(hSS j hj).1.imp id fun h => ⟨h, by have := (hSS j hj).2; omega⟩, by have := (hSS j hj).2; simp; omega⟩⟩
      clear hput hIa hLa hza hH hSS hne S
      generalize Wa.putObj (w1.heap.size + 1) (.loop { rec with state := .busy }) = W3 at hR3 ⊢
      have HR3 := hide hR3
      clear hR3
      rw [HBO.out]
      clear HBO
      have t4 : W3.cell? ⟨bl, 4, none⟩ = some (.slice dA dn dc) := by rw [cell_of_row _ _ _ _ _ _ HR3.out.lnk]; rfl
      gi_wp2
      obtain ⟨LK, hLK⟩ : ∃ LK : Array Value, LK = #[.int .i64 num, .int .i64 src, .int .i64 (o : Int), .int .i64 (s : Int), .slice dA dn dc] := ⟨_, rfl⟩
      rw [← hLK] at HR3
      have HLK := hide hLK
      clear hLK t4
      have HR4 := hide (show DrI w w1 B w3.heap.size bl S0 { rec with state := .busy } LK H (l0 ++ handF p node lx (dests.take 0)) W3 by rw [show handF p node lx (dests.take 0) = [] by unfold handF; simp, List.append_nil]; exact HR3.out)
      clear HR3
      gi_loopw [38, 18, 19, 20] (fun i s18 s19 s20 wr => ∃ k : Nat, k ≤ dn ∧ i = .int .i64 k ∧ DrI w w1 B w3.heap.size bl S0 { rec with state := .busy } LK H (l0 ++ handF p node lx (dests.take k)) wr) (fun i _ _ _ _ => dn - (intOf i).toNat)
      case atStart => exact ⟨0, by omega, rfl, HR4.out⟩
      case round =>
        obtain ⟨k, hk, rfl, hD⟩ := hrel
        clear HR4
        have HD := hide hD
        clear hD
        obtain ⟨sz1, sz2, sz3⟩ := HSz.out
        have hd64 : dn ≤ 64 := by have := HDN.out; omega
        by_cases hlt : k < dn
        · have HKL := hide (show k + 1 ≤ dn by omega)
          obtain ⟨dk, hdk⟩ : ∃ dk, dests[k]? = some dk := ⟨_, List.getElem?_eq_getElem (by rw [HDN.out]; exact hlt)⟩
          have hsn : dests.take (k + 1) = dests.take k ++ [dk] := by rw [List.take_add_one, hdk]; rfl
          have hhs := hand_snoc p node lx (dests.take k) dk
          rw [← hsn] at hhs
          have hll : (l0 ++ handF p node lx (dests.take k)).length ≤ 10000 := by
            have := hand_len p node lx (dests.take k)
            simp only [List.length_append]
            have : (dests.take k).length ≤ 64 := by simp; omega
            omega
          obtain ⟨g, gc, hge, hgb, hgl, _, _, hgc⟩ := ow_open HDS.out (show 0 < dests.length by rw [HDN.out]; omega)
          rw [HDN.out] at hge
          injection hge with hge _ hgc2
          subst hge hgc2
          have hgk : wr.heap[g]? = w1.heap[g]? := HD.out.pre g (by omega) hgl (by omega)
          have d0 : wr.cell? ⟨g, k * 2, none⟩ = some (.int .i64 dk.1) := (World.cell?_of_block (a := ⟨g, k * 2, none⟩) hgk).trans (hgc _ _ (by rw [show k * 2 = k * 2 + 0 by rfl, fm_at dsC_len dests k 0 dk hdk (by omega)]; rfl))
          have d1 : wr.cell? ⟨g, k * 2 + 1, none⟩ = some (.int .i64 dk.2) := (World.cell?_of_block (a := ⟨g, k * 2 + 1, none⟩) hgk).trans (hgc _ _ (by rw [fm_at dsC_len dests k 1 dk hdk (by omega)]; rfl))
          obtain ⟨dport, dnode⟩ := dk
          dsimp only at d0 d1 hhs
          have HIn := hide (List.mem_of_getElem? hdk)
          have HA1 := hide (HD.out.later HRc.out (bal wr (.cells #[.int .i64 dport, .int .i64 dnode] 140)))
          have HZ1 : Hid ((wr.alloc (.cells #[.int .i64 dport, .int .i64 dnode] 140)).heap.size = wr.heap.size + 1) := by show _ = _; simp
          have hn0 : ∀ W, DrI w w1 B w3.heap.size bl S0 { rec with state := .busy } LK H (l0 ++ handF p node lx (dests.take k)) W → ∀ j, w.heap.size ≤ j → j < w1.heap.size → j ≠ w3.heap.size → W.heap[j]? = w1.heap[j]? := fun W h => h.pre
          have HN0 := hide hn0
          have HHS := hide hhs
          have HDW : Hid (∀ (cs : Array Value) (t : TypeId) (j : Nat) (W : World), w1.heap[j]? = some (.cells cs t (0, 0)) → w.heap.size ≤ j → j < w1.heap.size → j ≠ w3.heap.size → DrI w w1 B w3.heap.size bl S0 { rec with state := .busy } LK H (l0 ++ handF p node lx (dests.take k)) W → ∀ u v, cs[u]? = some v → W.cell? ⟨j, u, none⟩ = some v) := fun cs t j W h1 h2 h3 h4 h5 u v h6 => by
            rw [cell_of_row _ _ _ _ _ _ ((h5.pre j h2 h3 h4).trans h1)]; exact h6
          clear hn0 hhs hgc hdk hsn HDS hgk
          have n1 : (wr.alloc (.cells #[.int .i64 dport, .int .i64 dnode] 140)).cell? ⟨w.heap.size + 1, 0, none⟩ = some (.int .i64 node) := HDW.out _ _ _ _ HX1.out.nd (by omega) (by omega) (by omega) HA1.out 0 _ rfl
          by_cases hq : dnode = node
          · subst hq
            have m1 := HA1.out.lnk
            have ml : ∀ u v, LK[u]? = some v → (wr.alloc (.cells #[.int .i64 dport, .int .i64 dnode] 140)).cell? ⟨bl, u, none⟩ = some v := fun u v h => by rw [cell_of_row _ _ _ _ _ _ m1]; exact h
            have y0 := ml 0 _ (by rw [HLK.out]; rfl)
            have y1 := ml 1 _ (by rw [HLK.out]; rfl)
            have y2 := ml 2 _ (by rw [HLK.out]; rfl)
            have y3 := ml 3 _ (by rw [HLK.out]; rfl)
            have y4 := ml 4 _ (by rw [HLK.out]; rfl)
            have v0 : (wr.alloc (.cells #[.int .i64 dport, .int .i64 dnode] 140)).cell? ⟨wr.heap.size, 0, none⟩ = some (.int .i64 dport) := by rw [cell_of_row _ _ _ _ _ _ (heap_alloc_new wr _)]; rfl
            have py := (HA1.out.pre (w.heap.size + 1 + 1 + 1) (by omega) (by omega) (by omega)).trans HX1.out.py
            have HPY := hide (pay_bytes py hpb)
            have HVR := hide (heap_alloc_new wr (.cells #[.int .i64 dport, .int .i64 dnode] 140))
            clear m1 ml py
            gi_wp2
            refine ⟨trivial, rfl, callsIn_wide.2 ((message_at num src (.slice (some ⟨g, 0, none⟩) dn dc) (w.heap.size + 1 + 1 + 1) o s p hos hs1 (wr.alloc (.cells #[.int .i64 dport, .int .i64 dnode] 140)) HPY.out hpl).mono ?_)⟩
            rintro e W4 ⟨dv, rfl, hb4, hm⟩
            rw [← HYes.out, ← HTxt.out] at hm
            rw [← HYes.out]
            have HA4 := hide (HA1.out.later HRc.out hb4)
            have HV4 := hide ((hb4.block wr.heap.size (by simp)).trans HVR.out)
            have hsz4 := hb4.size
            have hwl : bl < wr.heap.size := HD.out.siz.2
            obtain ⟨S, hHr, hSSr⟩ := HD.out.hs
            have hH4 := HRc.out.keep _ _ _ _ hHr (fun j hj => (hb4.block j (by have := (hSSr j hj).2; simp; omega)).trans (heap_alloc_old wr _ (hSSr j hj).2)) (by have := hb4.size; simp at this; omega)
            simp only [World.size_alloc] at hsz4 hm
            clear n1 y0 y1 y2 y3 y4 v0 hb4 HPY HVR HA1
            generalize hyv : yesF p lx = yes at hm HYes ⊢
            rcases hm with ⟨rfl, rfl⟩ | ⟨rfl, mg, mc, rfl, ho⟩
            · have hr : handF p dnode lx (dests.take k) = handF p dnode lx dests := by unfold handF; rw [hyv]; rfl
              rw [hr] at HA4
              gi_wp2
              have hrec : ({ { rec with state := .busy } with state := .ready, pending := none } : Loop) = rec := by
                have h1 := HST.out; have h2 := HPE.out
                cases rec
                simp only at h1 h2
                subst h1 h2
                rfl
              obtain ⟨S, hH, hSS⟩ := HA4.out.hs
              obtain ⟨s1, s2⟩ := HA4.out.siz
              obtain ⟨lo1, lo2, lo3⟩ := HA4.out.low
              have hne : ∀ j, S j → j ≠ w1.heap.size + 1 := fun j hj => by
                rcases (hSS j hj).1 with h | h
                · have := hS0 j h; omega
                · omega
              refine ⟨none, { rec with state := .busy }, rfl, HA4.out.lp, rfl, ?_⟩
              simp only [Option.isNone_none, if_true]
              rw [hrec]
              exact ⟨World.putObj_heap_same (by omega), (World.putObj_heap_other (by omega)).trans HA4.out.df, vput_below HA4.out.bel (by omega) (by omega) _, ⟨lo1, lo2, lo3⟩, by simp; omega, fun j h1 h2 h3 => (World.putObj_heap_other (by omega)).trans (HA4.out.pre j h1 h2 h3), fun j h1 h2 => (World.putObj_heap_other (by omega)).trans (HA4.out.old j h1 h2), (World.putObj_heap_other (by omega)).trans HA4.out.cnt,
                S, HRc.out.keep _ _ _ _ hH (fun j hj => World.putObj_heap_other (hne j hj)) (by simp), fun j hj => ⟨(hSS j hj).1.imp id fun h => h.1, by have := (hSS j hj).2; simp; omega⟩⟩
            · have hr : handF p dnode lx (dests.take (k + 1)) = handF p dnode lx (dests.take k) ++ [(dport, textF p lx)] := by rw [HHS.out, if_pos ⟨hyv, by first | trivial | rfl⟩]
              have m4 : ∀ (cs : Array Value) (t : TypeId) (j : Nat), w1.heap[j]? = some (.cells cs t (0, 0)) → w.heap.size ≤ j → j < w1.heap.size → j ≠ w3.heap.size → ∀ u v, cs[u]? = some v → W4.cell? ⟨j, u, none⟩ = some v := fun cs t j h1 h2 h3 h4 u v h6 => HDW.out cs t j W4 h1 h2 h3 h4 HA4.out u v h6
              have z1 := m4 _ _ _ HX1.out.fn (by omega) (by omega) (by omega) 0 _ rfl
              have z2 := m4 _ _ _ HX1.out.sl (by omega) (by omega) (by omega) 0 _ rfl
              have z3 : W4.cell? ⟨wr.heap.size, 0, none⟩ = some (.int .i64 dport) := by rw [cell_of_row _ _ _ _ _ _ HV4.out]; rfl
              have HO := hide ho
              have HRs := hide hr
              obtain ⟨nt, hnt⟩ : ∃ nt, (textF p lx).length = nt := ⟨_, rfl⟩
              have HNT := hide hnt
              rw [hnt]
              have hH := hH4
              have hSS : ∀ j, S j → (S0 j ∨ w1.heap.size + 2 ≤ j ∧ j ≠ bl) ∧ j < W4.heap.size := fun j hj => ⟨(hSSr j hj).1, by have := (hSSr j hj).2; omega⟩
              have hbg : B ≤ mg := by have := ho.base; have := HA4.out.low; omega
              have hsg : ¬ S mg := fun h => by have := (hSSr mg h).2; have := ho.base; omega
              have hCL := HRc.out.call (l0 ++ handF p dnode lx (dests.take k)) S W4 dport (textF p lx) mg mc (HMem.out _ _ HIn.out (by first | trivial | rfl) hyv) hH (fun j hj => (hSS j hj).2) hsg hbg (ho.from hbg) (by have := HA4.out.low; omega) hll (by rw [HTxt.out, dataF_len]; omega) (by rw [HTxt.out, dataF_len]; exact hs1)
              rw [hnt] at hCL
              have HCL := hide hCL
              have hsl := HA4.out.siz.1
              clear m4 ho hr hnt hCL
              gi_wp2
              refine ⟨trivial, rfl, callsIn_wide.2 (HCL.out.mono ?_)⟩
              rintro e W5 ⟨rr, S', rfl, hH', hS', hl', hkp, hb5⟩
              have HD5 := hide (DrI.gave hS0 HA4.out (g := mg) (x := (dport, textF p lx)) (by have := HO.out.base; omega) hSS hH' hS' hl' ⟨hb5, hkp⟩ HRc.out)
              have hg5 : W5.heap[w3.heap.size]? = some (.cells #[.int .i64 ((l0 ++ handF p dnode lx (dests.take k)).length : Int)] 3 (0, 0)) := by
                rw [hkp w3.heap.size (by have := HA4.out.siz; omega) (fun h => by
                  rcases (hSS _ h).1 with h | h
                  · have := hS0 _ h; omega
                  · omega) (by have := HO.out.base; omega)]
                exact HA4.out.cnt
              obtain ⟨ln, hln⟩ : ∃ ln, (l0 ++ handF p dnode lx (dests.take k)).length = ln := ⟨_, rfl⟩
              rw [hln] at hg5 HD5 hll
              have u0 : W5.cell? ⟨w3.heap.size, 0, none⟩ = some (.int .i64 (ln : Int)) := by rw [cell_of_row _ _ _ _ _ _ hg5]; rfl
              have u1 : W5.frozen? ⟨w3.heap.size, 0, none⟩ = false := by unfold World.frozen?; rw [hg5]; rfl
              have u2 : IntKind.i64.wrap ((ln : Int) + 1) = (ln : Int) + 1 := IntWalk.i64_in _ (by omega)
              clear z1 z2 z3 hg5 hH hSS hHr hSSr hH4 hH' hS' hl' hkp hb5 HCL hln HA4 HV4 HO HD
              gi_wp2
              go_roundw
              case rel => exact ⟨k + 1, HKL.out, by go_num, by rw [HRs.out, ← List.append_assoc]; exact HD5.out⟩
              case measure => have := HKL.out; simp [intOf]; omega
          · have hr : handF p node lx (dests.take (k + 1)) = handF p node lx (dests.take k) := by rw [HHS.out, if_neg (fun h => hq h.2)]; simp
            have hqb : (dnode != node) = true := by simpa using hq
            clear HD
            gi_wp2
            go_roundw
            case rel => exact ⟨k + 1, HKL.out, by go_num, by rw [hr]; exact HA1.out⟩
            case measure => have := HKL.out; simp [intOf]; omega
        · obtain rfl : k = dn := by omega
          have hfin : handF p node lx (dests.take k) = handF p node lx dests := by rw [List.take_of_length_le (by rw [HDN.out]; exact Nat.le_refl _)]
          rw [hfin] at HD
          gi_wp2
          have hrec : ({ { rec with state := .busy } with state := .ready, pending := none } : Loop) = rec := by
            have h1 := HST.out; have h2 := HPE.out
            cases rec
            simp only at h1 h2
            subst h1 h2
            rfl
          obtain ⟨S, hH, hSS⟩ := HD.out.hs
          obtain ⟨s1, s2⟩ := HD.out.siz
          obtain ⟨lo1, lo2, lo3⟩ := HD.out.low
          have hne : ∀ j, S j → j ≠ w1.heap.size + 1 := fun j hj => by
            rcases (hSS j hj).1 with h | h
            · have := hS0 j h; omega
            · omega
          refine ⟨none, { rec with state := .busy }, rfl, HD.out.lp, rfl, ?_⟩
          simp only [Option.isNone_none, if_true]
          rw [hrec]
          exact ⟨World.putObj_heap_same (by omega), (World.putObj_heap_other (by omega)).trans HD.out.df, vput_below HD.out.bel (by omega) (by omega) _, ⟨lo1, lo2, lo3⟩, by simp; omega, fun j h1 h2 h3 => (World.putObj_heap_other (by omega)).trans (HD.out.pre j h1 h2 h3), fun j h1 h2 => (World.putObj_heap_other (by omega)).trans (HD.out.old j h1 h2), (World.putObj_heap_other (by omega)).trans HD.out.cnt,
            S, HRc.out.keep _ _ _ _ hH (fun j hj => World.putObj_heap_other (hne j hj)) (by simp), fun j hj => ⟨(hSS j hj).1.imp id fun h => h.1, by have := (hSS j hj).2; simp; omega⟩⟩
    case hR =>
      intro W' vv I
      have hQ2 : (P.map Prod.fst).take P.length = ownL c owner c.links.length := by rw [← hLP]; exact List.take_of_length_le (by simp)
      rw [hQ2] at I
      refine ⟨⟨vv, rfl⟩, rec, I.lp, by rw [hst]; simp, ?_⟩
      rw [hpe]
      simp only []
      have hzw := I.siz
      obtain ⟨lo1, lo2, lo3⟩ := I.low
      obtain ⟨S, hH, hSS⟩ := I.hs
      have hne : ∀ j, S j → j ≠ w1.heap.size + 1 ∧ j ≠ w1.heap.size := fun j hj => by
        rcases (hSS j hj).1 with h | h
        · have := hS0 j h; omega
        · omega
      have hother : ∀ j, j ≠ w1.heap.size + 1 → (W'.putObj (w1.heap.size + 1) (.loop { state := .exhausted, pending := none, fn := rec.fn, tmps := rec.tmps, params := rec.params, assign := rec.assign, body := rec.body, defers := rec.defers })).heap[j]? = W'.heap[j]? := fun j hj => World.putObj_heap_other hj
      have HD4 := hide ((hother w1.heap.size (by omega)).trans I.df)
      have hc4 := (hother w3.heap.size (by omega)).trans I.cnt
      have HB4 := hide (vput_below (D := w1.heap.size + 1) I.bel (by omega) (by omega) (.loop { state := .exhausted, pending := none, fn := rec.fn, tmps := rec.tmps, params := rec.params, assign := rec.assign, body := rec.body, defers := rec.defers }))
      have HH4 := hide (HRc.out.keep _ _ _ _ hH (fun j hj => hother j (hne j hj).1) (by simp))
      have HO4 := hide (show ∀ j, j < w.heap.size → ¬ S0 j → (W'.putObj (w1.heap.size + 1) (.loop { state := .exhausted, pending := none, fn := rec.fn, tmps := rec.tmps, params := rec.params, assign := rec.assign, body := rec.body, defers := rec.defers })).heap[j]? = w.heap[j]? from fun j hj hn => (hother j (by omega)).trans (I.old j hj hn))
      have hz4 : W'.heap.size = (W'.putObj (w1.heap.size + 1) (.loop { state := .exhausted, pending := none, fn := rec.fn, tmps := rec.tmps, params := rec.params, assign := rec.assign, body := rec.body, defers := rec.defers })).heap.size := by simp
      have HSS := hide (show ∀ j, S j → (S0 j ∨ w.heap.size ≤ j) ∧ j < W'.heap.size from fun j hj => ⟨(hSS j hj).1.imp id fun h => by omega, (hSS j hj).2⟩)
      have HNE := hide hne
      rw [hz4] at HSS hzw
      clear hother I hQ2 hL hLP hBr hc1 hbw1 hb0 I0 hl hD hst hpe htm hps has hbo hH hSS hne hz4
      generalize W'.putObj (w1.heap.size + 1) (.loop { state := .exhausted, pending := none, fn := rec.fn, tmps := rec.tmps, params := rec.params, assign := rec.assign, body := rec.body, defers := rec.defers }) = W4 at *
      generalize hdl : dlF p node (ownL c owner c.links.length) = dl at *
      obtain ⟨ln, hln⟩ : ∃ ln : Nat, dl.length = ln := ⟨_, rfl⟩
      rw [hln] at hc4 HP2
      have u0 : W4.cell? ⟨w3.heap.size, 0, none⟩ = some (.int .i64 (ln : Int)) := by rw [cell_of_row _ _ _ _ _ _ hc4]; rfl
      clear hc4
      go_wp2
      rw [Exit.noGoto_ret]
      refine leaves_marked [w1.heap.size] _ (by intro D hD; rw [List.mem_singleton.1 hD]; exact HD4.out) (by simp) ?_
      intro W6 o1 o2 o3 o4 o5
      refine ⟨.tuple #[.int .i64 (ln : Int), .int .i64 0], by simp [results, Tryd.results20, go_sem], HP2.out _ _ (by first | trivial | rfl) rfl (HB4.out.trans ⟨o1, o2, o3, Nat.le_of_eq o4.symm, fun j hj => o5 j (by simp; omega)⟩) (fun j hj hn => (o5 j (by simp; omega)).trans (HO4.out j hj hn)) ⟨S, HRc.out.keep _ _ _ _ HH4.out (fun j hj => o5 j (by simp; exact (HNE.out j hj).2)) (Nat.le_of_eq o4.symm), fun j hj => ⟨(HSS.out j hj).1, by rw [o4]; exact (HSS.out j hj).2⟩⟩⟩
  · have hne : (f != 0) = true := by simpa using hf
    go_wp2
    rw [Exit.noGoto_ret]
    refine leaves_marked [] _ (by simp) (by simp) ?_
    intro W6 o1 o2 o3 o4 o5
    refine ⟨.tuple #[.int .i64 0, .int .i64 f], by simp [results, Tryd.results20, go_sem], HP1.out _ _ hf rfl (HX4.out.cf.bel.trans ⟨o1, o2, o3, Nat.le_of_eq o4.symm, fun j hj => o5 j (by simp)⟩)⟩
end Go.Proofs.YtdfpeilflinmhaaDoor
