/-
  What a payload tells.
-/
import Derived.Test.YtdfpeilflinmhaaDoorVlE
namespace Go.Proofs.YtdfpeilflinmhaaDoor
open Go.RowKit Go.Deep Go.Sort
attribute [local go_sem] Oper.semAt_some
set_option linter.unusedVariables false
set_option linter.unusedSimpArgs false

/-- a configuration and a payload in a function's own blocks -/
structure PyS (w W : World) (c : Conf) (d : Ad) (g : Nat) (p : List Nat) : Prop where
  cf : CfS w W c d
  pay : W.heap[g]? = some (.cells (bys p) 38 (0, 0))
theorem PyS.below {w W W' : World} {c : Conf} {d : Ad} {g : Nat} {p : List Nat} (h : PyS w W c d g p) (hb : Below W.heap.size W W') : PyS w W' c d g p :=
  ⟨h.cf.below hb, (hb.block _ (Array.getElem?_eq_some_iff.1 h.pay).1).trans h.pay⟩
theorem pay_bytes {W : World} {g : Nat} {p : List Nat} {t : TypeId} {fz : Nat × Nat} (h : W.heap[g]? = some (.cells (bys p) t fz)) (hpb : ∀ b ∈ p, b < 256) : Bytes W (some ⟨g, 0, none⟩) p := by
  refine ⟨hpb, .inr ⟨g, 0, rfl, (Array.getElem?_eq_some_iff.1 h).1, fun i hi => ?_⟩⟩
  rw [cell_of_row _ _ _ _ _ _ h, Nat.zero_add]
  simp [bys, hi, List.getD_eq_getElem?_getD]
theorem own_nat {c : Conf} (hm : MayK c) {node : Int} {n : Nat} (hn : n ≤ c.links.length) {x : Lr} (hx : x ∈ ownL c node n) : ∃ o s : Nat, x.off = (o : Int) ∧ x.siz = (s : Int) ∧ o + 1 + s ≤ 64 ∧ 1 ≤ s := by
  obtain ⟨k, hk, _, rfl⟩ := ownL_mem hx
  obtain ⟨h1, h2, h3, h4⟩ := hm.place (show k < c.links.length by omega)
  obtain ⟨o, ho⟩ := Int.eq_ofNat_of_zero_le h1
  obtain ⟨s, hs⟩ := Int.eq_ofNat_of_zero_le (show 0 ≤ (lrF c k).siz by omega)
  exact ⟨o, s, ho, hs, by omega, by omega⟩
/-- does a message stand there? -/
def yesF (p : List Nat) (x : Lr) : Bool := decide (p.getD x.off.toNat 0 = 1)
/-- which -/
def textF (p : List Nat) (x : Lr) : List Nat := dataF p x.off.toNat x.siz.toNat
def arC (p : List Nat) (q : Lr × Value) : List Value := [.int .i64 q.1.num, .bool (yesF p q.1), q.2]
theorem arC_len (p : List Nat) (q : Lr × Value) : (arC p q).length = 3 := rfl
theorem msg_kept {W W' : World} {base : Nat} {v : Value} {yes : Bool} {l : List Nat} (h : MsgAt W base v yes l) (hb : ∀ g, base ≤ g → g < W.heap.size → (∃ cur, W.heap[g]? = some (.cells cur 5 (0, 0))) → W'.heap[g]? = W.heap[g]?) : MsgAt W' base v yes l := by
  rcases h with h | ⟨h1, g, c, h2, h3⟩
  · exact .inl h
  · obtain ⟨cur, h4, _⟩ := h3.row
    exact .inr ⟨h1, g, c, h2, h3.kept (hb g h3.base h3.blk ⟨cur, h4⟩)⟩
theorem msg_below {W W' : World} {base : Nat} {v : Value} {yes : Bool} {l : List Nat} (h : MsgAt W base v yes l) (hb : Below W.heap.size W W') : MsgAt W' base v yes l := msg_kept h fun g _ hg _ => hb.block g hg
theorem msg_from {W : World} {base base' : Nat} {v : Value} {yes : Bool} {l : List Nat} (h : MsgAt W base v yes l) (hb : base' ≤ base) : MsgAt W base' v yes l := by
  rcases h with h | ⟨h1, g, c, h2, h3⟩
  · exact .inl h
  · exact .inr ⟨h1, g, c, h2, h3.from (by have := h3.base; omega)⟩
theorem msg_one {W : World} {base : Nat} {v : Value} {yes : Bool} {l : List Nat} (h : MsgAt W base v yes l) : ∃ A n c, v = .slice A n c := by
  rcases h with ⟨_, rfl⟩ | ⟨_, g, c, rfl, _⟩
  · exact ⟨_, _, _, rfl⟩
  · exact ⟨_, _, _, rfl⟩
/-- arrivals: where they lie -/
structure ArAt (W : World) (base : Nat) (v : Value) (p : List Nat) (Q : List (Lr × Value)) : Prop where
  row : W.ownsRow base 55 3 v Q.length (Q.flatMap (arC p))
  ms : ∀ q ∈ Q, MsgAt W base q.2 (yesF p q.1) (textF p q.1)
section
variable {W W' : World} {base : Nat} {v : Value} {p : List Nat} {Q : List (Lr × Value)}
theorem ArAt.stands (x : ArAt W base v p Q) (hb : ∀ k, base ≤ k → k < W.heap.size → W'.heap[k]? = W.heap[k]?) : ArAt W' base v p Q :=
  ⟨ow_stands x.row fun k hk => hb k (ow_block x.row hk).2.1 (ow_block x.row hk).1, fun q hq => msg_kept (x.ms q hq) fun g h1 h2 _ => hb g h1 h2⟩
theorem ArAt.below (x : ArAt W base v p Q) (hb : Below W.heap.size W W') : ArAt W' base v p Q := x.stands fun k _ hk => hb.block k hk
theorem ArAt.nil (W : World) (base : Nat) (p : List Nat) : ArAt W base (.slice none 0 0) p [] := ⟨⟨rfl, .inl ⟨rfl, rfl⟩⟩, fun q hq => by cases hq⟩
theorem ArAt.from {base' : Nat} (x : ArAt W base v p Q) (h : base' ≤ base) : ArAt W base' v p Q := ⟨ow_from x.row h, fun q hq => msg_from (x.ms q hq) h⟩
theorem ArAt.more (x : ArAt W base v p Q) {q : Lr × Value} (hq : MsgAt W base q.2 (yesF p q.1) (textF p q.1)) {v' : Value} (hr : W'.ownsRow base 55 3 v' (Q.length + 1) (Q.flatMap (arC p) ++ arC p q)) (hg : W.grownBy W' v.ownBlock) : ArAt W' base v' p (Q ++ [q]) := by
  have hk : ∀ {q : Lr × Value}, MsgAt W base q.2 (yesF p q.1) (textF p q.1) → MsgAt W' base q.2 (yesF p q.1) (textF p q.1) := fun {q} h => msg_kept h fun k _ h1 h2 => by
    obtain ⟨cur, h2⟩ := h2
    exact hg.block k h1 fun e => ow_ne x.row h2 (by decide) e.symm
  refine ⟨by simpa using hr, fun y hy => ?_⟩
  rcases List.mem_append.1 hy with h | h
  · exact hk (x.ms y h)
  · obtain rfl := List.mem_singleton.1 h
    exact hk hq
end

theorem vput_below {B D : Nat} {w W : World} (h : Below B w W) (hD : B ≤ D) (hL : D < W.heap.size) (o : Obj) : Below B w (W.putObj D o) :=
  h.trans ((Below.refl B W).grown (grownBy_putObj' W D o) (by omega) (fun k e => by cases e; omega))
theorem vset_below {B g k : Nat} {w W : World} (h : Below B w W) (hg : B ≤ g) (v : Value) : Below B w (W.setCell ⟨g, k, none⟩ v) := h.setCell (p := ⟨g, k, none⟩) hg v
theorem info_arr : (Tryd.prog.info? 55).map (fun i => (i.zero, i.size, i.bytes)) = some (some (.agg #[.int .i64 0, .bool false, .slice none 0 0]), 3, 40) := by kernel_rfl
theorem cells_new3 (W : World) (u1 u2 u3 : Value) (t : TypeId) : ∀ (j : Nat) (y : Value), [u1, u2, u3][j]? = some y → (W.alloc (.cells #[u1, u2, u3] t)).cell? ((⟨W.heap.size, 0, none⟩ : Addr).add j) = some y := by
  intro j y hy
  have hq := heap_alloc_new W (.cells #[u1, u2, u3] t)
  rw [plain_add, cell_of_row _ _ _ _ _ _ hq]
  rcases j with _ | _ | _ | j
  · simpa using hy
  · simpa using hy
  · simpa using hy
  · simp at hy

/-- what holds while a payload's messages are told: the list's box is ga -/
structure UnI (w w1 : World) (ga : Nat) (rec : Loop) (p : List Nat) (Q : List (Lr × Value)) (W : World) : Prop where
  lp : W.heap[w1.heap.size + 1]? = some (.loop rec)
  df : W.heap[w1.heap.size]? = some (.deferred (some []))
  bel : Below w.heap.size w W
  siz : w1.heap.size + 2 ≤ W.heap.size
  pre : ∀ j, j < w1.heap.size → j ≠ ga → W.heap[j]? = w1.heap[j]?
  row : ∃ h' : Value, W.heap[ga]? = some (.cells #[h'] 42 (0, 0)) ∧ ArAt W (w1.heap.size + 2) h' p Q
theorem UnI.later {w w1 : World} {ga : Nat} {rec : Loop} {p : List Nat} {Q : List (Lr × Value)} {W W' : World} (I : UnI w w1 ga rec p Q W) (hw : ga < w1.heap.size) (hb : Below W.heap.size W W') : UnI w w1 ga rec p Q W' := by
  have hs := I.siz
  obtain ⟨h', h1, h2⟩ := I.row
  exact ⟨(hb.block _ (by omega)).trans I.lp, (hb.block _ (by omega)).trans I.df, I.bel.trans (hb.mono I.bel.size), Nat.le_trans hs hb.size, fun j hj hn => (hb.block _ (by omega)).trans (I.pre j hj hn), h', (hb.block _ (by omega)).trans h1, h2.below hb⟩
theorem map_take_snoc {α β : Type} {f : α → β} {Q : List α} {q : α} {L : List β} {n : Nat} {x : β} (h : Q.map f = L.take n) (hx : L[n]? = some x) (hq : f q = x) : (Q ++ [q]).map f = L.take (n + 1) := by
  rw [List.map_append, h, List.take_add_one, hx]
  simp [hq]

/-- what Unpack answers -/
def UnPost (c : Conf) (owner : Int) (p : List Nat) (w : World) (e : Ending) (w' : World) : Prop :=
  Below w.heap.size w w' ∧ ((refF c [owner] ≠ 0 ∧ e = .returned (.tuple #[.slice none 0 0, .int .i64 (refF c [owner])])) ∨
    (refF c [owner] = 0 ∧ ∃ v Q, e = .returned (.tuple #[v, .int .i64 0]) ∧ ArAt w' w.heap.size v p Q ∧ Q.map Prod.fst = ownL c owner c.links.length))
theorem refF_zero {c : Conf} {l : List Int} (h : refF c l = 0) : checkF c = 0 ∧ ∀ z ∈ l, okN c z := by
  unfold refF at h
  split at h
  · rename_i h1
    split at h
    · rename_i h2; exact ⟨h1, h2⟩
    · cases h
  · rename_i h1; exact absurd h h1

set_option maxRecDepth 100000 in
set_option maxHeartbeats 4000000 in
theorem unpack_at (c : Conf) (d : Ad) (owner : Int) (hown : I64 owner) (p : List Nat) (hpl : p.length = 64) (hpb : ∀ b ∈ p, b < 256) (w : World) (hg : Glo w) (h : ConfAt w c d) :
    Calls Tryd.prog 18 #[c.val d, .int .i64 owner, .agg (bys p)] w (UnPost c owner p w) := by
  have hS := CfS.first 28 hg h
  have HR := hide (fun W (H : CfS w W c d) A m (hI : Ints W A [owner]) => refusal_at c d [owner] A m W H.g H.cf hI (by simp))
  have HLs := hide (fun W (H : CfS w W c d) (hm : MayK c) => linksOf_at c d owner W H.g H.cf hm)
  have HMay := hide (fun h0 : refF c [owner] = 0 => may_of (refF_zero h0).1)
  have HP : Hid (∀ e w', UnPost c owner p w e w' ↔ Below w.heap.size w w' ∧ ((refF c [owner] ≠ 0 ∧ e = .returned (.tuple #[.slice none 0 0, .int .i64 (refF c [owner])])) ∨
    (refF c [owner] = 0 ∧ ∃ v Q, e = .returned (.tuple #[v, .int .i64 0]) ∧ ArAt w' w.heap.size v p Q ∧ Q.map Prod.fst = ownL c owner c.links.length))) := fun _ _ => Iff.rfl
  generalize UnPost c owner p w = PP at HP ⊢
  generalize refF c [owner] = f at HR HP HMay
  have hS2 : PyS w ((w.alloc (.cells (c.cells d) 28)).alloc (.cells (bys p) 38)) c d (w.heap.size + 1) p := ⟨hS.below (bal _ _), by
    have := heap_alloc_new (w.alloc (.cells (c.cells d) 28)) (.cells (bys p) 38)
    simpa using this⟩
  clear hS hg h
  obtain ⟨oA, oC, pA, pC, wA, wC, qA, qC, lA, lC⟩ := d
  unfold Conf.val at HR HLs ⊢
  unfold Conf.cells at hS2
  dsimp only at hS2 HR HLs ⊢
  generalize hcs : bys p = cs at hS2 ⊢
  have hi3 := info_arr
  rcases hi : Tryd.prog.info? 55 with _ | i
  · rw [hi] at hi3; cases hi3
  rw [hi] at hi3
  simp only [Option.map_some, Option.some.injEq, Prod.mk.injEq] at hi3
  obtain ⟨hiz, his, hib⟩ := hi3
  have HI := hide hi; have HIZ := hide hiz; have HIS := hide his; have HIB := hide hib
  clear hi hiz his hib
  refine calls_of_wp_marks Tryd.func18 rfl ?_
  simp only [Tryd.ntmps18, List.size_toArray, List.length_cons, List.length_nil, Nat.reduceAdd, Nat.reduceSub, Array.replicate_succ, Array.replicate_zero, List.push_toArray, List.append_toArray, List.nil_append, List.cons_append]
  go_upto_region 1 with fail
  have HS := hide hS2
  clear hS2
  generalize ((w.alloc (.cells #[.int .i64 c.nodes, .slice oA c.owners.length oC, .int .i64 c.drift, .int .i64 c.reading, .int .i64 c.margin, .int .i64 c.bound, .int .i64 c.rejoin, .int .i64 c.quota, .slice pA c.parts.length pC, .slice wA c.windows.length wC, .slice qA c.ports.length qC, .slice lA c.links.length lC] 28)).alloc (.cells cs 38)) = w2 at HS ⊢
  obtain ⟨_, ⟨_, e0, e1, e2, e3, e4, e5, e6, e7, e8, e9, e10, e11⟩, _, _⟩ := HS.out.cf
  dsimp only at e0 e1 e2 e3 e4 e5 e6 e7 e8 e9 e10 e11
  have hb3 := bal w2 (.cells #[.int .i64 owner] 3)
  have hI3 : Ints (w2.alloc (.cells #[.int .i64 owner] 3)) (some ⟨w2.heap.size, 0, none⟩) [owner] := ⟨by simpa using hown, .inr ⟨_, 0, rfl, by simp, fun i hi => by
    obtain rfl : i = 0 := by simpa using hi
    rw [cell_of_row _ _ _ _ _ _ (heap_alloc_new w2 _)]; rfl⟩⟩
  have HS3 := hide (HS.out.below hb3); have HI3 := hide hI3
  clear hb3 hI3
  go_wp2_with fail
  refine (HR.out _ HS3.out.cf _ 1 HI3.out).mono ?_
  rintro e w3 ⟨rfl, hb⟩
  have HS4 := hide (HS3.out.below hb)
  clear hb HS3 HI3 HS e0 e1 e2 e3 e4 e5 e6 e7 e8 e9 e10 e11 HR
  by_cases hf : f = 0
  · subst hf
    have HM := hide (HMay.out rfl)
    clear HMay
    have hA := HS4.out.below (bal w3 (.cells #[.slice none 0 0] 42))
    have hAr := heap_alloc_new w3 (.cells #[.slice none 0 0] 42)
    have hAz : (w3.alloc (.cells #[.slice none 0 0] 42)).heap.size = w3.heap.size + 1 := by simp
    have HA := hide hA; have HAR := hide hAr; have HAZ := hide hAz
    have hga : w.heap.size ≤ w3.heap.size := HS4.out.cf.bel.size
    have hgp : w.heap.size + 1 < w3.heap.size := (Array.getElem?_eq_some_iff.1 HS4.out.pay).1
    clear hA hAr hAz HS4
    go_upto_region 5 with fail
    generalize w3.alloc (.cells #[.slice none 0 0] 42) = wA at HA HAR HAZ ⊢
    obtain ⟨_, ⟨_, e0, e1, e2, e3, e4, e5, e6, e7, e8, e9, e10, e11⟩, _, _⟩ := HA.out.cf
    dsimp only at e0 e1 e2 e3 e4 e5 e6 e7 e8 e9 e10 e11
    go_wp2_with fail
    refine (HLs.out _ HA.out.cf HM.out).mono ?_
    rintro e w1 ⟨B, v, P, rfl, ⟨hB1, hB2⟩, hBr, hL, hLP, hb2⟩
    clear e0 e1 e2 e3 e4 e5 e6 e7 e8 e9 e10 e11 HLs
    go_wp2_with fail
    have hz3 : w3.heap.size < w1.heap.size := by have := hb2.size; have := HAZ.out; omega
    have hbw1 : Below w.heap.size w w1 := HA.out.cf.bel.trans (hb2.mono (by have := HAZ.out; omega))
    have hv1 : w1.heap[w3.heap.size]? = some (.cells #[.slice none 0 0] 42 (0, 0)) := (hb2.block _ (by have := HAZ.out; omega)).trans HAR.out
    have hp1 : w1.heap[w.heap.size + 1]? = some (.cells cs 38 (0, 0)) := (hb2.block _ (by have := HAZ.out; omega)).trans (by rw [← hcs]; exact HA.out.pay)
    have hPlen : P.length ≤ 64 := by
      have h1 := congrArg List.length hLP
      have h2 := ownL_len c owner c.links.length
      have h3 := HM.out.nl
      simp at h1; omega
    refine wp_range2 (g := .tmp 22) rfl (enters_of Tryd.func79 (by kernel_rfl) rfl) ?_
    rintro W0 rec hl hD hb0 hz0 hst hpe htm hps has hbo
    have I0 : UnI w w1 w3.heap.size rec p [] W0 := ⟨hl, hD, hbw1.trans (hb0.mono hbw1.size), hz0, fun j hj _ => hb0.block j hj, .slice none 0 0, (hb0.block _ hz3).trans hv1, ArAt.nil _ _ _⟩
    refine links1_all (base := wA.heap.size) (v := v) (P := P) 1 (w1.heap.size + 1) W0 _ (fun n W => ∃ Q, UnI w w1 w3.heap.size rec p Q W ∧ Q.map Prod.fst = (P.map Prod.fst).take n) (fun W' hb => ⟨[], I0.later hz3 hb, rfl⟩) (by omega) ?hI ?hY ?hR
    case hI =>
      rintro n W' ⟨Q, I, _⟩
      have hzA := HAZ.out
      refine ⟨?_, hL.stands fun k hk1 hk2 => I.pre k hk2 (by omega)⟩
      have h1 := I.pre B hB2 (by omega)
      rw [hBr] at h1
      rw [cell_of_row _ _ _ _ _ _ h1]; rfl
    case hY =>
      rintro n q W1 W2 hn ⟨Q, I, hQ⟩ hb
      have I2 := I.later hz3 hb
      have hq1 : q.1 ∈ ownL c owner c.links.length := by rw [← hLP]; exact List.mem_map_of_mem (List.mem_of_getElem? hn)
      obtain ⟨o, s, ho, hs, hos, hs1⟩ := own_nat HM.out (Nat.le_refl _) hq1
      have hQ1 : ∀ dv, (Q ++ [(q.1, dv)]).map Prod.fst = (P.map Prod.fst).take (n + 1) := fun dv => map_take_snoc hQ (by rw [List.getElem?_map, hn]; rfl) rfl
      have hQl : Q.length ≤ 64 := by
        have := congrArg List.length hQ
        simp at this; omega
      have hyes : yesF p q.1 = decide (p.getD o 0 = 1) := by unfold yesF; rw [ho]; rfl
      have htxt : textF p q.1 = dataF p o s := by unfold textF; rw [ho, hs]; rfl
      have HQ1 := hide hQ1; have HYes := hide hyes; have HTxt := hide htxt
      have hpay : W2.heap[w.heap.size + 1]? = some (.cells cs 38 (0, 0)) := by rw [I2.pre _ (by omega) (by omega)]; exact hp1
      obtain ⟨dA, dn, dc, hdv⟩ : ∃ A n c, q.2 = .slice A n c := by obtain ⟨A, c, h⟩ := ow_slice (hL.ds q (List.mem_of_getElem? hn)); exact ⟨_, _, _, h⟩
      clear I hb hQ hQ1 hyes htxt hL hLP hBr hn hq1
      obtain ⟨x, dv0⟩ := q
      obtain ⟨num, src, off, siz, dests⟩ := x
      dsimp only at ho hs HQ1 HYes HTxt hdv ⊢
      subst ho hs hdv
      have hzs := I2.siz
      refine yield_at I2.lp (by rw [hps]; rfl) ?_
      rw [has, hps, htm]
      have HI2 := hide I2; have HST := hide hst; have HPE := hide hpe; have HBO := hide hbo; have HPY := hide hpay
      clear I2 hst hpe hbo htm hps has hpay hv1 hp1 hbw1 hb0 hb2 I0 hl hD hB1 hB2
      gi_wp2
      refine ⟨rec, (heap_alloc_old W2 _ (by omega)).trans HI2.out.lp, HST.out, ?_⟩
      have hIa := HI2.out.later hz3 (bal W2 (.cells #[.int .i64 num, .int .i64 src, .int .i64 (o : Int), .int .i64 (s : Int), .slice dA dn dc] 134))
      have hLa := heap_alloc_new W2 (.cells #[.int .i64 num, .int .i64 src, .int .i64 (o : Int), .int .i64 (s : Int), .slice dA dn dc] 134)
      have hPa := (heap_alloc_old W2 (.cells #[.int .i64 num, .int .i64 src, .int .i64 (o : Int), .int .i64 (s : Int), .slice dA dn dc] 134) (by omega)).trans HPY.out
      have hza : (W2.alloc (.cells #[.int .i64 num, .int .i64 src, .int .i64 (o : Int), .int .i64 (s : Int), .slice dA dn dc] 134)).heap.size = W2.heap.size + 1 := by simp
      obtain ⟨bl, hbl⟩ : ∃ bl, W2.heap.size = bl := ⟨_, rfl⟩
      rw [hbl] at hLa hza hzs ⊢
      generalize W2.alloc (.cells #[.int .i64 num, .int .i64 src, .int .i64 (o : Int), .int .i64 (s : Int), .slice dA dn dc] 134) = Wa at hIa hLa hPa hza ⊢
      clear HI2 HPY hbl
      obtain ⟨h', hsb, hrow⟩ := hIa.row
      have hput : ∀ j, j ≠ w1.heap.size + 1 → (Wa.putObj (w1.heap.size + 1) (.loop { rec with state := .busy })).heap[j]? = Wa.heap[j]? := fun j h1 => World.putObj_heap_other h1
      have HL3 := hide (World.putObj_heap_same (w := Wa) (r := w1.heap.size + 1) (o := .loop { rec with state := .busy }) (by omega))
      have HAR3 := hide (hrow.stands (W' := Wa.putObj (w1.heap.size + 1) (.loop { rec with state := .busy })) fun k h1 _ => hput k (by omega))
      have HSB3 := hide ((hput w3.heap.size (by omega)).trans hsb)
      have HPY3 := hide ((hput (w.heap.size + 1) (by omega)).trans hPa)
      have HLR3 := hide ((hput bl (by omega)).trans hLa)
      have HBW3 := hide (vput_below (D := w1.heap.size + 1) hIa.bel (by omega) (by omega) (.loop { rec with state := .busy }))
      have HPRE3 := hide (show ∀ j, j < w1.heap.size → j ≠ w3.heap.size → (Wa.putObj (w1.heap.size + 1) (.loop { rec with state := .busy })).heap[j]? = w1.heap[j]? from fun j hj hn => (hput j (by omega)).trans (hIa.pre j hj hn))
      have HDF3 := hide ((hput w1.heap.size (by omega)).trans hIa.df)
      have hz4 : bl < (Wa.putObj (w1.heap.size + 1) (.loop { rec with state := .busy })).heap.size := by simp; omega
      clear hput hsb hrow hIa hLa hPa hza
      generalize Wa.putObj (w1.heap.size + 1) (.loop { rec with state := .busy }) = W3 at *
      have q : ∀ k u, #[Value.int .i64 num, .int .i64 src, .int .i64 (o : Int), .int .i64 (s : Int), .slice dA dn dc][k]? = some u → W3.cell? ⟨bl, k, none⟩ = some u := fun k u hu => by rw [cell_of_row _ _ _ _ _ _ HLR3.out]; exact hu
      have q0 := q 0 _ rfl
      have q1 := q 1 _ rfl
      have q2 := q 2 _ rfl
      have q3 := q 3 _ rfl
      have q4 := q 4 _ rfl
      clear q
      rw [HBO.out]
      clear HBO
      gi_wp2
      refine ⟨trivial, rfl, callsIn_wide.2 ((message_at num src (.slice dA dn dc) (w.heap.size + 1) o s p hos hs1 W3 (pay_bytes (by rw [hcs]; exact HPY3.out) hpb) hpl).mono ?_)⟩
      rintro e W4 ⟨dv, rfl, hb4, hm⟩
      rw [← HYes.out, ← HTxt.out] at hm
      have HMS := hide (msg_from hm (show w1.heap.size + 2 ≤ W3.heap.size by omega))
      obtain ⟨mA, mn, mc, hdv⟩ := msg_one hm
      subst hdv
      rw [← HYes.out]
      generalize hye : yesF p ⟨num, src, o, s, dests⟩ = yes at HMS HYes ⊢
      have HYE := hide hye
      clear hye
      have HAR4 := hide (HAR3.out.below hb4)
      have HSB4 := hide ((hb4.block _ (by omega)).trans HSB3.out)
      have HL4 := hide ((hb4.block _ (by omega)).trans HL3.out)
      have HDF4 := hide ((hb4.block _ (by omega)).trans HDF3.out)
      have HBW4 := hide (HBW3.out.trans (hb4.mono HBW3.out.size))
      have HPRE4 := hide (show ∀ j, j < w1.heap.size → j ≠ w3.heap.size → W4.heap[j]? = w1.heap[j]? from fun j hj hn => (hb4.block _ (by omega)).trans (HPRE3.out j hj hn))
      have q0 : W4.cell? ⟨bl, 0, none⟩ = some (.int .i64 num) := by rw [bcl hb4 hz4]; exact q0
      have hz5 := hb4.size
      have cs4 : W4.cell? ⟨w3.heap.size, 0, none⟩ = some h' := by rw [cell_of_row _ _ _ _ _ _ HSB4.out]; rfl
      obtain ⟨hA', hn', hc', hhv⟩ : ∃ A n c, h' = .slice A n c := by obtain ⟨A, c, h⟩ := ow_slice HAR4.out.row; exact ⟨_, _, _, h⟩
      clear q1 q2 q3 q4 hm hb4 HAR3 HSB3 HL3 HDF3 HBW3 HPRE3 HPY3 HLR3
      subst hhv
      gi_wp2_with (first
        | (gi_at_builtin
           refine wpListIn_append_own _ rfl _ _ 42 rfl (w1.heap.size + 2) 55 i (.agg #[.int .i64 0, .bool false, .slice none 0 0]) 3 40 Tryd.underlying42 HI.out HIZ.out HIS.out HIB.out rfl (by decide) (.slice hA' hn' hc') Q.length (Q.flatMap (arC p)) rfl (HAR4.out.row.alloc _) ⟨W4.heap.size, 0, none⟩ 1 1 [.int .i64 num, .bool yes, .slice mA mn mc] rfl rfl (cells_new3 _ _ _ _ _) (by simp [Value.oneCell']) (by simp only [maxLen]; omega) (by omega) (by simp; omega) ?_
           intro v' w5 hown5 hgr5 _
           obtain ⟨A5, k5, c5, hv5⟩ : ∃ A n c, v' = .slice A n c := by obtain ⟨A, c, h⟩ := ow_slice hown5; exact ⟨_, _, _, h⟩
           subst hv5
           have hsb5 := (hgr5.block w3.heap.size (by simp; omega) (by
             intro e
             have := (ow_block HAR4.out.row e.symm).2.1
             omega)).trans ((heap_alloc_old W4 _ (by omega)).trans HSB4.out)
           have cs5 : w5.cell? ⟨w3.heap.size, 0, none⟩ = some (.slice hA' hn' hc') := by rw [cell_of_row _ _ _ _ _ _ hsb5]; rfl
           have fs5 : w5.frozen? ⟨w3.heap.size, 0, none⟩ = false := by unfold World.frozen?; rw [hsb5]; rfl
           have HOWN5 := hide hown5; have HGR5 := hide hgr5; have HSB5 := hide hsb5
           clear hown5 hgr5 hsb5))
      have hrec : ({ { rec with state := .busy } with state := .ready, pending := none } : Loop) = rec := by
        have h1 := HST.out; have h2 := HPE.out
        cases rec
        simp only at h1 h2
        subst h1 h2
        rfl
      have hal := bal W4 (.cells #[.int .i64 num, .bool yes, .slice mA mn mc] 55)
      have hM5 := (HAR4.out.below hal).more (q := (⟨num, src, o, s, dests⟩, .slice mA mn mc)) (v' := .slice A5 k5 c5) (msg_below (by rw [HYE.out]; exact HMS.out) hal) (by unfold arC; rw [HYE.out]; exact HOWN5.out) HGR5.out
      have hg5 := HGR5.out.size
      simp only [World.size_alloc] at hg5
      have key : ∀ j, j < w1.heap.size + 2 → j ≠ w3.heap.size → (w5.setCell ⟨w3.heap.size, 0, none⟩ (.slice A5 k5 c5)).heap[j]? = W4.heap[j]? := by
        intro j hj hn
        rw [setCell_other hn, HGR5.out.block j (by simp; omega) (fun e => by have := (ow_block HAR4.out.row e.symm).2.1; omega), heap_alloc_old W4 _ (by omega)]
      have hz6 : w1.heap.size + 2 ≤ (w5.setCell ⟨w3.heap.size, 0, none⟩ (.slice A5 k5 c5)).heap.size := by rw [vset_size]; omega
      refine ⟨none, { rec with state := .busy }, rfl, (key _ (by omega) (by omega)).trans HL4.out, rfl, ?_⟩
      simp only [Option.isNone_none, if_true]
      rw [hrec]
      refine ⟨Q ++ [(⟨num, src, o, s, dests⟩, .slice mA mn mc)], ⟨World.putObj_heap_same (by omega), (World.putObj_heap_other (by omega)).trans ((key _ (by omega) (by omega)).trans HDF4.out), vput_below (vset_below ((HBW4.out.alloc (by omega) _).trans ((Below.refl _ _).grown HGR5.out (by simp; omega) (fun j hj => by have := (ow_block HAR4.out.row hj).2.1; omega))) hga _) (by omega) (by omega) _, by simp; omega, fun j hj hn => ?_, .slice A5 k5 c5, ?_, ?_⟩, HQ1.out _⟩
      · rw [World.putObj_heap_other (by omega), key j (by omega) hn]
        exact HPRE4.out j hj hn
      · rw [World.putObj_heap_other (by omega), vset_row HSB5.out]
        rfl
      · exact hM5.stands fun k h1 h2 => by rw [World.putObj_heap_other (by omega), setCell_other (by omega)]
    case hR =>
      rintro W' vv ⟨Q, I, hQ⟩
      obtain ⟨h', hsb, hrow⟩ := I.row
      refine ⟨⟨vv, rfl⟩, rec, I.lp, by rw [hst]; simp, ?_⟩
      rw [hpe]
      simp only []
      have hzw := I.siz
      have hQ2 : Q.map Prod.fst = ownL c owner c.links.length := by rw [hQ, ← hLP]; exact List.take_of_length_le (by simp)
      have hother : ∀ j, j ≠ w1.heap.size + 1 → (W'.putObj (w1.heap.size + 1) (.loop { state := .exhausted, pending := none, fn := rec.fn, tmps := rec.tmps, params := rec.params, assign := rec.assign, body := rec.body, defers := rec.defers })).heap[j]? = W'.heap[j]? := fun j hj => World.putObj_heap_other hj
      have HD4 := hide ((hother w1.heap.size (by omega)).trans I.df)
      have hsb4 := (hother w3.heap.size (by omega)).trans hsb
      have HB4 := hide (vput_below (D := w1.heap.size + 1) I.bel (by omega) (by omega) (.loop { state := .exhausted, pending := none, fn := rec.fn, tmps := rec.tmps, params := rec.params, assign := rec.assign, body := rec.body, defers := rec.defers }))
      have HAR4 := hide (hrow.stands (W' := W'.putObj (w1.heap.size + 1) (.loop { state := .exhausted, pending := none, fn := rec.fn, tmps := rec.tmps, params := rec.params, assign := rec.assign, body := rec.body, defers := rec.defers })) fun j h1 _ => hother j (by omega))
      have hz4 : w1.heap.size + 2 ≤ (W'.putObj (w1.heap.size + 1) (.loop { state := .exhausted, pending := none, fn := rec.fn, tmps := rec.tmps, params := rec.params, assign := rec.assign, body := rec.body, defers := rec.defers })).heap.size := by simp; omega
      obtain ⟨A4, n4, c4, hh4⟩ : ∃ A n c, h' = .slice A n c := by obtain ⟨A, c, h⟩ := ow_slice hrow.row; exact ⟨_, _, _, h⟩
      have HQ2 := hide hQ2
      clear hother hsb hrow I hQ hQ2 hL hLP hBr hv1 hp1 hbw1 hb0 hb2 I0 hl hD hst hpe htm hps has hbo
      generalize W'.putObj (w1.heap.size + 1) (.loop { state := .exhausted, pending := none, fn := rec.fn, tmps := rec.tmps, params := rec.params, assign := rec.assign, body := rec.body, defers := rec.defers }) = W4 at *
      have cs : W4.cell? ⟨w3.heap.size, 0, none⟩ = some h' := by rw [cell_of_row _ _ _ _ _ _ hsb4]; rfl
      subst hh4
      clear hsb4
      go_wp2
      refine leaves_marked [w1.heap.size] _ (by intro D hD; rw [List.mem_singleton.1 hD]; exact HD4.out) (by simp) ?_
      intro W6 o1 o2 o3 o4 o5
      have hb6 : Below w.heap.size w W6 := HB4.out.trans ⟨o1, o2, o3, Nat.le_of_eq o4.symm, fun j hj => o5 j (by simp; omega)⟩
      refine ⟨.tuple #[.slice A4 n4 c4, .int .i64 0], by simp [results, Tryd.results18, go_sem], (HP.out _ _).2 ⟨hb6, .inr ⟨by first | trivial | rfl, _, Q, rfl, ?_, HQ2.out⟩⟩⟩
      exact (HAR4.out.stands fun k h1 _ => o5 k (by simp; omega)).from (by omega)
  · have hne : (f != 0) = true := by simpa using hf
    go_wp2
    refine leaves_marked [] _ (by simp) (by simp) ?_
    intro W6 o1 o2 o3 o4 o5
    refine ⟨.tuple #[.slice none 0 0, .int .i64 f], by simp [results, Tryd.results18, go_sem], (HP.out _ _).2 ⟨HS4.out.cf.bel.trans ⟨o1, o2, o3, Nat.le_of_eq o4.symm, fun j hj => o5 j (by simp)⟩, .inl ⟨hf, rfl⟩⟩⟩
end Go.Proofs.YtdfpeilflinmhaaDoor
