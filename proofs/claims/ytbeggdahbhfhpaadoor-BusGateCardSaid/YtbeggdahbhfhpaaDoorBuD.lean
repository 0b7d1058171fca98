/-
  The bus: Carry.
-/
import Derived.Test.YtbeggdahbhfhpaaDoorBuC
namespace Go.Proofs.YtbeggdahbhfhpaaDoor
open Go.RowKit Go.Deep
set_option linter.unusedVariables false
set_option linter.unusedSimpArgs false

def nilR (n : Nat) : List Value := List.replicate n (.slice none 0 0)
theorem info_u8s : (Tryd.prog.info? 45).map (fun i => (i.zero, i.size, i.bytes)) = some (some (.slice none 0 0), 1, 24) := by kernel_rfl
theorem bmake_rows (n : Nat) (hn : n ≤ 100000) (W : World) : (Instr.makeSlice 39 (.int .i64 (n : Int)) (.int .i64 (n : Int))).run Tryd.prog W = .ok (.slice (some ⟨W.heap.size, 0, none⟩) n n) (W.alloc (.cells (nilR n).toArray 45)) := by
  have hi3 := info_u8s
  rcases hi : Tryd.prog.info? 45 with _ | i
  · rw [hi] at hi3; cases hi3
  rw [hi] at hi3
  simp only [Option.map_some, Option.some.injEq, Prod.mk.injEq] at hi3
  obtain ⟨hz, hs2, hb⟩ := hi3
  have hm := run_make (P := Tryd.prog) W 39 45 i (.slice none 0 0) Tryd.underlying39 hi hz .i64 .i64 (n : Int) (n : Int) (by omega) (by omega) (by rw [hb]; omega) (by omega)
  rw [hm]
  have e : madeCells (Value.slice none 0 0).cells n = (nilR n).toArray := by
    unfold nilR
    apply Array.ext_getElem?
    intro j
    by_cases hj : j < n
    · simp [madeCells, Value.cells, hj, Nat.mod_one]
    · simp [madeCells, hj]
  simp [hs2, e]
theorem set_nxt (l : List Value) (m : Nat) (v : Value) : (l ++ nilR (m + 1)).set l.length v = l ++ [v] ++ nilR m := by
  unfold nilR
  rw [List.replicate_succ, List.set_append_right _ _ (Nat.le_refl _), Nat.sub_self]
  simp
theorem RecV.slice {W : World} {base : Nat} {v : Value} {r : Option (List Nat)} (h : RecV W base v r) : ∃ A n c, v = .slice A n c := by
  rcases r with _ | l
  · exact ⟨none, 0, 0, h⟩
  · obtain ⟨q, c, e, _⟩ := h
    exact ⟨_, _, _, e⟩
theorem RecV.gk {W W' : World} {base rb : Nat} {v : Value} {r : Option (List Nat)} (h : RecV W base v r) (hg : Gk rb W W') (ht : ∃ cur, W.heap[rb]? = some (.cells cur 45 (0, 0))) : RecV W' base v r := by
  rcases r with _ | l
  · exact h
  · obtain ⟨q, c, e, h1, h2⟩ := h
    refine ⟨q, c, e, h1, h2.kept (hg.blk q h2.blk ?_)⟩
    rintro rfl
    obtain ⟨cur, hc⟩ := ht
    obtain ⟨cur2, hc2, _⟩ := h2.row
    rw [hc] at hc2
    cases hc2
theorem BuAt.gk {W W' : World} {g ob oc rb : Nat} {k : Bu} (x : BuAt W g ob oc k) (h : Gk rb W W') (h1 : g ≠ rb) (h2 : ob ≠ rb) : BuAt W' g ob oc k :=
  have hg := h.blk g x.lt h1
  have ho := h.blk ob x.ol h2
  ⟨Nat.lt_of_lt_of_le x.lt h.siz, (bcell_kept hg).trans x.c0, fun j v hv => (bcell_kept hg).trans (x.cs j v hv), (bcell_kept hg).trans x.c13, (bcell_kept hg).trans x.c14, fun j => (bfree_kept hg).trans (x.free j), conf_kept x.cf x.ol h.siz ho, Nat.lt_of_lt_of_le x.ol h.siz, x.ne⟩

theorem Gk.after {g rb : Nat} {w w4 W : World} (h : Gk g w w4) (h' : Gk rb w4 W) (hr : w.heap.size ≤ rb) : Gk g w W :=
  ⟨Nat.le_trans h.siz h'.siz, fun j hj hn => (h'.blk j (Nat.lt_of_lt_of_le hj h.siz) (by omega)).trans (h.blk j hj hn)⟩
theorem RecV.lower {W : World} {base b2 : Nat} {v : Value} {r : Option (List Nat)} (h : RecV W base v r) (hb : b2 ≤ base) : RecV W b2 v r := by
  rcases r with _ | l
  · exact h
  · obtain ⟨q, c, e, h1, h2⟩ := h
    exact ⟨q, c, e, Nat.le_trans hb h1, h2⟩
/-- Carry's loop, n nodes far -/
structure CrL (w4 : World) (base rb N : Nat) (l : List Nat) (owner : Int) (C : List CpD) (n : Nat) (vs : List Value) (W : World) : Prop where
  gk : Gk rb w4 W
  row : W.heap[rb]? = some (.cells (vs ++ nilR (N - n)).toArray 45 (0, 0))
  len : vs.length = n
  rows : ∀ j, j < n → RecV W base (vs.getD j undef) (recvB l owner C j)
theorem CrL.done {w4 W : World} {base rb N : Nat} {l : List Nat} {owner : Int} {C : List CpD} {vs : List Value} (h : CrL w4 base rb N l owner C N vs W) : W.heap[rb]? = some (.cells vs.toArray 45 (0, 0)) := by
  have := h.row
  rw [Nat.sub_self, show nilR 0 = [] from rfl, List.append_nil] at this
  exact this
theorem CrL.more {w4 W w6 : World} {base rb N : Nat} {l : List Nat} {owner : Int} {C : List CpD} {n : Nat} {vs : List Value} {v : Value} (h : CrL w4 base rb N l owner C n vs W) (hn : n < N) (hb : Below W.heap.size W w6) (hr : RecV w6 W.heap.size v (recvB l owner C n)) (h4 : rb < w4.heap.size) (hB : base ≤ W.heap.size) :
    w6.cell? ⟨rb, n, none⟩ = some (.slice none 0 0) ∧ w6.frozen? ⟨rb, n, none⟩ = false ∧ CrL w4 base rb N l owner C (n + 1) (vs ++ [v]) (w6.setCell ⟨rb, n, none⟩ v) := by
  have hgb := (hb.block rb (Nat.lt_of_lt_of_le h4 h.gk.siz)).trans h.row
  have e1 : N - n = (N - (n + 1)) + 1 := by omega
  have hG : Gk rb w6 (w6.setCell ⟨rb, n, none⟩ v) := Gk.set rb w6 n v
  have hG6 : Gk rb w4 w6 := h.gk.trans (Gk.of_below hb)
  refine ⟨?_, ?_, hG6.trans hG, ?_, by rw [List.length_append, h.len]; rfl, ?_⟩
  · rw [bcellOf hgb n]
    rw [e1, List.getElem?_toArray, List.getElem?_append_right (by rw [h.len]; exact Nat.le_refl _), h.len, Nat.sub_self]
    rfl
  · unfold World.frozen?; rw [hgb]; rfl
  · rw [setCell_row hgb]
    congr 2
    apply Array.ext'
    simp only [Array.toList_setIfInBounds]
    rw [e1]
    have := set_nxt vs (N - (n + 1)) v
    rw [h.len] at this
    exact this
  · intro j hj
    have ht : ∃ cur, w6.heap[rb]? = some (.cells cur 45 (0, 0)) := ⟨_, hgb⟩
    rcases Nat.lt_succ_iff_lt_or_eq.1 hj with h1 | rfl
    · rw [show (vs ++ [v]).getD j undef = vs.getD j undef by rw [List.getD_eq_getElem?_getD, List.getElem?_append_left (by rw [h.len]; exact h1), List.getD_eq_getElem?_getD]]
      exact ((h.rows j h1).below hb).gk hG ht
    · rw [show (vs ++ [v]).getD j undef = v by rw [List.getD_eq_getElem?_getD, List.getElem?_append_right (by rw [h.len]; exact Nat.le_refl _), h.len, Nat.sub_self]; rfl]
      exact (hr.lower hB).gk hG ht

theorem three (w : World) (a b c : Obj) : ((((w.alloc a).alloc b).alloc c).heap[w.heap.size]? = some a) ∧ ((((w.alloc a).alloc b).alloc c).heap[w.heap.size + 1]? = some b) ∧ ((((w.alloc a).alloc b).alloc c).heap[w.heap.size + 2]? = some c) ∧ w.heap.size + 2 < (((w.alloc a).alloc b).alloc c).heap.size := by
  have s1 : (w.alloc a).heap.size = w.heap.size + 1 := by simp
  have s2 : ((w.alloc a).alloc b).heap.size = w.heap.size + 2 := by simp
  have s3 : (((w.alloc a).alloc b).alloc c).heap.size = w.heap.size + 3 := by simp
  have q0 := heap_alloc_new w a
  have q1 := heap_alloc_new (w.alloc a) b
  have q2 := heap_alloc_new ((w.alloc a).alloc b) c
  rw [s1] at q1; rw [s2] at q2
  refine ⟨?_, ?_, q2, by omega⟩
  · exact ((bal _ c).block _ (by rw [s2]; omega)).trans (((bal _ b).block _ (by rw [s1]; omega)).trans q0)
  · exact ((bal _ c).block _ (by rw [s2]; omega)).trans q1
theorem receiver_at (sv : Value) (hs1 : ∃ A n c, sv = .slice A n c) (owner : Int) (A : Option Addr) (n c : Nat) (w : World) :
    Calls Tryd.prog 54 #[sv, .int .i64 owner, .slice A n c] w fun e w' => e = .returned (.func (.func 100) #[] #[.pointer (some ⟨w.heap.size + 1, 0, none⟩), .pointer (some ⟨w.heap.size + 2, 0, none⟩), .pointer (some ⟨w.heap.size, 0, none⟩)]) ∧
      w'.cell? ⟨w.heap.size + 1, 0, none⟩ = some (.int .i64 owner) ∧ w'.cell? ⟨w.heap.size + 2, 0, none⟩ = some (.slice A n c) ∧ w'.cell? ⟨w.heap.size, 0, none⟩ = some sv ∧ w.heap.size + 2 < w'.heap.size ∧ Below w.heap.size w w' := by
  obtain ⟨As, ns, cs, rfl⟩ := hs1
  have HB := hide ((bal w (.cells #[.slice As ns cs] 45)).trans (((bal (w.alloc (.cells #[.slice As ns cs] 45)) (.cells #[.int .i64 owner] 3)).trans ((bal ((w.alloc (.cells #[.slice As ns cs] 45)).alloc (.cells #[.int .i64 owner] 3)) (.cells #[.slice A n c] 56)).mono (by simp))).mono (by simp)))
  obtain ⟨f0, f1, f2, e4⟩ := three w (.cells #[.slice As ns cs] 45) (.cells #[.int .i64 owner] 3) (.cells #[.slice A n c] 56)
  have e1 := (bcellOf f1 0).trans rfl
  have e2 := (bcellOf f2 0).trans rfl
  have e3 := (bcellOf f0 0).trans rfl
  have HE := hide (And.intro e1 (And.intro e2 (And.intro e3 e4)))
  clear e1 e2 e3 e4 f0 f1 f2
  go_enter Tryd.func54, Tryd.ntmps54
  go_wp2
  go_ret
  exact ⟨rfl, HE.out.1, HE.out.2.1, HE.out.2.2.1, HE.out.2.2.2, HB.out⟩

set_option maxRecDepth 100000 in
set_option maxHeartbeats 4000000 in
theorem carry_at {g ob oc : Nat} {k : Bu} {w : World} (x : BuAt w g ob oc k) (slot : Int) (hs : 0 ≤ slot) (L : List SnD) (A : Option Addr) (c p : Nat) (hL : SnK w g A L) (hl : L.length ≤ 4611686018427387904) (hp : p < L.length)
    (h1 : (L.getD p default).node = ownF (turnsC k) slot) (h2 : ∀ j, j < p → (L.getD j default).node ≠ ownF (turnsC k) slot) (l : List Nat) (hll : (L.getD p default).l = l) (hm : l.length ≤ 1000000) (hbl : k.bl ≤ 4611686018427387904) (hpa : k.pa ≤ 4611686018427387904)
    (C : List CpD) (AC : Option Addr) (cc : Nat) (hC : ∀ W, Gk g w W → CpAt W AC C) (hCl : C.length ≤ 9223372036854775807) (hN : k.N ≤ 100000) :
    Calls Tryd.prog 18 #[.pointer (some ⟨g, 0, none⟩), .int .i64 slot, .slice A L.length c, .slice AC C.length cc] w fun e w' => ∃ (rb : Nat) (vs : List Value), e = .returned (.tuple #[.slice (some ⟨rb, 0, none⟩) k.N k.N, .int .i64 0]) ∧ w.heap.size ≤ rb ∧ w'.heap[rb]? = some (.cells vs.toArray 45 (0, 0)) ∧ vs.length = k.N ∧
      (∀ i, i < k.N → RecV w' w.heap.size (vs.getD i undef) (recvB l (ownF (turnsC k) slot) C i)) ∧ Gk g w w' ∧ Below 0 w w' ∧ BuAt w' g ob oc { k with bl := k.bl + (L.length - 1), pa := k.pa + 1 } := by
  have hmade := bmade_at g w x.c0
  have HPl := hide hp; have HH1 := hide h1; have HH2 := hide h2
  have HCC := hide hC; have HLL := hide hL
  have hrow := heap_alloc_new w (.cells (nilR k.N).toArray 45)
  have hb1 := bal w (.cells (nilR k.N).toArray 45)
  have HX1 := hide (x.below hb1)
  have HG1 : Hid (Gk g w (w.alloc (.cells (nilR k.N).toArray 45))) := Gk.of_below hb1
  have HRw := hide hrow
  have HE1 := hide (hb1.mono (Nat.zero_le _))
  have HNe := hide (show g ≠ w.heap.size ∧ ob ≠ w.heap.size from ⟨Nat.ne_of_lt x.lt, Nat.ne_of_lt x.ol⟩)
  have hmk := bmake_rows k.N hN w
  have s1 : w.cell? ⟨g, 1, none⟩ = some (.int .i64 (k.N : Int)) := x.cs 0 _ rfl
  have hd : decide (slot < 0) = false := decide_eq_false (by omega)
  have HO : Hid (∀ k' : Bu, k'.N = k.N → k'.ow = k.ow → ∀ W, BuAt W g ob oc k' → Calls Tryd.prog 55 #[(turnsC k').val (turnsA ob oc), .int .i64 slot] W fun e w' => e = .returned (.int .i64 (ownF (turnsC k) slot)) ∧ Below W.heap.size W w') := fun k' e1 e2 W hX => by
    have h := owner_any (turnsC k') (turnsA ob oc) slot W hX.cf
    have he : turnsC k' = turnsC k := by unfold turnsC; rw [e1, e2]
    rw [he] at h ⊢
    exact h
  have HPs := hide (pass_at HX1.out slot hs L A c p (hL.mono HG1.out) hl hp h1 h2 (by rw [hll]; exact hm) hbl hpa)
  rw [hll] at HPs
  clear x hL hC hrow hb1 h1 h2 hs
  go_enter Tryd.func18, Tryd.ntmps18
  go_wp2_with fail
  refine hmade.mono ?_
  rintro e w' ⟨rfl, rfl⟩
  clear hmade
  go_upto_region 6 with fail
  clear s1 hmk hd
  generalize w.alloc (.cells (nilR k.N).toArray 45) = w1 at HX1 HG1 HRw HE1 HPs ⊢
  generalize hrb : w.heap.size = rb at HRw HNe ⊢
  have HRb := hide hrb
  clear hrb
  go_wp2_with fail
  refine HPs.out.mono ?_
  rintro e w2 ⟨q, cq, rfl, hqz, hq, hg2, he2, hx2⟩
  have HQ := hide hq
  have HG2 := hide (HG1.out.trans hg2)
  have HE2 := hide (HE1.out.trans he2)
  have HX2 := hide hx2
  have HR2 := hide ((hg2.blk rb (Array.getElem?_eq_some_iff.1 HRw.out).1 (Ne.symm HNe.out.1)).trans HRw.out)
  have HQz := hide (show w.heap.size ≤ q from Nat.le_trans HG1.out.siz hqz)
  have HO2 := hide (HO.out { k with bl := k.bl + (L.length - 1), pa := k.pa + 1 } rfl rfl w2 hx2)
  clear hq hg2 he2 hx2 hqz HPs HRw HX1 HG1 HE1 HO
  have t1 : w2.cell? ⟨g, 1, none⟩ = some (.int .i64 (k.N : Int)) := HX2.out.cs 0 _ rfl
  have t2 : w2.cell? ⟨g, 2, none⟩ = some (.slice (some ⟨ob, 0, none⟩) k.ow.length oc) := HX2.out.cs 1 _ rfl
  have t3 : w2.cell? ⟨g, 3, none⟩ = some (.int .i64 0) := HX2.out.cs 2 _ rfl
  have t4 : w2.cell? ⟨g, 4, none⟩ = some (.int .i64 0) := HX2.out.cs 3 _ rfl
  have t5 : w2.cell? ⟨g, 5, none⟩ = some (.int .i64 0) := HX2.out.cs 4 _ rfl
  have t6 : w2.cell? ⟨g, 6, none⟩ = some (.int .i64 0) := HX2.out.cs 5 _ rfl
  have t7 : w2.cell? ⟨g, 7, none⟩ = some (.int .i64 0) := HX2.out.cs 6 _ rfl
  have t8 : w2.cell? ⟨g, 8, none⟩ = some (.int .i64 0) := HX2.out.cs 7 _ rfl
  have t9 : w2.cell? ⟨g, 9, none⟩ = some (.slice none 0 0) := HX2.out.cs 8 _ rfl
  have t10 : w2.cell? ⟨g, 10, none⟩ = some (.slice none 0 0) := HX2.out.cs 9 _ rfl
  have t11 : w2.cell? ⟨g, 11, none⟩ = some (.slice none 0 0) := HX2.out.cs 10 _ rfl
  have t12 : w2.cell? ⟨g, 12, none⟩ = some (.slice none 0 0) := HX2.out.cs 11 _ rfl
  unfold turnsC turnsA Conf.val at HO2
  dsimp only [List.length_nil] at HO2
  have HOw : Hid (∀ o, ownF (turnsC k) slot = o → ownF (turnsC k) slot = o) := fun _ h => h
  obtain ⟨owner, how⟩ : ∃ o, ownF (turnsC k) slot = o := ⟨_, rfl⟩
  have how2 := how
  unfold turnsC at how2
  rw [how2] at HO2
  have HOwn := hide how
  clear how how2 HOw
  go_wp2_with fail
  refine HO2.out.mono ?_
  rintro e w3 ⟨rfl, hb3⟩
  clear t1 t2 t3 t4 t5 t6 t7 t8 t9 t10 t11 t12 HO2
  have HX3 := hide (HX2.out.below hb3)
  have HG3 := hide (HG2.out.trans (Gk.of_below hb3))
  have HE3 := hide (HE2.out.trans (hb3.mono (Nat.zero_le _)))
  have HR3 := hide ((hb3.block rb (Array.getElem?_eq_some_iff.1 HR2.out).1).trans HR2.out)
  have HQ3 := hide (HQ.out.later hb3 HQ.out.blk)
  have HRc := hide (receiver_at (.slice (some ⟨q, 0, none⟩) l.length cq) ⟨_, _, _, rfl⟩ owner AC C.length cc w3)
  clear hb3 HX2 HG2 HE2 HR2 HQ
  go_wp2_with fail
  refine HRc.out.mono ?_
  rintro e w4 ⟨rfl, k1, k2, k3, k4, hb4⟩
  have HX4 := hide (HX3.out.below hb4)
  have HG4 := hide (HG3.out.trans (Gk.of_below hb4))
  have HE4 := hide (HE3.out.trans (hb4.mono (Nat.zero_le _)))
  have HR4 := hide ((hb4.block rb (Array.getElem?_eq_some_iff.1 HR3.out).1).trans HR3.out)
  have HQ4 := hide (HQ3.out.later hb4 HQ3.out.blk)
  have HRl := hide (Array.getElem?_eq_some_iff.1 HR3.out).1
  have HKs := hide (And.intro k1 (And.intro k2 (And.intro k3 k4)))
  have HQl := hide (show q ≠ rb from by
    rintro rfl
    obtain ⟨cur, h1, _⟩ := HQ3.out.row
    rw [HR3.out] at h1
    cases h1)
  clear hb4 k1 k2 k3 k4 HX3 HG3 HE3 HR3 HQ3 HRc
  have HL0 : Hid (CrL w4 w.heap.size rb k.N l owner C 0 [] w4) := ⟨Gk.refl _ _, HR4.out, rfl, fun j hj => by omega⟩
  have HBf := hide (show w.heap.size ≤ rb from Nat.le_of_eq HRb.out)
  have HCa : Hid (∀ W i vs, CrL w4 w.heap.size rb k.N l owner C i vs W → Calls Tryd.prog 100 #[.int .i64 (i : Int), .pointer (some ⟨w3.heap.size + 1, 0, none⟩), .pointer (some ⟨w3.heap.size + 2, 0, none⟩), .pointer (some ⟨w3.heap.size, 0, none⟩)] W fun e w' => ∃ v, e = .returned v ∧ RecV w' W.heap.size v (recvB l owner C i) ∧ Below W.heap.size W w') := fun W i vs hI => by
    have hz := HKs.out.2.2.2
    have hrl := HRl.out
    have hzz := hI.gk.siz
    refine recv_at l ⟨q, 0, none⟩ cq owner C AC cc _ _ _ i W hm (HQ4.out.kept (hI.gk.blk q HQ4.out.blk HQl.out)).bytes (HCC.out W (HG4.out.after hI.gk HBf.out)) ?_ ?_ ?_ (by omega) (by omega) (by omega)
    · exact (bcell_kept (hI.gk.blk _ (by omega) (by omega))).trans HKs.out.1
    · exact (bcell_kept (hI.gk.blk _ (by omega) (by omega))).trans HKs.out.2.1
    · exact (bcell_kept (hI.gk.blk _ (by omega) (by omega))).trans HKs.out.2.2.1
  have HZw := hide (show w.heap.size ≤ w4.heap.size from HG4.out.siz)
  have hrb4 : rb < w4.heap.size := (Array.getElem?_eq_some_iff.1 HR4.out).1
  have HRb4 := hide hrb4
  clear hrb4 HKs HRl HQl HQ4 HR4 HCC HLL HH1 HH2 HPl
  have t1 : w4.cell? ⟨g, 1, none⟩ = some (.int .i64 (k.N : Int)) := HX4.out.cs 0 _ rfl
  go_wp2_with fail
  go_loopw [50, 14] (fun i s14 W => ∃ (n : Nat) (vs : List Value), n ≤ k.N ∧ i = .int .i64 (n : Int) ∧ CrL w4 w.heap.size rb k.N l owner C n vs W ∧ Below 0 w4 W) (fun i _ _ => k.N - (intOf i).toNat)
  case atStart => exact ⟨0, [], by omega, rfl, HL0.out, Below.refl _ _⟩
  case round =>
    obtain ⟨n, vs, hn, rfl, hI, hbw⟩ := hrel
    have HI := hide hI; have HBW := hide hbw
    clear hI hbw HL0
    by_cases hlt : n < k.N
    · have HKL := hide (show n + 1 ≤ k.N by omega)
      have hcall := HCa.out _ _ _ HI.out
      go_wp2_with fail
      refine hcall.mono ?_
      rintro e w6 ⟨v, rfl, hr, hb6⟩
      obtain ⟨Av, nv, cv, rfl⟩ := hr.slice
      obtain ⟨c0, f0, hI2⟩ := HI.out.more hlt hb6 hr HRb4.out (Nat.le_trans HZw.out HI.out.gk.siz)
      have HI2 := hide hI2
      have HB2 : Hid (Below 0 w4 (w6.setCell ⟨rb, n, none⟩ (.slice Av nv cv))) := (HBW.out.trans (hb6.mono (Nat.zero_le _))).setCell (p := ⟨rb, n, none⟩) (Nat.zero_le _) _
      clear hI2 hb6 hr hcall HI HBW
      go_wp2_with fail
      go_roundw
      case rel => exact ⟨n + 1, _, HKL.out, by go_num, HI2.out, HB2.out⟩
      case measure => have := HKL.out; simp [intOf]; omega
    · obtain rfl : n = k.N := by omega
      have HF := hide (HI.out.done)
      have HBF := hide (HE4.out.trans HBW.out)
      have HGF := hide (HG4.out.after HI.out.gk HBf.out)
      have HXF := hide (HX4.out.gk HI.out.gk HNe.out.1 HNe.out.2)
      go_wp2
      go_ret2
      refine ⟨rb, vs, by first | rfl | simp, HBf.out, HF.out, HI.out.len, ?_, HGF.out, HBF.out, HXF.out⟩
      intro i hi
      rw [HOwn.out]
      exact HI.out.rows i hi
end Go.Proofs.YtbeggdahbhfhpaaDoor
