/-
  Twin: a configuration in memory of its own.
-/
import Derived.Test.YthngjegimecaaaaDoorTwC
import Derived.Laws.Tables
import Derived.Laws.CopyOwn
import Derived.Laws.Rows
namespace Go.Proofs.YthngjegimecaaaaDoor
open Go.RowKit Go.Deep
set_option linter.unusedVariables false
set_option linter.unusedSimpArgs false

/-- tables that are not great -/
structure Small (c : Conf) : Prop where
  owners : c.owners.length ≤ 1000
  parts : c.parts.length ≤ 1000
  windows : c.windows.length ≤ 1000
  ports : c.ports.length ≤ 1000
  links : c.links.length ≤ 1000
  row : ∀ k, k < c.windows.length → (c.windows.getD k []).length ≤ 17592186044032
  dests : ∀ k, k < c.links.length → (c.links.getD k default).dests.length ≤ 1000

def TwPost (w : World) (c : Conf) (e : Ending) (w' : World) : Prop :=
  (∃ d b0 b1 b2 gO gP gQ vs xs, e = .returned (c.val d) ∧ Twn w' c d b0 b1 b2 gO gP gQ vs xs ∧ w.heap.size ≤ b0 ∧ b0 ≤ b1) ∧ Below w.heap.size w w'

theorem info_cfg : (Tryd.prog.info? 28).map (·.size) = some 12 := by kernel_rfl
theorem info_int : (Tryd.prog.info? 3).map (fun i => (i.zero, i.size, i.bytes)) = some (some (.int .i64 0), 1, 8) := by kernel_rfl
theorem info_part : (Tryd.prog.info? 44).map (fun i => (i.zero, i.size, i.bytes)) = some (some (.agg #[.int .i64 0, .int .i64 0, .int .i64 0]), 3, 24) := by kernel_rfl
theorem info_port : (Tryd.prog.info? 46).map (fun i => (i.zero, i.size, i.bytes)) = some (some (.agg #[.int .i64 0, .int .i64 0, .int .i64 0, .int .i64 0, .int .i64 0, .int .i64 0]), 6, 48) := by kernel_rfl
theorem info_wrow : (Tryd.prog.info? 22).map (fun i => (i.zero, i.size, i.bytes)) = some (some (.slice none 0 0), 1, 24) := by kernel_rfl
theorem info_link : (Tryd.prog.info? 38).map (fun i => (i.zero, i.size, i.bytes)) = some (some (.agg #[.int .i64 0, .slice none 0 0, .int .i64 0]), 3, 40) := by kernel_rfl

theorem lies_none {w : World} {A : Option Addr} {n k : Nat} {p : Nat → Nat → Nat → Prop} (h : Lies w A n k p) : A = none → n = 0 := by
  rintro rfl
  rcases h with h | ⟨_, _, h, _⟩
  · exact h
  · cases h

set_option maxRecDepth 100000 in
set_option maxHeartbeats 8000000 in
theorem twin_any (c : Conf) (d : Ad) (w : World) (h : ConfAt w c d) (hs : Small c) :
    Calls Tryd.prog 5 #[c.val d] w (TwPost w c) := by
  have hX := TwX.first h
  have HN := hide h.num
  obtain ⟨oA, oC, pA, pC, wA, wC, qA, qC, lA, lC⟩ := d
  obtain ⟨nodes, owners, drift, reading, margin, bound, rejoin, quota, parts, windows, ports, links⟩ := c
  have H0 := hide h
  have HS := hide hs
  have hl1 := hs.owners; have hl2 := hs.parts; have hl3 := hs.windows; have hl4 := hs.ports; have hl5 := hs.links
  clear h hs
  unfold Conf.val
  unfold Conf.cells zc at hX
  dsimp only at hX hl1 hl2 hl3 hl4 hl5 ⊢
  go_enter Tryd.func5, Tryd.ntmps5
  go_upto_region 2 with fail
  revert hX
  generalize ((w.alloc (.cells #[.int .i64 nodes, .slice oA owners.length oC, .int .i64 drift, .int .i64 reading, .int .i64 margin, .int .i64 bound, .int .i64 rejoin, .int .i64 quota, .slice pA parts.length pC, .slice wA windows.length wC, .slice qA ports.length qC, .slice lA links.length lC] 28)).alloc
    (.cells #[.int .i64 0, .slice none 0 0, .int .i64 0, .int .i64 0, .int .i64 0, .int .i64 0, .int .i64 0, .int .i64 0, .slice none 0 0, .slice none 0 0, .slice none 0 0, .slice none 0 0] 28)).alloc
    (.cells #[.int .i64 nodes, .slice oA owners.length oC, .int .i64 drift, .int .i64 reading, .int .i64 margin, .int .i64 bound, .int .i64 rejoin, .int .i64 quota, .slice pA parts.length pC, .slice wA windows.length wC, .slice qA ports.length qC, .slice lA links.length lC] 28) = W0
  intro hX
  have X0 := hide hX
  have hz := hX.sz
  clear hX
  have XW0 := X0
  clear X0
  have hzW0 := hz
  have zW0 : W0.heap.size ≤ W0.heap.size := Nat.le_refl _

  -- region 2
  have hb0 : Below W0.heap.size W0 (W0.alloc (.cells #[] 3)) := (Below.refl _ _).alloc (Nat.le_refl _) _
  have hS := hide (((ints_iff.1 H0.out.owners).2.src inC_len (by omega) inC_one).of_below (XW0.out.bel.trans (hb0.mono XW0.out.bel.size)) (Nat.le_refl _))
  have hA := hide (lies_none H0.out.owners.2)
  have HB0 := hide hb0
  clear hb0
  obtain ⟨x1lt, e0, e1, e2, e3, e4, e5, e6, e7, e8, e9, e10, e11⟩ := XW0.out.x1
  dsimp only at e0 e1 e2 e3 e4 e5 e6 e7 e8 e9 e10 e11
  go_upto_region 3 with (refine wpList_dup _ rfl (.tmp 9) (.tmp 11) 22 rfl 3 (.int .i64 0) 1 8 Tryd.underlying22 info_int rfl (by omega) (by omega) W0.heap.size rfl (heap_alloc_new W0 _) oA owners.length oC _ rfl hS.out (by omega) hA.out ?_; intro gO cO W1 hgO hO1 hb1; have XV := hide (XW0.out.below ((HB0.out.mono hzW0).trans (hb1.mono hzW0))); have k1 := XV.out.cell (k := 1) rfl; have f1 := XV.out.free 1; have HO1 := hide hO1; have HB1 := hide (HB0.out.trans hb1); clear hO1 hb1 e0 e1 e2 e3 e4 e5 e6 e7 e8 e9 e10 e11)
  have XW2 := hide (XV.out.put 1 (.slice (some ⟨gO, 0, none⟩) owners.length cO))
  have zW2 : W0.heap.size ≤ (W1.setCell ⟨w.heap.size + 1 + 1, 1, none⟩ (.slice (some ⟨gO, 0, none⟩) owners.length cO)).heap.size := by rw [setCell_size]; have := HB1.out.size; have := zW0; omega
  have OO : Hid (Own (W1.setCell ⟨w.heap.size + 1 + 1, 1, none⟩ (.slice (some ⟨gO, 0, none⟩) owners.length cO)) W0.heap.size 3 1 gO owners.length cO _) := hide { HO1.out.kept (setCell_other (by have := HO1.out.low; have := hzW0; omega)) with low := by have := HO1.out.low; have := zW0; omega }
  clear k1 f1 XV HO1 HB1 HB0 XW0 hS hA
  generalize W1.setCell ⟨w.heap.size + 1 + 1, 1, none⟩ (.slice (some ⟨gO, 0, none⟩) owners.length cO) = W2 at XW2 zW2 OO  ⊢
  have hzW2 := XW2.out.sz

  -- region 3
  have hb0 : Below W2.heap.size W2 (W2.alloc (.cells #[] 44)) := (Below.refl _ _).alloc (Nat.le_refl _) _
  have hS := hide (((parts_iff.1 H0.out.parts).2.src ptC_len (by omega) ptC_one).of_below (XW2.out.bel.trans (hb0.mono XW2.out.bel.size)) (Nat.le_refl _))
  have hA := hide (lies_none H0.out.parts.2)
  have HB0 := hide hb0
  clear hb0
  obtain ⟨x1lt, e0, e1, e2, e3, e4, e5, e6, e7, e8, e9, e10, e11⟩ := XW2.out.x1
  dsimp only at e0 e1 e2 e3 e4 e5 e6 e7 e8 e9 e10 e11
  go_upto_region 4 with (refine wpList_dup _ rfl (.tmp 14) (.tmp 16) 23 rfl 44 (.agg #[.int .i64 0, .int .i64 0, .int .i64 0]) 3 24 Tryd.underlying23 info_part rfl (by omega) (by omega) W2.heap.size rfl (heap_alloc_new W2 _) pA parts.length pC _ rfl hS.out (by omega) hA.out ?_; intro gP cP W3 hgO hO1 hb1; have XV := hide (XW2.out.below ((HB0.out.mono hzW2).trans (hb1.mono hzW2))); have k1 := XV.out.cell (k := 8) rfl; have f1 := XV.out.free 8; have HO1 := hide hO1; have HB1 := hide (HB0.out.trans hb1); clear hO1 hb1 e0 e1 e2 e3 e4 e5 e6 e7 e8 e9 e10 e11)
  have XW4 := hide (XV.out.put 8 (.slice (some ⟨gP, 0, none⟩) parts.length cP))
  have zW4 : W0.heap.size ≤ (W3.setCell ⟨w.heap.size + 1 + 1, 8, none⟩ (.slice (some ⟨gP, 0, none⟩) parts.length cP)).heap.size := by rw [setCell_size]; have := HB1.out.size; have := zW2; omega
  have OP : Hid (Own (W3.setCell ⟨w.heap.size + 1 + 1, 8, none⟩ (.slice (some ⟨gP, 0, none⟩) parts.length cP)) W0.heap.size 44 3 gP parts.length cP _) := hide { HO1.out.kept (setCell_other (by have := HO1.out.low; have := hzW2; omega)) with low := by have := HO1.out.low; have := zW2; omega }
  have OO' := hide (((OO.out.below HB1.out OO.out.lt).kept (W' := (W3.setCell ⟨w.heap.size + 1 + 1, 8, none⟩ (.slice (some ⟨gP, 0, none⟩) parts.length cP))) (setCell_other (by have := OO.out.low; omega))))
  clear OO
  clear k1 f1 XV HO1 HB1 HB0 XW2 hS hA
  generalize W3.setCell ⟨w.heap.size + 1 + 1, 8, none⟩ (.slice (some ⟨gP, 0, none⟩) parts.length cP) = W4 at XW4 zW4 OP OO' ⊢
  have OO := OO'
  clear OO'
  have hzW4 := XW4.out.sz

  -- region 4
  have hb0 : Below W4.heap.size W4 (W4.alloc (.cells #[] 46)) := (Below.refl _ _).alloc (Nat.le_refl _) _
  have hS := hide (((ports_iff.1 H0.out.ports).2.src poC_len (by omega) poC_one).of_below (XW4.out.bel.trans (hb0.mono XW4.out.bel.size)) (Nat.le_refl _))
  have hA := hide (lies_none H0.out.ports.2)
  have HB0 := hide hb0
  clear hb0
  obtain ⟨x1lt, e0, e1, e2, e3, e4, e5, e6, e7, e8, e9, e10, e11⟩ := XW4.out.x1
  dsimp only at e0 e1 e2 e3 e4 e5 e6 e7 e8 e9 e10 e11
  go_upto_region 5 with (refine wpList_dup _ rfl (.tmp 19) (.tmp 21) 25 rfl 46 (.agg #[.int .i64 0, .int .i64 0, .int .i64 0, .int .i64 0, .int .i64 0, .int .i64 0]) 6 48 Tryd.underlying25 info_port rfl (by omega) (by omega) W4.heap.size rfl (heap_alloc_new W4 _) qA ports.length qC _ rfl hS.out (by omega) hA.out ?_; intro gQ cQ W5 hgO hO1 hb1; have XV := hide (XW4.out.below ((HB0.out.mono hzW4).trans (hb1.mono hzW4))); have k1 := XV.out.cell (k := 10) rfl; have f1 := XV.out.free 10; have HO1 := hide hO1; have HB1 := hide (HB0.out.trans hb1); clear hO1 hb1 e0 e1 e2 e3 e4 e5 e6 e7 e8 e9 e10 e11)
  have XW6 := hide (XV.out.put 10 (.slice (some ⟨gQ, 0, none⟩) ports.length cQ))
  have zW6 : W0.heap.size ≤ (W5.setCell ⟨w.heap.size + 1 + 1, 10, none⟩ (.slice (some ⟨gQ, 0, none⟩) ports.length cQ)).heap.size := by rw [setCell_size]; have := HB1.out.size; have := zW4; omega
  have OQ : Hid (Own (W5.setCell ⟨w.heap.size + 1 + 1, 10, none⟩ (.slice (some ⟨gQ, 0, none⟩) ports.length cQ)) W0.heap.size 46 6 gQ ports.length cQ _) := hide { HO1.out.kept (setCell_other (by have := HO1.out.low; have := hzW4; omega)) with low := by have := HO1.out.low; have := zW4; omega }
  have OO' := hide (((OO.out.below HB1.out OO.out.lt).kept (W' := (W5.setCell ⟨w.heap.size + 1 + 1, 10, none⟩ (.slice (some ⟨gQ, 0, none⟩) ports.length cQ))) (setCell_other (by have := OO.out.low; omega))))
  clear OO
  have OP' := hide (((OP.out.below HB1.out OP.out.lt).kept (W' := (W5.setCell ⟨w.heap.size + 1 + 1, 10, none⟩ (.slice (some ⟨gQ, 0, none⟩) ports.length cQ))) (setCell_other (by have := OP.out.low; omega))))
  clear OP
  clear k1 f1 XV HO1 HB1 HB0 XW4 hS hA
  generalize W5.setCell ⟨w.heap.size + 1 + 1, 10, none⟩ (.slice (some ⟨gQ, 0, none⟩) ports.length cQ) = W6 at XW6 zW6 OQ OO' OP' ⊢
  have OO := OO'
  clear OO'
  have OP := OP'
  clear OP'
  have hzW6 := XW6.out.sz

  -- region 5
  have k9 := XW6.out.cell (k := 9) rfl
  have f9 := XW6.out.free 9
  go_upto_region 6 with fail
  clear k9 f9
  have XW7 := hide (XW6.out.put 9 (.slice none 0 0))
  have zW7 : W0.heap.size ≤ (W6.setCell ⟨w.heap.size + 1 + 1, 9, none⟩ (.slice none 0 0)).heap.size := by rw [setCell_size]; exact zW6
  have hOO := hide (OO.out.kept (W' := W6.setCell ⟨w.heap.size + 1 + 1, 9, none⟩ (.slice none 0 0)) (setCell_other (by have := OO.out.low; omega)))
  have hOP := hide (OP.out.kept (W' := W6.setCell ⟨w.heap.size + 1 + 1, 9, none⟩ (.slice none 0 0)) (setCell_other (by have := OP.out.low; omega)))
  have hOQ := hide (OQ.out.kept (W' := W6.setCell ⟨w.heap.size + 1 + 1, 9, none⟩ (.slice none 0 0)) (setCell_other (by have := OQ.out.low; omega)))
  clear OO OP OQ XW6 hzW6 zW6
  generalize W6.setCell ⟨w.heap.size + 1 + 1, 9, none⟩ (.slice none 0 0) = W7 at XW7 zW7 hOO hOP hOQ ⊢
  obtain ⟨out, hout, hol, hX7⟩ : ∃ out : List Value, out = [.int .i64 nodes, .slice (some ⟨gO, 0, none⟩) owners.length cO, .int .i64 drift, .int .i64 reading, .int .i64 margin, .int .i64 bound, .int .i64 rejoin, .int .i64 quota,
      .slice (some ⟨gP, 0, none⟩) parts.length cP, .slice wA windows.length wC, .slice (some ⟨gQ, 0, none⟩) ports.length cQ, .slice lA links.length lC] ∧ out.length = 12 ∧
      TwX w W7 ⟨nodes, owners, drift, reading, margin, bound, rejoin, quota, parts, windows, ports, links⟩ ⟨oA, oC, pA, pC, wA, wC, qA, qC, lA, lC⟩ (out.set 9 (.slice none 0 0)) := ⟨_, rfl, rfl, XW7.out⟩
  have HOUT := hide hout
  have hT1 : Tw1 w W7 ⟨nodes, owners, drift, reading, margin, bound, rejoin, quota, parts, windows, ports, links⟩ ⟨oA, oC, pA, pC, wA, wC, qA, qC, lA, lC⟩ out W0.heap.size W7.heap.size gO cO gP cP gQ cQ 0 [] (.slice none 0 0) :=
    { s0 := hz, x := hX7, o := hOO.out, p := hOP.out, q := hOQ.out, w := ⟨⟨rfl, .inl ⟨rfl, rfl⟩⟩, fun j hj => absurd hj (Nat.not_lt_zero _), fun i j g h n m p q _ h1 _ => by simp at h1⟩, o1 := hOO.out.lt, p1 := hOP.out.lt, q1 := hOQ.out.lt, s1 := Nat.le_refl _, s2 := zW7 }
  have T1 := hide hT1
  clear hT1 hOO hOP hOQ XW7 hX7 hout
  have hz07 := zW7
  go_wp2_with fail
  go_loopw [4, 5] (fun i l W => ∃ (k : Nat) (vs : List Value) (v : Value), k ≤ windows.length ∧ i = .int .i64 k ∧ Tw1 w W ⟨nodes, owners, drift, reading, margin, bound, rejoin, quota, parts, windows, ports, links⟩ ⟨oA, oC, pA, pC, wA, wC, qA, qC, lA, lC⟩ out W0.heap.size W7.heap.size gO cO gP cP gQ cQ k vs v) (fun i _ _ => windows.length - (intOf i).toNat)
  case atStart => exact ⟨0, [], _, Nat.zero_le _, rfl, T1.out⟩
  case round =>
    obtain ⟨k, vs, v, hk, rfl, hT⟩ := hrel
    have T0 := hide hT
    have hzr := hT.x.sz
    have hsr := hT.s1
    clear hT
    obtain ⟨x1lt, e0, e1, e2, e3, e4, e5, e6, e7, e8, e9, e10, e11⟩ := T0.out.x.x1
    dsimp only at e0 e1 e2 e3 e4 e5 e6 e7 e8 e9 e10 e11
    by_cases hlt : k < windows.length
    · obtain ⟨wb, wo, Ai, ci, hwA, hwb, hcell, hci1, hci2, hInts⟩ := (H0.out.of_below T0.out.x.bel (Nat.le_refl _)).windows.at hlt
      dsimp only at hwA hcell hInts hci1
      have hrow := HS.out.row k hlt
      dsimp only at hrow
      subst hwA
      have hb0 : Below wr.heap.size wr (wr.alloc (.cells #[] 3)) := (Below.refl _ _).alloc (Nat.le_refl _) _
      have hS := hide (((ints_iff.1 hInts).2.src inC_len (by omega) inC_one).of_below hb0 (Nat.le_refl _))
      have hA := hide (lies_none hInts.2)
      have HB0 := hide hb0
      have HR : Hid (windows.getD k [] = windows.getD k []) := rfl
      have hvl : Hid (vs.length = k) := by have := T0.out.w.own.1; show _ = _; omega
      have hslot : Hid ((out.set 9 v)[9]? = some v) := List.getElem?_set_self (by omega)
      clear hInts hb0
      obtain ⟨n, hn⟩ : ∃ n, (windows.getD k []).length = n := ⟨_, rfl⟩
      have HN1 := hide hn
      rw [hn] at hcell hrow hci1 hS hA
      clear hn
      go_upto_region 10 with (refine wpList_dup _ rfl (.tmp 32) (.tmp 37) 22 rfl 3 (.int .i64 0) 1 8 Tryd.underlying22 info_int rfl (by omega) (by omega) wr.heap.size rfl (heap_alloc_new wr _) Ai n ci _ rfl hS.out (by omega) hA.out ?_; intro g cj W1 hg0 hO1 hb1; have HO1 := hide hO1; have HB1 := hide (HB0.out.trans hb1); clear hO1 hb1 e0 e1 e2 e3 e4 e5 e6 e7 e8 e9 e10 e11 hcell)
      have hX1 := T0.out.x.below (HB1.out.mono hzr)
      have kv := hX1.cell hslot.out
      have hb2 : Below W1.heap.size W1 (W1.alloc (.cells #[.slice (some ⟨g, 0, none⟩) n cj] 22)) := (Below.refl _ _).alloc (Nat.le_refl _) _
      have HB2 := hide hb2
      have XX1 := hide hX1
      have z1 := HB1.out.size
      have HW : Hid ((W1.alloc (.cells #[.slice (some ⟨g, 0, none⟩) n cj] 22)).ownsRow W7.heap.size 22 1 v k vs) := hide (ownsRow.kept T0.out.w.own fun r hr => by
        obtain ⟨a, cur, e⟩ := ownsRow.blk T0.out.w.own hr
        have := (Array.getElem?_eq_some_iff.1 e).1
        exact (HB2.out.block r (by omega)).trans (HB1.out.block r this))
      have hlow : W7.heap.size ≤ (W1.alloc (.cells #[.slice (some ⟨g, 0, none⟩) n cj] 22)).heap.size := by have := hb2.size; omega
      have hx1lt : w.heap.size + 1 + 1 < W1.heap.size := by omega
      clear hX1 hb2
      go_upto_region 8 with (refine wpList_one _ rfl (.tmp 40) (.tmp 42) 24 rfl 22 (.slice none 0 0) 1 24 Tryd.underlying24 info_wrow rfl (by omega) (by omega) W7.heap.size v k vs rfl HW.out W1.heap.size 1 [.slice (some ⟨g, 0, none⟩) n cj] rfl (heap_alloc_new W1 _) rfl (by simp [Value.oneCell']) (by omega) hlow ?_; intro v' W3 how hgr hor; obtain ⟨vA, vC, rfl, _, _, _⟩ := ownsRow.slice how; have XX3 := hide ((XX1.out.below (HB2.out.mono (by omega))).below ((Below.refl _ _).grown hgr (by have := HB2.out.size; omega) (fun r e => by have := (ownsRow.blk HW.out e).1; omega))); have kv3 := XX3.out.cell hslot.out; have fv3 := XX3.out.free 9; have HOW := hide how; have HGR := hide hgr; clear how hgr hor kv)
      go_wp2_with fail
      go_roundw
      case rel => exact ⟨k + 1, _, _, by omega, by go_num, T0.out.step hvl.out HN1.out.symm HO1.out HB1.out HB2.out HOW.out HGR.out⟩
      case measure => simp [intOf]; omega
    · obtain rfl : k = windows.length := by omega
      -- region 11
      have k11 := T0.out.x.cell (k := 11) (v := .slice lA links.length lC) (by rw [HOUT.out]; rfl)
      have f11 := T0.out.x.free 11
      go_upto_region 12 with fail
      clear k11 f11 e0 e1 e2 e3 e4 e5 e6 e7 e8 e9 e10 e11
      have hX8 := T0.out.x.put 11 (.slice none 0 0)
      have hw2 : ∀ g, v.ownBlock = some g → g < wr.heap.size := fun g hg => by
        obtain ⟨_, cur, e⟩ := ownsRow.blk T0.out.w.own hg
        exact (Array.getElem?_eq_some_iff.1 e).1
      have hw3 : ∀ (j g n p : Nat), vs[j]? = some (.slice (some ⟨g, 0, none⟩) n p) → g < wr.heap.size := fun j g n p hj => by
        have hj2 := (List.getElem?_eq_some_iff.1 hj).1
        have hl := T0.out.w.own.1
        obtain ⟨gj, cj, a, o⟩ := T0.out.w.each j (by omega)
        rw [hj] at a
        injection a with a
        injection a with a1
        injection a1 with a1
        injection a1 with a1
        rw [a1]; exact o.lt
      have hs0 := T0.out.s0; have hs2 := T0.out.s2
      have hT2 : Tw2 w (wr.setCell ⟨w.heap.size + 1 + 1, 11, none⟩ (.slice none 0 0)) ⟨nodes, owners, drift, reading, margin, bound, rejoin, quota, parts, windows, ports, links⟩ ⟨oA, oC, pA, pC, wA, wC, qA, qC, lA, lC⟩ (out.set 9 v) W0.heap.size W7.heap.size wr.heap.size gO cO gP cP gQ cQ 0 vs v [] (.slice none 0 0) :=
        { s0 := T0.out.s0, x := hX8, o := T0.out.o.kept (setCell_other (by have := T0.out.o.low; omega)), p := T0.out.p.kept (setCell_other (by have := T0.out.p.low; omega)), q := T0.out.q.kept (setCell_other (by have := T0.out.q.low; omega)),
          w := T0.out.w.kept fun g a _ => setCell_other (by omega), l := ⟨⟨rfl, .inl ⟨rfl, rfl⟩⟩, fun j hj => absurd hj (Nat.not_lt_zero _)⟩, o1 := T0.out.o1, p1 := T0.out.p1, q1 := T0.out.q1, w2 := hw2, w3 := hw3, s1 := by rw [setCell_size]; exact Nat.le_refl _, s2 := T0.out.s2, s3 := hsr }
      have T2 := hide hT2
      clear hT2 hX8 hw2 hw3
      have hb2s : W7.heap.size ≤ wr.heap.size := hsr
      generalize wr.setCell ⟨w.heap.size + 1 + 1, 11, none⟩ (.slice none 0 0) = W8 at T2 ⊢
      obtain ⟨b2, hb2e⟩ : ∃ b2, wr.heap.size = b2 := ⟨_, rfl⟩
      rw [hb2e] at T2 hb2s
      clear hb2e hzr hsr T0 x1lt
      rename Value => vW
      go_wp2_with fail
      go_loopw [6, 7] (fun i l W => ∃ (k : Nat) (xs : List Value) (v : Value), k ≤ links.length ∧ i = .int .i64 k ∧ Tw2 w W ⟨nodes, owners, drift, reading, margin, bound, rejoin, quota, parts, windows, ports, links⟩ ⟨oA, oC, pA, pC, wA, wC, qA, qC, lA, lC⟩ (out.set 9 vW) W0.heap.size W7.heap.size b2 gO cO gP cP gQ cQ k vs vW xs v) (fun i _ _ => links.length - (intOf i).toNat)
      case atStart => exact ⟨0, [], _, Nat.zero_le _, rfl, T2.out⟩
      case round =>
        obtain ⟨k, xs, v, hk, rfl, hT⟩ := hrel
        have T0 := hide hT
        have hzr := hT.x.sz
        have hsr := hT.s1
        clear hT
        obtain ⟨x1lt, e0, e1, e2, e3, e4, e5, e6, e7, e8, e9, e10, e11⟩ := T0.out.x.x1
        dsimp only at e0 e1 e2 e3 e4 e5 e6 e7 e8 e9 e10 e11
        have hslot : Hid (((out.set 9 vW).set 11 v)[11]? = some v) := List.getElem?_set_self (by simp; omega)
        by_cases hlt : k < links.length
        · obtain ⟨lb, lo, Ai, ci, hlA, hlb, g0, g1, g2, hci1, hci2, hInts, _, _⟩ := (H0.out.of_below T0.out.x.bel (Nat.le_refl _)).links.at hlt
          dsimp only at hlA g0 g1 g2 hInts hci1
          have hrow := HS.out.dests k hlt
          dsimp only at hrow
          subst hlA
          obtain ⟨n, hn⟩ : ∃ n, (links.getD k default).dests.length = n := ⟨_, rfl⟩
          obtain ⟨so, hso⟩ : ∃ s, (links.getD k default).source = s := ⟨_, rfl⟩
          obtain ⟨of_, hof⟩ : ∃ s, (links.getD k default).offset = s := ⟨_, rfl⟩
          have HN1 := hide hn; have HSO := hide hso; have HOF := hide hof
          have hba : Below wr.heap.size wr (wr.alloc (.cells #[.int .i64 so, .slice Ai n ci, .int .i64 of_] 38)) := (Below.refl _ _).alloc (Nat.le_refl _) _
          have hblk := heap_alloc_new wr (.cells #[.int .i64 so, .slice Ai n ci, .int .i64 of_] 38)
          have hwsz : (wr.alloc (.cells #[.int .i64 so, .slice Ai n ci, .int .i64 of_] 38)).heap.size = wr.heap.size + 1 := Array.size_push _
          have hIa := hide (hInts.of_below hba (Nat.le_refl _))
          have hXa := hide (T0.out.x.below (hba.mono hzr))
          have h0' := cell_below hba (Nat.le_refl _) hlb g0
          have h1' := cell_below hba (Nat.le_refl _) hlb g1
          have h2' := cell_below hba (Nat.le_refl _) hlb g2
          have HBA := hide hba
          have HBL := hide hblk
          have HWZ := hide hwsz
          rw [hn] at g1 h1' hrow hci1
          rw [hso] at g0 h0'
          rw [hof] at g2 h2'
          clear hn hso hof hba hInts hblk
          go_upto_region 16 with fail
          clear e0 e1 e2 e3 e4 e5 e6 e7 e8 e9 e10 e11 g0 g1 g2
          generalize wr.alloc (.cells #[.int .i64 so, .slice Ai n ci, .int .i64 of_] 38) = Wa at hIa hXa h0' h1' h2' HBA HBL HWZ hwsz ⊢
          have hlb2 : lb < Wa.heap.size := by omega
          obtain ⟨_, e0, e1, e2, e3, e4, e5, e6, e7, e8, e9, e10, e11⟩ := hXa.out.x1
          dsimp only at e0 e1 e2 e3 e4 e5 e6 e7 e8 e9 e10 e11
          have hb0 : Below Wa.heap.size Wa (Wa.alloc (.cells #[] 3)) := (Below.refl _ _).alloc (Nat.le_refl _) _
          have hS := hide (((ints_iff.1 hIa.out).2.src inC_len (by omega) inC_one).of_below hb0 (Nat.le_refl _))
          have hA := hide (lies_none hIa.out.2)
          rw [HN1.out] at hS hA
          have HB0 := hide hb0
          have hwaz : w.heap.size + 1 + 1 + 1 ≤ Wa.heap.size := by omega
          have hx1a : w.heap.size < Wa.heap.size := by omega
          have hwz1 : wr.heap.size < Wa.heap.size := by omega
          clear hb0 hwsz
          go_upto_region 17 with (refine wpList_dup _ rfl (.tmp 58) (.tmp 64) 22 rfl 3 (.int .i64 0) 1 8 Tryd.underlying22 info_int rfl (by omega) (by omega) Wa.heap.size rfl (heap_alloc_new Wa _) Ai n ci _ rfl hS.out (by omega) hA.out ?_; intro g cj W1 hg0 hO1 hb1; have HB1 := hide (HB0.out.trans hb1); have HBL1 := hide ((HB1.out.block wr.heap.size (by omega)).trans HBL.out); have kl : W1.cell? ⟨wr.heap.size, 1, none⟩ = some (.slice Ai n ci) := by { rw [cell_of_row _ _ _ _ _ _ HBL1.out]; rfl }; have fl : W1.frozen? ⟨wr.heap.size, 1, none⟩ = false := by { simp [World.frozen?, HBL1.out] }; have HO1 := hide hO1; clear hO1 hb1 e0 e1 e2 e3 e4 e5 e6 e7 e8 e9 e10 e11 h0' h1' h2')
          clear kl fl
          have z1 := HB1.out.size
          have HB1b : Hid (Below wr.heap.size wr (W1.setCell ⟨wr.heap.size, 1, none⟩ (.slice (some ⟨g, 0, none⟩) n cj))) := hide (HBA.out.trans ((HB1.out.mono (B' := wr.heap.size) (by omega)).setCell (p := ⟨wr.heap.size, 1, none⟩) (Nat.le_refl _) _))
          have HO2 := hide (HO1.out.kept (W' := W1.setCell ⟨wr.heap.size, 1, none⟩ (.slice (some ⟨g, 0, none⟩) n cj)) (setCell_other (by have := HO1.out.low; omega)))
          have HX2 := hide (hXa.out.below (W' := W1.setCell ⟨wr.heap.size, 1, none⟩ (.slice (some ⟨g, 0, none⟩) n cj)) ((HB1.out.mono hwaz).setCell (p := ⟨wr.heap.size, 1, none⟩) (by show _ ≤ wr.heap.size; omega) _))
          have HL2 : Hid ((W1.setCell ⟨wr.heap.size, 1, none⟩ (.slice (some ⟨g, 0, none⟩) n cj)).heap[wr.heap.size]? = some (.cells #[.int .i64 so, .slice (some ⟨g, 0, none⟩) n cj, .int .i64 of_] 38 (0, 0))) := by
            show (W1.heap.modify wr.heap.size _)[wr.heap.size]? = _
            rw [Array.getElem?_modify, if_pos rfl, HBL1.out]
            rfl
          have z2 : wr.heap.size < (W1.setCell ⟨wr.heap.size, 1, none⟩ (.slice (some ⟨g, 0, none⟩) n cj)).heap.size := by rw [setCell_size]; omega
          clear HB1 HO1 HBL1 HBL HB0 hS hA hXa hIa HBA HWZ hg0
          generalize W1.setCell ⟨wr.heap.size, 1, none⟩ (.slice (some ⟨g, 0, none⟩) n cj) = W2 at HB1b HO2 HX2 HL2 z2 ⊢
          clear z1
          have kv := HX2.out.cell hslot.out
          have l0 : W2.cell? ⟨wr.heap.size, 0, none⟩ = some (.int .i64 so) := by rw [cell_of_row _ _ _ _ _ _ HL2.out]; rfl
          have l1 : W2.cell? ⟨wr.heap.size, 1, none⟩ = some (.slice (some ⟨g, 0, none⟩) n cj) := by rw [cell_of_row _ _ _ _ _ _ HL2.out]; rfl
          have l2 : W2.cell? ⟨wr.heap.size, 2, none⟩ = some (.int .i64 of_) := by rw [cell_of_row _ _ _ _ _ _ HL2.out]; rfl
          have hb2 : Below W2.heap.size W2 (W2.alloc (.cells #[.int .i64 so, .slice (some ⟨g, 0, none⟩) n cj, .int .i64 of_] 38)) := (Below.refl _ _).alloc (Nat.le_refl _) _
          have HB2 := hide hb2
          have HW : Hid ((W2.alloc (.cells #[.int .i64 so, .slice (some ⟨g, 0, none⟩) n cj, .int .i64 of_] 38)).ownsRow b2 38 3 v k xs) := hide (ownsRow.kept T0.out.l.own fun r hr => by
            obtain ⟨a, cur, e⟩ := ownsRow.blk T0.out.l.own hr
            have := (Array.getElem?_eq_some_iff.1 e).1
            exact (HB2.out.block r (by omega)).trans (HB1b.out.block r this))
          have hlow : b2 ≤ (W2.alloc (.cells #[.int .i64 so, .slice (some ⟨g, 0, none⟩) n cj, .int .i64 of_] 38)).heap.size := by have := hb2.size; omega
          have hx1lt : w.heap.size + 1 + 1 < W2.heap.size := by omega
          clear hb2
          go_upto_region 14 with (refine wpList_one _ rfl (.tmp 68) (.tmp 70) 26 rfl 38 (.agg #[.int .i64 0, .slice none 0 0, .int .i64 0]) 3 40 Tryd.underlying26 info_link rfl (by omega) (by omega) b2 v k xs rfl HW.out W2.heap.size 1 [.int .i64 so, .slice (some ⟨g, 0, none⟩) n cj, .int .i64 of_] rfl (heap_alloc_new W2 _) rfl (by simp [Value.oneCell']) (by omega) hlow ?_; intro v' W3 how hgr hor; obtain ⟨vA, vC, rfl, _, _, _⟩ := ownsRow.slice how; have XX3 := hide ((HX2.out.below (HB2.out.mono (by omega))).below ((Below.refl _ _).grown hgr (by have := HB2.out.size; omega) (fun r e => by have := (ownsRow.blk HW.out e).1; omega))); have kv3 := XX3.out.cell hslot.out; have fv3 := XX3.out.free 11; have HOW := hide how; have HGR := hide hgr; clear how hgr hor kv l0 l1 l2)
          go_wp2_with fail
          go_roundw
          case rel => exact ⟨k + 1, _, _, by omega, by go_num, T0.out.step HN1.out.symm { HO2.out with low := by have := HO2.out.low; omega } HB1b.out HB2.out (by rw [HSO.out, HOF.out]; exact HOW.out) HGR.out⟩
          case measure => simp [intOf]; omega
        · obtain rfl : k = links.length := by omega
          have hcell2 : ∀ (j : Nat) (u : Value), ((out.set 9 vW).set 11 v)[j]? = some u → wr.cell? ⟨w.heap.size + 1 + 1, j, none⟩ = some u := fun j u hu => T0.out.x.cell hu
          have H2 := hide T0.out.x.x2
          rw [HOUT.out] at hcell2
          have q0 := hcell2 0 _ rfl
          have q1 := hcell2 1 _ rfl
          have q2 := hcell2 2 _ rfl
          have q3 := hcell2 3 _ rfl
          have q4 := hcell2 4 _ rfl
          have q5 := hcell2 5 _ rfl
          have q6 := hcell2 6 _ rfl
          have q7 := hcell2 7 _ rfl
          have q8 := hcell2 8 _ rfl
          have q9 := hcell2 9 _ rfl
          have q10 := hcell2 10 _ rfl
          have q11 := hcell2 11 _ rfl
          clear hcell2
          obtain ⟨A2, C2, hv2, hc21, hc22, _⟩ := ownsRow.slice T0.out.l.own
          obtain ⟨A1, C1, hv1, hc11, hc12, _⟩ := ownsRow.slice T0.out.w.own
          subst hv1 hv2
          have HTF : Hid (Twn (wr.setRow (w.heap.size + 1) #[.int .i64 nodes, .slice (some ⟨gO, 0, none⟩) owners.length cO, .int .i64 drift, .int .i64 reading, .int .i64 margin, .int .i64 bound, .int .i64 rejoin, .int .i64 quota, .slice (some ⟨gP, 0, none⟩) parts.length cP, .slice A1 windows.length C1, .slice (some ⟨gQ, 0, none⟩) ports.length cQ, .slice A2 links.length C2]) ⟨nodes, owners, drift, reading, margin, bound, rejoin, quota, parts, windows, ports, links⟩ ⟨some ⟨gO, 0, none⟩, cO, some ⟨gP, 0, none⟩, cP, A1, C1, some ⟨gQ, 0, none⟩, cQ, A2, C2⟩ W0.heap.size W7.heap.size b2 gO gP gQ vs xs) :=
            { num := HN.out, oA := rfl, pA := rfl, qA := rfl, o := T0.out.o.kept (setRow_other _ _ _ _ (by have := T0.out.o.low; omega)), p := T0.out.p.kept (setRow_other _ _ _ _ (by have := T0.out.p.low; omega)), q := T0.out.q.kept (setRow_other _ _ _ _ (by have := T0.out.q.low; omega)),
              w := T0.out.w.kept fun g a _ => setRow_other _ _ _ _ (by omega), l := T0.out.l.kept fun g a _ => setRow_other _ _ _ _ (by omega), o1 := T0.out.o1, p1 := T0.out.p1, q1 := T0.out.q1, w2 := T0.out.w2, w3 := T0.out.w3, b12 := hb2s }
          have HBF : Hid (Below w.heap.size w (wr.setRow (w.heap.size + 1) #[.int .i64 nodes, .slice (some ⟨gO, 0, none⟩) owners.length cO, .int .i64 drift, .int .i64 reading, .int .i64 margin, .int .i64 bound, .int .i64 rejoin, .int .i64 quota, .slice (some ⟨gP, 0, none⟩) parts.length cP, .slice A1 windows.length C1, .slice (some ⟨gQ, 0, none⟩) ports.length cQ, .slice A2 links.length C2])) := below_setRow T0.out.x.bel (by omega) _
          have HRF : Hid ((wr.setRow (w.heap.size + 1) #[.int .i64 nodes, .slice (some ⟨gO, 0, none⟩) owners.length cO, .int .i64 drift, .int .i64 reading, .int .i64 margin, .int .i64 bound, .int .i64 rejoin, .int .i64 quota, .slice (some ⟨gP, 0, none⟩) parts.length cP, .slice A1 windows.length C1, .slice (some ⟨gQ, 0, none⟩) ports.length cQ, .slice A2 links.length C2]).heap[w.heap.size + 1]? = some (.cells #[.int .i64 nodes, .slice (some ⟨gO, 0, none⟩) owners.length cO, .int .i64 drift, .int .i64 reading, .int .i64 margin, .int .i64 bound, .int .i64 rejoin, .int .i64 quota, .slice (some ⟨gP, 0, none⟩) parts.length cP, .slice A1 windows.length C1, .slice (some ⟨gQ, 0, none⟩) ports.length cQ, .slice A2 links.length C2] 28 (0, 0))) := setRow_heap _ _ _ _ _ _ H2.out
          go_wp2_with (refine wpList_store_row rfl 28 (.tmp 2) (.tmp 73) rfl (w.heap.size + 1) #[.int .i64 nodes, .slice (some ⟨gO, 0, none⟩) owners.length cO, .int .i64 drift, .int .i64 reading, .int .i64 margin, .int .i64 bound, .int .i64 rejoin, .int .i64 quota, .slice (some ⟨gP, 0, none⟩) parts.length cP, .slice A1 windows.length C1, .slice (some ⟨gQ, 0, none⟩) ports.length cQ, .slice A2 links.length C2] rfl rfl 28 zc H2.out info_cfg rfl (by simp [Value.oneCell']) ?_; have HF := HRF; have HT9 := HTF; have HB9 := HBF; generalize wr.setRow (w.heap.size + 1) #[.int .i64 nodes, .slice (some ⟨gO, 0, none⟩) owners.length cO, .int .i64 drift, .int .i64 reading, .int .i64 margin, .int .i64 bound, .int .i64 rejoin, .int .i64 quota, .slice (some ⟨gP, 0, none⟩) parts.length cP, .slice A1 windows.length C1, .slice (some ⟨gQ, 0, none⟩) ports.length cQ, .slice A2 links.length C2] = Wf at HF HT9 HB9 ⊢; clear q0 q1 q2 q3 q4 q5 q6 q7 q8 q9 q10 q11 e0 e1 e2 e3 e4 e5 e6 e7 e8 e9 e10 e11)
          refine bodyPost_ret (results_cell_row (fn := Tryd.f5) rfl _ _ (w.heap.size + 1) _ _ (0, 0) _ rfl HF.out Tryd.underlying28 rfl info_cfg) rfl ?_
          unfold TwPost
          exact ⟨⟨⟨some ⟨gO, 0, none⟩, cO, some ⟨gP, 0, none⟩, cP, A1, C1, some ⟨gQ, 0, none⟩, cQ, A2, C2⟩, W0.heap.size, W7.heap.size, b2, gO, gP, gQ, vs, xs, rfl, HT9.out, by omega, by omega⟩, HB9.out⟩
end Go.Proofs.YthngjegimecaaaaDoor
