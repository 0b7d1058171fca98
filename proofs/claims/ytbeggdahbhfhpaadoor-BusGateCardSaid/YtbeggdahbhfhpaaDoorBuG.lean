/-
  The walk of BusGate.
-/
import Derived.Test.YtbeggdahbhfhpaaDoorBuQ
namespace Go.Proofs.YtbeggdahbhfhpaaDoor
open Go.RowKit Go.Deep
set_option linter.unusedVariables false
set_option linter.unusedSimpArgs false

def GaC (w w5 : World) (owner : Int) (own : List Nat) (k : Nat) (s12 : Value) (wx : World) : Prop := ∃ (R : List (SnD × Value)) (vA : Option Addr) (vc : Nat), s12 = .slice vA R.length vc ∧ SrAt w wx w5.heap.size (.slice vA R.length vc) R ∧ AccOk owner own k R ∧ Below w5.heap.size w5 wx
/-- what stands beside a configuration: the turn, in the block behind it -/
structure TuS (w W : World) (c : Conf) (d : Ad) (cs : Array Value) : Prop where
  cf : CfS w W c d
  tu : W.heap[w.heap.size + 1]? = some (.cells cs 58 (0, 0))
section
variable {w W W' : World} {c : Conf} {d : Ad} {cs : Array Value}
theorem TuS.lt (h : TuS w W c d cs) : w.heap.size + 1 < W.heap.size := (Array.getElem?_eq_some_iff.1 h.tu).1
theorem TuS.below (h : TuS w W c d cs) (hb : Below W.heap.size W W') : TuS w W' c d cs := ⟨h.cf.below hb, (hb.block _ h.lt).trans h.tu⟩
theorem TuS.made (h : CfS w W c d) (hz : W.heap.size = w.heap.size + 1) : TuS w (W.alloc (.cells cs 58)) c d cs := by
  have n1 := heap_alloc_new W (.cells cs 58)
  exact ⟨h.below (bal W _), by rw [← hz]; exact n1⟩
end

set_option maxRecDepth 100000 in
set_option maxHeartbeats 4000000 in
theorem gate_walk (c : Conf) (d : Ad) (slot : Int) (hs : I64 slot) (A : Option Addr) (L : List SnD) (ac : Nat) (AC : Option Addr) (C : List CpD) (cc : Nat) (pb : Bool) (AO : Option Addr) (own : List Nat) (oo : Nat) (w : World)
    (hg : Glo w) (h : ConfAt w c d) (hL : SnAt w A L) (hl : L.length ≤ 4398046510976) (hC : CpAt w AC C) (hCl : C.length ≤ 9223372036854775807) (hO : Bytes w AO own)
    (HA : ∀ W, Below w.heap.size w W → Calls Tryd.prog 15 #[] W fun e w' => e = .returned (.bool true) ∧ Below W.heap.size W w') :
    Calls Tryd.prog 4 #[c.val d, .agg #[.int .i64 slot, .slice A L.length ac, .slice AC C.length cc, .bool pb], .slice AO own.length oo] w fun e w' => e = .returned (.bool true) ∧ Below w.heap.size w w' := by
  have hS := TuS.made (cs := #[.int .i64 slot, .slice A L.length ac, .slice AC C.length cc, .bool pb]) (CfS.first 28 hg h) (by simp)
  have CA : Hid (∀ W, TuS w W c d #[.int .i64 slot, .slice A L.length ac, .slice AC C.length cc, .bool pb] → Calls Tryd.prog 15 #[] W fun e w' => e = .returned (.bool true) ∧ Below W.heap.size W w') := fun W H => HA W H.cf.bel
  have CN : Hid (∀ W, TuS w W c d #[.int .i64 slot, .slice A L.length ac, .slice AC C.length cc, .bool pb] → Calls Tryd.prog 16 #[c.val d] W (BNew c W)) := fun W H => bnew_at c d W H.cf.g H.cf.cf
  have CG : Hid (∀ W tb, Below w.heap.size w W → W.heap[tb]? = some (.cells #[.int .i64 slot, .slice A L.length ac, .slice AC C.length cc, .bool pb] 58 (0, 0)) → Calls Tryd.prog 17 #[.slice (some ⟨tb, 0, none⟩) 1 1] W fun e w' => BTruth e ∧ w' = W) := fun W tb hb hc =>
    bgreat_at tb slot A ac L AC C.length cc W (Array.getElem?_eq_some_iff.1 hc).1 ((bcellOf hc 1).trans rfl) ((bcellOf hc 2).trans rfl) (hL.below hb) (by omega)
  have HLS := hide hL; have HCS := hide hC; have HOS := hide hO
  have HNW : Hid (∀ W e w', BNew c W e w' → Below W.heap.size W w' ∧ ((checkF c ≠ 0 ∧ e = .returned (.tuple #[.pointer none, .int .i64 (checkF c)])) ∨ (checkF c = 0 ∧ ∃ g ob oc, W.heap.size ≤ g ∧ W.heap.size ≤ ob ∧ e = .returned (.tuple #[.pointer (some ⟨g, 0, none⟩), .int .i64 0]) ∧ BuAt w' g ob oc (bu0 c)))) := fun _ _ _ h => h
  have HZ := hide (fun hz => (bzero (c := c) hz))
  have HBU : Hid (bu0 c = ⟨c.owners.length, c.owners, 0, 0⟩) := rfl
  generalize bu0 c = kk at HNW HBU
  generalize BNew c = PN at CN HNW
  generalize checkF c = f at HNW HZ
  clear hg h hL hC hO HA
  obtain ⟨oA, oC, pA, pC, wA, wC, qA, qC, lA, lC⟩ := d
  obtain ⟨nodes, owners, drift, reading, margin, bound, rejoin, quota, parts, windows, ports, links⟩ := c
  unfold Conf.val at CN ⊢
  unfold Conf.cells at hS
  dsimp only at hS CN HBU HZ ⊢
  have HS := hide hS
  clear hS
  go_enter Tryd.func4, Tryd.ntmps4
  go_upto_region 1 with fail
  generalize (w.alloc (.cells #[.int .i64 nodes, .slice oA owners.length oC, .int .i64 drift, .int .i64 reading, .int .i64 margin, .int .i64 bound, .int .i64 rejoin, .int .i64 quota, .slice pA parts.length pC, .slice wA windows.length wC, .slice qA ports.length qC, .slice lA links.length lC] 28)).alloc (.cells #[.int .i64 slot, .slice A L.length ac, .slice AC C.length cc, .bool pb] 58) = W1 at HS ⊢
  go_wp2_with fail
  refine (CA.out _ HS.out).mono ?_
  rintro e w2 ⟨rfl, hb2⟩
  have HS2 := hide (HS.out.below hb2)
  clear hb2 HS CA
  obtain ⟨hl0, e0, e1, e2, e3, e4, e5, e6, e7, e8, e9, e10, e11⟩ := HS2.out.cf.x
  dsimp only at e0 e1 e2 e3 e4 e5 e6 e7 e8 e9 e10 e11
  go_wp2_with fail
  refine (CN.out _ HS2.out).mono ?_
  intro e w3 hp
  obtain ⟨hb3, hcase⟩ := HNW.out _ _ _ hp
  have HS3 := hide (HS2.out.below hb3)
  have HB3 := hide hb3
  have HCase := hide hcase
  clear hp hb3 hcase HNW CN hl0 e0 e1 e2 e3 e4 e5 e6 e7 e8 e9 e10 e11
  have x0 : w3.cell? ⟨w.heap.size + 1, 0, none⟩ = some (.int .i64 slot) := (bcellOf HS3.out.tu 0).trans rfl
  have x1 : w3.cell? ⟨w.heap.size + 1, 1, none⟩ = some (.slice A L.length ac) := (bcellOf HS3.out.tu 1).trans rfl
  have x2 : w3.cell? ⟨w.heap.size + 1, 2, none⟩ = some (.slice AC C.length cc) := (bcellOf HS3.out.tu 2).trans rfl
  have x3 : w3.cell? ⟨w.heap.size + 1, 3, none⟩ = some (.bool pb) := (bcellOf HS3.out.tu 3).trans rfl
  have hxb := HS3.out.cf.bel.trans ((bal w3 (.cells #[.int .i64 slot, .slice A L.length ac, .slice AC C.length cc, .bool pb] 58)).mono HS3.out.cf.bel.size)
  have HGC := hide (CG.out _ _ hxb (heap_alloc_new w3 (.cells #[.int .i64 slot, .slice A L.length ac, .slice AC C.length cc, .bool pb] 58)))
  have y0 : (w3.alloc (.cells #[.int .i64 slot, .slice A L.length ac, .slice AC C.length cc, .bool pb] 58)).cell? ⟨w.heap.size + 1, 0, none⟩ = some (.int .i64 slot) := cell_below (bal w3 _) (Nat.le_refl _) HS3.out.lt x0
  have HXB := hide hxb
  clear hxb
  rcases HCase.out with ⟨hf, rfl⟩ | ⟨hf, g, ob, oc, hgz, hobz, rfl, hbu⟩
  · have hfn : (f != 0) = true := by simpa using hf
    by_cases hol : (5000 : Int) < ((own.length : Nat) : Int)
    · go_wp2_with (go_at_call 17; refine HGC.out.mono ?_; rintro e w4 ⟨⟨b, rfl⟩, rfl⟩; cases b)
      all_goals go_ret
      all_goals exact ⟨rfl, HXB.out⟩
    · go_wp2_with (go_at_call 17; refine HGC.out.mono ?_; rintro e w4 ⟨⟨b, rfl⟩, rfl⟩; cases b)
      all_goals go_ret
      all_goals exact ⟨rfl, HXB.out⟩
  · subst hf
    have HGz := hide (And.intro hgz hobz)
    have HBu := hide hbu
    clear hgz hobz hbu HCase
    by_cases hol : (5000 : Int) < ((own.length : Nat) : Int)
    · go_wp2_with (go_at_call 17; refine HGC.out.mono ?_; rintro e w4 ⟨⟨b, rfl⟩, rfl⟩; cases b)
      all_goals go_ret
      all_goals exact ⟨rfl, HXB.out⟩
    by_cases hsl : slot < 0
    · go_wp2_with (go_at_call 17; refine HGC.out.mono ?_; rintro e w4 ⟨⟨b, rfl⟩, rfl⟩; cases b)
      all_goals go_ret
      all_goals exact ⟨rfl, HXB.out⟩
    go_upto_region 5 with (go_at_call 17; refine HGC.out.mono ?_; rintro e w4 ⟨⟨b, rfl⟩, rfl⟩; cases b)
    rotate_left
    · go_ret
      exact ⟨rfl, HXB.out⟩
    have HS4 := hide (HS3.out.below (bal w3 (.cells #[.int .i64 slot, .slice A L.length ac, .slice AC C.length cc, .bool pb] 58)))
    have HBu4 := hide (HBu.out.below (bal w3 (.cells #[.int .i64 slot, .slice A L.length ac, .slice AC C.length cc, .bool pb] 58)))
    have HG4 := hide (show w.heap.size + 2 ≤ g ∧ w.heap.size ≤ ob from ⟨by have := HGz.out.1; have := HS2.out.lt; omega, by have := HGz.out.2; have := HS2.out.lt; omega⟩)
    clear x0 x1 x2 x3 y0 HGC HXB HBu HGz HS2 HS3 HB3
    generalize w3.alloc (.cells #[.int .i64 slot, .slice A L.length ac, .slice AC C.length cc, .bool pb] 58) = w4 at HS4 HBu4 ⊢
    obtain ⟨sN, rfl⟩ := Int.eq_ofNat_of_zero_le (show 0 ≤ slot by omega)
    obtain ⟨z1, z2, z3, _⟩ := HZ.out (by trivial)
    subst z1
    have hmod : ((sN : Nat) : Int).tmod ((owners.length : Nat) : Int) = ((sN % owners.length : Nat) : Int) := rfl
    have hmlt : sN % owners.length < owners.length := Nat.mod_lt _ (by omega)
    obtain ⟨bo, oo2, he, hbo, hco⟩ := HS4.out.cf.cf.owners.at hmlt
    have he : oA = some ⟨bo, oo2, none⟩ := he
    subst he
    have HOW : Hid (ownF (turnsC kk) ((sN : Nat) : Int) = owners.getD (sN % owners.length) 0) := by
      show _ = _
      rw [HBU.out]
      unfold ownF turnsC
      dsimp only
      rw [if_neg (by omega)]
      rfl
    have hnum := HS4.out.cf.cf.owners.num (sN % owners.length)
    generalize owners.getD (sN % owners.length) 0 = owner at hco HOW hnum
    have HNum := hide hnum
    have x0 : w4.cell? ⟨w.heap.size + 1, 0, none⟩ = some (.int .i64 ((sN : Nat) : Int)) := (bcellOf HS4.out.tu 0).trans rfl
    obtain ⟨hl0, e0, e1, e2, e3, e4, e5, e6, e7, e8, e9, e10, e11⟩ := HS4.out.cf.x
    dsimp only at e0 e1 e2 e3 e4 e5 e6 e7 e8 e9 e10 e11
    clear e0 e2 e3 e4 e5 e6 e7 e8 e9 e10 e11 hnum
    go_region
    clear e1 x0 hco hbo hl0 hmod
    have HM5 : Hid (((w4.alloc (.cells #[.int .i64 owner, .slice AO own.length oo] 65)).drew).heap[w4.heap.size]? = some (.cells #[.int .i64 owner, .slice AO own.length oo] 65)) := heap_alloc_new w4 (.cells #[.int .i64 owner, .slice AO own.length oo] 65)
    have hb5 : Below w4.heap.size w4 ((w4.alloc (.cells #[.int .i64 owner, .slice AO own.length oo] 65)).drew) := (bal w4 (.cells #[.int .i64 owner, .slice AO own.length oo] 65)).trans (show Below w4.heap.size (w4.alloc (.cells #[.int .i64 owner, .slice AO own.length oo] 65)) (w4.alloc (.cells #[.int .i64 owner, .slice AO own.length oo] 65)).drew from ⟨rfl, rfl, rfl, Nat.le_refl _, fun _ _ => rfl⟩)
    have HS5 := hide (HS4.out.below hb5)
    have HBu5 := hide (HBu4.out.below hb5)
    have HZ5 : Hid (((w4.alloc (.cells #[.int .i64 owner, .slice AO own.length oo] 65)).drew).heap.size = w4.heap.size + 1) := by show _ = _; simp
    have HGl := hide HBu4.out.lt
    clear hb5 HS4 HBu4 CG
    go_upto_region 9 with fail
    generalize (w4.alloc (.cells #[.int .i64 owner, .slice AO own.length oo] 65)).drew = w5 at HM5 HS5 HBu5 HZ5 ⊢
    generalize w4.heap.size = mb at HM5 HZ5 HGl ⊢
    go_loopw [13, 12] (fun i v W => ∃ (n : Nat) (R : List (SnD × Value)), n ≤ L.length ∧ i = .int .i64 (n : Int) ∧ SrAt w W w5.heap.size v R ∧ AccOk owner own n R ∧ Below w5.heap.size w5 W) (fun i _ _ => L.length - (intOf i).toNat)
    case atStart => exact ⟨0, [], by omega, rfl, SrAt.nil _ _ _, AccOk.zero _ _, Below.refl _ _⟩
    case round =>
      obtain ⟨n, R, hn, rfl, hr, hk, hbw⟩ := hrel
      obtain ⟨vA, vc, rfl⟩ := bow_slice hr.row
      have HSr := hide (HS5.out.below hbw)
      have y1 : wr.cell? ⟨w.heap.size + 1, 1, none⟩ = some (.slice A L.length ac) := (bcellOf HSr.out.tu 1).trans rfl
      have hmr := (hbw.block mb (by have := HZ5.out; omega)).trans HM5.out
      have HMr := hide hmr
      have HR := hide hr; have HK := hide hk; have HBW := hide hbw
      clear hmr hr hk hbw
      by_cases hlt : n < L.length
      · obtain ⟨b, o, Ai, ci, hA, hb, c0', c1', hby⟩ := HLS.out.at hlt
        have c0 := cell_below HSr.out.cf.bel (Nat.le_refl _) hb c0'
        have c1 := cell_below HSr.out.cf.bel (Nat.le_refl _) hb c1'
        have HKL := hide (show n + 1 ≤ L.length by omega)
        clear c0' c1' hb
        generalize L.getD n default = x at c0 c1 hby
        obtain ⟨xn, xl⟩ := x
        dsimp only at c0 c1 hby
        subst hA
        have HBy := hide hby
        clear hby
        have HRN : Hid ((R.length + 1) * 32 ≤ 140737488355328) := by show _ ≤ _; have := HK.out.len; omega
        by_cases hne : xn = owner
        · have hnb : (xn != owner) = false := by simpa using hne
          clear hne
          by_cases h0 : n = 0
          · have HR0 := hide (HK.out.nil h0)
            have h0b : (((n : Nat) : Int) == 0) = true := by rw [h0]; rfl
            have H0 := hide h0
            clear h0
            have m0 : wr.cell? ⟨mb, 0, none⟩ = some (.int .i64 owner) := (bcellOf HMr.out 0).trans rfl
            have m1 : wr.cell? ⟨mb, 1, none⟩ = some (.slice AO own.length oo) := (bcellOf HMr.out 1).trans rfl
            have hbe2 := bal wr (.cells #[.int .i64 owner, .slice AO own.length oo] 65)
            have HOWN2 := hide (bow_below HR.out.row hbe2)
            have HNW2 := hide (heap_alloc_new wr (.cells #[.int .i64 owner, .slice AO own.length oo] 65))
            have hbase2 : w5.heap.size ≤ (wr.alloc (.cells #[.int .i64 owner, .slice AO own.length oo] 65)).heap.size := by rw [World.size_alloc]; have := (HBW.out).size; omega
            have HBE2 := hide ((HBW.out).trans (hbe2.mono (HBW.out).size))
            have HOB2 := hide (fun k hk => (bow_block HR.out.row (k := k) hk).2.1)
            clear hbe2
            go_wp2_with (refine wpList_oneB _ rfl (.tmp 85) (.tmp 87) 55 rfl 65 (.agg #[.int .i64 0, .slice none 0 0]) 2 32 Tryd.underlying55 info_send rfl (by omega) (by omega) w5.heap.size _ _ _ rfl HOWN2.out wr.heap.size 1 [.int .i64 owner, .slice AO own.length oo] rfl HNW2.out rfl (by simp [Value.oneCell']) HRN.out hbase2 ?_; intro v2 W2' how hgr hor; obtain ⟨vB2, vd2, rfl⟩ := bow_slice how; have HHO2 := hide how; have HGR2 := hide hgr; clear how hgr hor)
            go_roundw
            case rel => exact ⟨n + 1, R ++ [(⟨owner, own⟩, .slice AO own.length oo)], HKL.out, by go_num, HR.out.more ⟨owner, own⟩ _ HHO2.out ⟨AO, oo, rfl, HOS.out⟩, (by rw [HR0.out]; exact AccOk.alone owner own _ _ (by omega)), HBE2.out.grown HGR2.out hbase2 HOB2.out⟩
            case measure => have := HKL.out; simp [intOf]; omega
          · have h0b : (((n : Nat) : Int) == 0) = false := by rw [beq_eq_false_iff_ne]; omega
            go_wp2_with fail
            go_roundw
            case rel => exact ⟨n + 1, R, HKL.out, by go_num, HR.out, HK.out.skip (by omega), HBW.out⟩
            case measure => have := HKL.out; simp [intOf]; omega
        · have hnb : (xn != owner) = true := by simpa using hne
          have HNE := hide hne
          clear hne
          have hbe1 := bal wr (.cells #[.int .i64 xn, .slice Ai xl.length ci] 65)
          have HOWN1 := hide (bow_below HR.out.row hbe1)
          have HNW1 := hide (heap_alloc_new wr (.cells #[.int .i64 xn, .slice Ai xl.length ci] 65))
          have hbase1 : w5.heap.size ≤ (wr.alloc (.cells #[.int .i64 xn, .slice Ai xl.length ci] 65)).heap.size := by rw [World.size_alloc]; have := (HBW.out).size; omega
          have HBE1 := hide ((HBW.out).trans (hbe1.mono (HBW.out).size))
          have HOB1 := hide (fun k hk => (bow_block HR.out.row (k := k) hk).2.1)
          clear hbe1
          by_cases h0 : n = 0
          · have HR0 := hide (HK.out.nil h0)
            have h0b : (((n : Nat) : Int) == 0) = true := by rw [h0]; rfl
            have H0 := hide h0
            clear h0
            have HRN2 : Hid ((R.length + 1 + 1) * 32 ≤ 140737488355328) := by show _ ≤ _; have := HK.out.len; omega
            go_upto_region 13 with (refine wpList_oneB _ rfl (.tmp 75) (.tmp 81) 55 rfl 65 (.agg #[.int .i64 0, .slice none 0 0]) 2 32 Tryd.underlying55 info_send rfl (by omega) (by omega) w5.heap.size _ _ _ rfl HOWN1.out wr.heap.size 1 [.int .i64 xn, .slice Ai xl.length ci] rfl HNW1.out rfl (by simp [Value.oneCell']) HRN.out hbase1 ?_; intro v1 W1' how hgr hor; obtain ⟨vB1, vd1, rfl⟩ := bow_slice how; have HHO1 := hide how; have HGR1 := hide hgr; clear how hgr hor)
            have HB1 := hide (HBE1.out.grown HGR1.out hbase1 HOB1.out)
            have hmr := (HB1.out.block mb (by have := HZ5.out; omega)).trans HM5.out
            have m0 : W1'.cell? ⟨mb, 0, none⟩ = some (.int .i64 owner) := (bcellOf hmr 0).trans rfl
            have m1 : W1'.cell? ⟨mb, 1, none⟩ = some (.slice AO own.length oo) := (bcellOf hmr 1).trans rfl
            clear hmr y1 c0 c1
            have hbe2 := bal W1' (.cells #[.int .i64 owner, .slice AO own.length oo] 65)
            have HOWN2 := hide (bow_below HHO1.out hbe2)
            have HNW2 := hide (heap_alloc_new W1' (.cells #[.int .i64 owner, .slice AO own.length oo] 65))
            have hbase2 : w5.heap.size ≤ (W1'.alloc (.cells #[.int .i64 owner, .slice AO own.length oo] 65)).heap.size := by rw [World.size_alloc]; have := (HB1.out).size; omega
            have HBE2 := hide ((HB1.out).trans (hbe2.mono (HB1.out).size))
            have HOB2 := hide (fun k hk => (bow_block HHO1.out (k := k) hk).2.1)
            clear hbe2
            go_wp2_with (refine wpList_oneB _ rfl (.tmp 85) (.tmp 87) 55 rfl 65 (.agg #[.int .i64 0, .slice none 0 0]) 2 32 Tryd.underlying55 info_send rfl (by omega) (by omega) w5.heap.size _ _ _ rfl HOWN2.out W1'.heap.size 1 [.int .i64 owner, .slice AO own.length oo] rfl HNW2.out rfl (by simp [Value.oneCell']) HRN2.out hbase2 ?_; intro v2 W2' how hgr hor; obtain ⟨vB2, vd2, rfl⟩ := bow_slice how; have HHO2 := hide how; have HGR2 := hide hgr; clear how hgr hor)
            go_roundw
            case rel => exact ⟨n + 1, (R ++ [(⟨xn, xl⟩, .slice Ai xl.length ci)]) ++ [(⟨owner, own⟩, .slice AO own.length oo)], HKL.out, by go_num, (HR.out.more ⟨xn, xl⟩ _ HHO1.out ⟨Ai, ci, rfl, HBy.out⟩).more ⟨owner, own⟩ _ (by rw [List.length_append, List.flatMap_append]; exact HHO2.out) ⟨AO, oo, rfl, HOS.out⟩, (by rw [H0.out, HR0.out]; exact AccOk.first owner own ⟨xn, xl⟩ _ _ HNE.out), HBE2.out.grown HGR2.out hbase2 HOB2.out⟩
            case measure => have := HKL.out; simp [intOf]; omega
          · have h0b : (((n : Nat) : Int) == 0) = false := by rw [beq_eq_false_iff_ne]; omega
            go_wp2_with (refine wpList_oneB _ rfl (.tmp 75) (.tmp 81) 55 rfl 65 (.agg #[.int .i64 0, .slice none 0 0]) 2 32 Tryd.underlying55 info_send rfl (by omega) (by omega) w5.heap.size _ _ _ rfl HOWN1.out wr.heap.size 1 [.int .i64 xn, .slice Ai xl.length ci] rfl HNW1.out rfl (by simp [Value.oneCell']) HRN.out hbase1 ?_; intro v1 W1' how hgr hor; obtain ⟨vB1, vd1, rfl⟩ := bow_slice how; have HHO1 := hide how; have HGR1 := hide hgr; clear how hgr hor)
            go_roundw
            case rel => exact ⟨n + 1, R ++ [(⟨xn, xl⟩, .slice Ai xl.length ci)], HKL.out, by go_num, HR.out.more ⟨xn, xl⟩ _ HHO1.out ⟨Ai, ci, rfl, HBy.out⟩, HK.out.app (by omega) _, HBE1.out.grown HGR1.out hbase1 HOB1.out⟩
            case measure => have := HKL.out; simp [intOf]; omega
      · obtain rfl : n = L.length := by omega
        have hds : decide (((L.length : Nat) : Int) < ((L.length : Nat) : Int)) = false := decide_eq_false (by omega)
        go_upto_if 92 with fail
        go_cut [12] from 12 to 97 (fun s12 wx => GaC w w5 owner own (L.length + 1) s12 wx)
        case first =>
          by_cases h0 : L.length = 0
          · have h0b : (((L.length : Nat) : Int) == 0) = true := by rw [h0]; rfl
            have HR0 := hide (HK.out.nil h0)
            have H0 := hide h0
            have HRN : Hid ((R.length + 1) * 32 ≤ 140737488355328) := by show _ ≤ _; have := HK.out.len; omega
            clear h0
            have m0 : wr.cell? ⟨mb, 0, none⟩ = some (.int .i64 owner) := (bcellOf HMr.out 0).trans rfl
            have m1 : wr.cell? ⟨mb, 1, none⟩ = some (.slice AO own.length oo) := (bcellOf HMr.out 1).trans rfl
            have hbe2 := bal wr (.cells #[.int .i64 owner, .slice AO own.length oo] 65)
            have HOWN2 := hide (bow_below HR.out.row hbe2)
            have HNW2 := hide (heap_alloc_new wr (.cells #[.int .i64 owner, .slice AO own.length oo] 65))
            have hbase2 : w5.heap.size ≤ (wr.alloc (.cells #[.int .i64 owner, .slice AO own.length oo] 65)).heap.size := by rw [World.size_alloc]; have := (HBW.out).size; omega
            have HBE2 := hide ((HBW.out).trans (hbe2.mono (HBW.out).size))
            have HOB2 := hide (fun k hk => (bow_block HR.out.row (k := k) hk).2.1)
            clear hbe2
            go_wp2_with (refine wpList_oneB _ rfl (.tmp 93) (.tmp 95) 55 rfl 65 (.agg #[.int .i64 0, .slice none 0 0]) 2 32 Tryd.underlying55 info_send rfl (by omega) (by omega) w5.heap.size _ _ _ rfl HOWN2.out wr.heap.size 1 [.int .i64 owner, .slice AO own.length oo] rfl HNW2.out rfl (by simp [Value.oneCell']) HRN.out hbase2 ?_; intro v2 W2' how hgr hor; obtain ⟨vB2, vd2, rfl⟩ := bow_slice how; have HHO2 := hide how; have HGR2 := hide hgr; clear how hgr hor)
            go_meet
            exact ⟨R ++ [(⟨owner, own⟩, .slice AO own.length oo)], vB2, vd2, by rw [List.length_append]; rfl, by rw [List.length_append]; exact HR.out.more ⟨owner, own⟩ _ HHO2.out ⟨AO, oo, rfl, HOS.out⟩, (by rw [HR0.out]; exact AccOk.alone owner own _ _ (by omega)), HBE2.out.grown HGR2.out hbase2 HOB2.out⟩
          · have h0b : (((L.length : Nat) : Int) == 0) = false := by rw [beq_eq_false_iff_ne]; omega
            go_wp2_with fail
            go_meet
            exact ⟨R, _, _, rfl, HR.out, HK.out.skip (by omega), HBW.out⟩
        case rest =>
          rename World => we
          clear HR HK HBW HSr HMr y1 hds
          obtain ⟨R, vA, vc, rfl, hr, hk, hbw⟩ := hcut
          have HSe := hide (HS5.out.below hbw)
          have HBe := hide (HBu5.out.below hbw)
          have HEb := hide hbw
          have hkk := HBU.out
          subst hkk
          clear HBU
          obtain ⟨p, p1, p2, p3, p4⟩ := hk.has (by omega)
          have hRl := hk.len
          have HRq : Hid (1 ≤ R.length) := by show 1 ≤ _; rw [List.length_map] at p1; omega
          have HGe := hide (show g < w5.heap.size by have := HGl.out; have := HZ5.out; omega)
          have hbel := HSe.out.cf.bel
          have hcar := carry_at HBe.out ((sN : Nat) : Int) (by omega) (R.map Prod.fst) vA vc p (hr.kept (fun j hj => hbel.block j hj) hbel.size (by have := HG4.out.1; omega) HGe.out) (by rw [List.length_map]; omega) p1 (by rw [HOW.out]; exact p2) (by rw [HOW.out]; exact p4) own p3 (by omega) (Nat.zero_le _) (Nat.zero_le _) C AC cc (fun W hW => HCS.out.stays (fun j hj => (hW.blk j (Nat.lt_of_lt_of_le hj hbel.size) (by have := HG4.out.1; omega)).trans (hbel.block j hj)) (Nat.le_trans hbel.size hW.siz)) hCl (by show owners.length ≤ _; omega)
          rw [HOW.out, List.length_map] at hcar
          have HCa := hide hcar
          have HRl := hide hRl
          clear hcar hr hk hbw p1 p2 p3 p4 hRl
          have y0 : we.cell? ⟨w.heap.size + 1, 0, none⟩ = some (.int .i64 ((sN : Nat) : Int)) := (bcellOf HSe.out.tu 0).trans rfl
          have y2 : we.cell? ⟨w.heap.size + 1, 2, none⟩ = some (.slice AC C.length cc) := (bcellOf HSe.out.tu 2).trans rfl
          go_wp2_with fail
          refine HCa.out.mono ?_
          rintro e w6 ⟨rb, vs, rfl, r1, r2, r3, r4, hg6, he6, hb6⟩
          have hgw : g < we.heap.size := Nat.lt_of_lt_of_le HGe.out HEb.out.size
          have hwe := HSe.out.cf.bel.size
          have hlt1 := HSe.out.lt
          have hg1 := HG4.out.1
          have htu := (hg6.blk (w.heap.size + 1) hlt1 (by omega)).trans HSe.out.tu
          have hmb0 : mb < w5.heap.size := by have := HZ5.out; omega
          have hmw : mb < we.heap.size := Nat.lt_of_lt_of_le hmb0 HEb.out.size
          have hmn : mb ≠ g := by have := HGl.out; omega
          have hmi := (hg6.blk mb hmw hmn).trans ((HEb.out.block mb hmb0).trans HM5.out)
          have z0 : w6.cell? ⟨w.heap.size + 1, 0, none⟩ = some (.int .i64 ((sN : Nat) : Int)) := (bcellOf htu 0).trans rfl
          have z2 : w6.cell? ⟨w.heap.size + 1, 2, none⟩ = some (.slice AC C.length cc) := (bcellOf htu 2).trans rfl
          have m0 : w6.cell? ⟨mb, 0, none⟩ = some (.int .i64 owner) := (bcellOf hmi 0).trans rfl
          have m1 : w6.cell? ⟨mb, 1, none⟩ = some (.slice AO own.length oo) := (bcellOf hmi 1).trans rfl
          have hb7 := bal w6 (.cells #[.int .i64 owner, .slice AO own.length oo] 65)
          have hmt : w6.heap.size < (w6.alloc (.cells #[.int .i64 owner, .slice AO own.length oo] 65)).heap.size := by simp
          have t0 := cell_below hb7 (Nat.le_refl _) (Nat.lt_of_lt_of_le hlt1 hg6.siz) z0
          have t2 := cell_below hb7 (Nat.le_refl _) (Nat.lt_of_lt_of_le hlt1 hg6.siz) z2
          have hbu7 : BuAt (w6.alloc (.cells #[.int .i64 owner, .slice AO own.length oo] 65)) g ob oc ⟨owners.length, owners, R.length - 1, 1⟩ := by
            have := hb6.below hb7
            simpa using this
          have hO2 : ownF (turnsC ⟨owners.length, owners, R.length - 1, 1⟩) ((sN : Nat) : Int) = owner := HOW.out
          have hw7 : ∀ j, j < w.heap.size → (w6.alloc (.cells #[.int .i64 owner, .slice AO own.length oo] 65)).heap[j]? = w.heap[j]? := fun j hj => (hb7.block j (by have := hg6.siz; omega)).trans ((hg6.blk j (by omega) (by omega)).trans (HSe.out.cf.bel.block j hj))
          have hz7 : w.heap.size ≤ (w6.alloc (.cells #[.int .i64 owner, .slice AO own.length oo] 65)).heap.size := by have := hg6.siz; omega
          have hcar2 := carry_at hbu7 ((sN : Nat) : Int) (by omega) [⟨owner, own⟩] (some ⟨w6.heap.size, 0, none⟩) 1 0 (one_snk ⟨owner, own⟩ (heap_alloc_new w6 (.cells #[.int .i64 owner, .slice AO own.length oo] 65)) (by have := hg6.siz; omega) HOS.out hw7 hz7 (by omega)) (by simp) (by simp) (by rw [hO2]; rfl) (fun j hj => by omega) own rfl (by omega) (by show R.length - 1 ≤ _; have := HRl.out; omega) (by show 1 ≤ _; omega) C AC cc (fun W hW => HCS.out.stays (fun j hj => (hW.blk j (by omega) (by omega)).trans (hw7 j hj)) (Nat.le_trans hz7 hW.siz)) hCl (by show owners.length ≤ _; omega)
          rw [hO2] at hcar2
          have HCb := hide hcar2
          have HR1 := hide (fun i hi => (r4 i hi).below hb7)
          have HRb1 := hide (And.intro (Nat.lt_of_lt_of_le (Array.getElem?_eq_some_iff.1 r2).1 hb7.size) ((hb7.block rb (Array.getElem?_eq_some_iff.1 r2).1).trans r2))
          have HRg := hide (show rb ≠ g by omega)
          have HGw := hide hgw
          have HVl := hide r3
          have HG7 := hide (hg6.trans (Gk.of_below hb7))
          have HE7 := hide (he6.trans (hb7.mono (Nat.zero_le _)))
          have hgz := HBe.out.lt
          clear hcar2 r1 r2 r3 r4 hb7 hbu7 hw7 hz7 hO2 htu hmi y0 y2 HCa hg6 he6 hb6 hmb0 hmw hmn hwe hgw hmt hgz
          go_upto_region 18 with fail
          go_wp2_with fail
          refine HCb.out.mono ?_
          rintro e w8 ⟨rb2, vs2, rfl, q1, q2, q3, q4, hg8, he8, hb8⟩
          have HQ1 := hide q2
          have HQ4 := hide q4
          have HQ3 := hide q3
          have HP1 := hide ((hg8.blk rb HRb1.out.1 HRg.out).trans HRb1.out.2)
          have HP4 := hide (fun i hi => (HR1.out i hi).over hg8 HGw.out)
          have HG8 := hide (HG7.out.trans hg8)
          have HE8 := hide (HE7.out.trans he8)
          have HB8 := hide hb8
          clear q1 q2 q3 q4 hg8 he8 hb8 HCb HR1 HRb1 HG7 HE7 z0 z2 m0 m1 t0 t2
          go_upto_region 22 with fail
          have hbl : BuAt w8 g ob oc ⟨owners.length, owners, R.length - 1, 2⟩ := by simpa using HB8.out
          have HRp : Hid (1 ≤ R.length) := HRq.out
          have HPa := hide (fun W (h : Dr w8 W) => bpassed_at (hbl.gk (h.gk (g + ob + 1)) (by omega) (by omega)))
          have HBk := hide (fun W (h : Dr w8 W) => bblocked_at (hbl.gk (h.gk (g + ob + 1)) (by omega) (by omega)))
          clear hbl HB8
          have HAl := hide (fun i (hi : i < owners.length) => recv_alike (HP4.out i hi) (HQ4.out i hi))
          have HLo := hide (fun i (hi : i < owners.length) => show (recvB own owner C i = none ∨ ∃ l', recvB own owner C i = some l') from by cases recvB own owner C i <;> simp)
          go_loopw [18] (fun i W => ∃ n : Nat, n ≤ owners.length ∧ i = .int .i64 (n : Int) ∧ Dr w8 W) (fun i _ => owners.length - (intOf i).toNat)
          case atStart => exact ⟨0, by omega, rfl, Dr.refl _⟩
          case round =>
            obtain ⟨n, hn, rfl, hdr⟩ := hrel
            have HDr := hide hdr
            clear hdr
            by_cases hlt : n < owners.length
            · obtain ⟨l, A1, A2, m1, m2, v1, v2, B1, B2, hiso, hlen⟩ := HAl.out n hlt
              have hx : (A1.isNone != A2.isNone) = false := by rw [hiso]; simp
              have hlm : l.length ≤ 9223372036854775807 := hlen _ (fun l' h => by rw [recvB_len h]; omega)
              obtain ⟨z, hz1⟩ : ∃ z, A1.isNone = z := ⟨_, rfl⟩
              have hz2 : A2.isNone = z := by rw [← hiso]; exact hz1
              have hqa : ∀ (w : World) (n c n' c' : Nat), (binOp .eql 45 (.slice A1 n c) (.slice none n' c')).run Tryd.prog w = .ok (.bool z) w := fun w n c n' c' => by rw [← hz1]; exact Lib.run_eql_slice_nil w _ _ A1 n c n' c' Tryd.underlying45
              have hqb : ∀ (w : World) (n c n' c' : Nat), (binOp .eql 45 (.slice A2 n c) (.slice none n' c')).run Tryd.prog w = .ok (.bool z) w := fun w n c n' c' => by rw [← hz2]; exact Lib.run_eql_slice_nil w _ _ A2 n c n' c' Tryd.underlying45
              clear hz1 hz2 hx
              have HKL := hide (show n + 1 ≤ owners.length by omega)
              have ge : ∀ (vs : List Value), vs.length = owners.length → vs[n]? = some (vs.getD n undef) := fun vs h => by rw [List.getD_eq_getElem?_getD, List.getElem?_eq_getElem (by omega)]; rfl
              have k1 : w8.cell? ⟨rb, n, none⟩ = some (.slice A1 l.length m1) := by rw [bcellOf HP1.out, List.getElem?_toArray, ge vs HVl.out, v1]
              have k2 : w8.cell? ⟨rb2, n, none⟩ = some (.slice A2 l.length m2) := by rw [bcellOf HQ1.out, List.getElem?_toArray, ge vs2 HQ3.out, v2]
              have HS0 : Hid ((fun w' => (w'.cell? ⟨rb, n, none⟩ = some (.slice A1 l.length m1) ∧ w'.cell? ⟨rb2, n, none⟩ = some (.slice A2 l.length m2)) ∧ (Bytes w' A1 l ∧ Bytes w' A2 l) ∧ Dr w8 w') wr.drew) := ⟨⟨HDr.out.cell k1, HDr.out.cell k2⟩, ⟨HDr.out.bytes B1, HDr.out.bytes B2⟩, HDr.out.drewN 1⟩
              have HKp : Hid (∀ (m : Nat) (W : World), (fun w' => (w'.cell? ⟨rb, n, none⟩ = some (.slice A1 l.length m1) ∧ w'.cell? ⟨rb2, n, none⟩ = some (.slice A2 l.length m2)) ∧ (Bytes w' A1 l ∧ Bytes w' A2 l) ∧ Dr w8 w') W → True → (fun w' => (w'.cell? ⟨rb, n, none⟩ = some (.slice A1 l.length m1) ∧ w'.cell? ⟨rb2, n, none⟩ = some (.slice A2 l.length m2)) ∧ (Bytes w' A1 l ∧ Bytes w' A2 l) ∧ Dr w8 w') (wr.drewN m)) := fun m _ _ _ => ⟨⟨HDr.out.cell k1, HDr.out.cell k2⟩, ⟨HDr.out.bytes B1, HDr.out.bytes B2⟩, HDr.out.drewN m⟩
              clear v1 v2 B1 B2 hiso ge k1 k2
              go_wp2_with fail
              refine wp_region_held_drew (S := fun w' => (w'.cell? ⟨rb, n, none⟩ = some (.slice A1 l.length m1) ∧ w'.cell? ⟨rb2, n, none⟩ = some (.slice A2 l.length m2)) ∧ (Bytes w' A1 l ∧ Bytes w' A2 l) ∧ Dr w8 w') (by kernel_rfl) (by (first | exact HKp.out _ _ hHeld hb1 | exact HS0.out)) (fun hHeld => ?_)
              refine wpAnyH_take (i := 0) (v := ?v1_0) rfl (by kernel_rfl) (by kernel_rfl) (by kernel_rfl) (fun _ _ _ h => h) (Or.inl ⟨by kernel_rfl, ?y1_0⟩) (by assumption) ?r1_0
              case y1_0 => (intro W hSW; (try dsimp only at hSW); go_simp; (try with_reducible rfl))
              change wpAnyH _ _ _ _ _ _ _ (Act.put _ (some 137) _) _
              (try simp only [Act.put, List.setIfInBounds_toArray, List.set_cons_zero, List.set_cons_succ])
              refine wpAnyH_take (i := 1) (v := ?v1_1) rfl (by kernel_rfl) (by kernel_rfl) (by kernel_rfl) (fun _ _ _ h => h) (Or.inl ⟨by kernel_rfl, ?y1_1⟩) (by assumption) ?r1_1
              case y1_1 => (intro W hSW; (try dsimp only at hSW); go_simp; (try with_reducible rfl))
              change wpAnyH _ _ _ _ _ _ _ (Act.put _ (some 138) _) _
              (try simp only [Act.put, List.setIfInBounds_toArray, List.set_cons_zero, List.set_cons_succ])
              refine wpAnyH_take (i := 2) (v := ?v1_2) rfl (by kernel_rfl) (by kernel_rfl) (by kernel_rfl) (fun _ _ _ h => h) (Or.inl ⟨by kernel_rfl, ?y1_2⟩) (by assumption) ?r1_2
              case y1_2 => (intro W hSW; (try dsimp only at hSW); go_simp; (try with_reducible rfl))
              change wpAnyH _ _ _ _ _ _ _ (Act.put _ (some 139) _) _
              (try simp only [Act.put, List.setIfInBounds_toArray, List.set_cons_zero, List.set_cons_succ])
              refine wpAnyH_take (i := 3) (v := ?v1_3) rfl (by kernel_rfl) (by kernel_rfl) (by kernel_rfl) (fun _ _ _ h => h) (Or.inl ⟨by kernel_rfl, ?y1_3⟩) (by assumption) ?r1_3
              case y1_3 => (intro W hSW; (try dsimp only at hSW); go_simp; (try with_reducible rfl))
              change wpAnyH _ _ _ _ _ _ _ (Act.put _ (some 140) _) _
              (try simp only [Act.put, List.setIfInBounds_toArray, List.set_cons_zero, List.set_cons_succ])
              refine wpAnyH_take (i := 4) (v := ?v1_4) rfl (by kernel_rfl) (by kernel_rfl) (by kernel_rfl) (fun _ _ _ h => h) (Or.inl ⟨by kernel_rfl, ?y1_4⟩) (by assumption) ?r1_4
              case y1_4 => (intro W hSW; (try dsimp only at hSW); go_simp; (try with_reducible rfl))
              change wpAnyH _ _ _ _ _ _ _ (Act.put _ (some 141) _) _
              (try simp only [Act.put, List.setIfInBounds_toArray, List.set_cons_zero, List.set_cons_succ])
              refine wpAnyH_take (i := 5) (v := ?v1_5) rfl (by kernel_rfl) (by kernel_rfl) (by kernel_rfl) (fun _ _ _ h => h) (Or.inl ⟨by kernel_rfl, ?y1_5⟩) (by assumption) ?r1_5
              case y1_5 => (intro W hSW; (try dsimp only at hSW); go_simp; (try with_reducible rfl))
              change wpAnyH _ _ _ _ _ _ _ (Act.put _ (some 142) _) _
              (try simp only [Act.put, List.setIfInBounds_toArray, List.set_cons_zero, List.set_cons_succ])
              refine wpAnyH_take (i := 6) (v := ?v1_6) rfl (by kernel_rfl) (by kernel_rfl) (by kernel_rfl) (fun _ _ _ h => h) (Or.inl ⟨by kernel_rfl, ?y1_6⟩) (by assumption) ?r1_6
              case y1_6 => (intro W hSW; (try dsimp only at hSW); go_simp; (try with_reducible rfl))
              change wpAnyH _ _ _ _ _ _ _ (Act.put _ (some 143) _) _
              (try simp only [Act.put, List.setIfInBounds_toArray, List.set_cons_zero, List.set_cons_succ])
              refine wpAnyH_take (i := 7) (v := ?v1_7) rfl (by kernel_rfl) (by kernel_rfl) (by kernel_rfl) (fun _ _ _ h => h) (Or.inl ⟨by kernel_rfl, ?y1_7⟩) (by assumption) ?r1_7
              case y1_7 => (intro W hSW; (try dsimp only at hSW); go_simp; (try with_reducible rfl))
              change wpAnyH _ _ _ _ _ _ _ (Act.put _ (some 144) _) _
              (try simp only [Act.put, List.setIfInBounds_toArray, List.set_cons_zero, List.set_cons_succ])
              refine wpAnyH_ready (rs := [8]) (by kernel_rfl) (by simp) ?_
              refine AllReadyH.cons rfl (fun K hK => ?_) AllReadyH.nil
              rw [if_pos (by rfl)]
              go_simp
              refine (rbytes_any l A1 A2 m1 m2 _ hHeld.2.1.1 hHeld.2.1.2 hlm).mono ?_
              rintro e w9 ⟨rfl, nn, rfl⟩
              have hb1 := True.intro
              go_simp
              refine hK.out _ _ (by (first | exact HKp.out _ _ hHeld hb1 | exact HS0.out)) (fun hHeld => ?_)
              clear hK K
              (try simp only [Act.put, List.setIfInBounds_toArray, List.set_cons_zero, List.set_cons_succ])
              refine wpAnyH_take (i := 9) (v := ?v1_9) rfl (by kernel_rfl) (by kernel_rfl) (by kernel_rfl) (fun _ _ _ h => h) (Or.inl ⟨by kernel_rfl, ?y1_9⟩) (by assumption) ?r1_9
              case y1_9 => (intro W hSW; (try dsimp only at hSW); go_simp; (try with_reducible rfl))
              change wpAnyH _ _ _ _ _ _ _ (Act.put _ (some 146) _) _
              (try simp only [Act.put, List.setIfInBounds_toArray, List.set_cons_zero, List.set_cons_succ])
              refine wpAnyH_take (i := 10) (v := ?v1_10) rfl (by kernel_rfl) (by kernel_rfl) (by kernel_rfl) (fun _ _ _ h => h) (Or.inl ⟨by kernel_rfl, ?y1_10⟩) (by assumption) ?r1_10
              case y1_10 => (intro W hSW; (try dsimp only at hSW); go_simp; (try with_reducible rfl))
              change wpAnyH _ _ _ _ _ _ _ (Act.put _ (some 147) _) _
              (try simp only [Act.put, List.setIfInBounds_toArray, List.set_cons_zero, List.set_cons_succ])
              refine wpAnyH_take (i := 11) (v := ?v1_11) rfl (by kernel_rfl) (by kernel_rfl) (by kernel_rfl) (fun _ _ _ h => h) (Or.inl ⟨by kernel_rfl, ?y1_11⟩) (by assumption) ?r1_11
              case y1_11 => (intro W hSW; (try dsimp only at hSW); go_simp; (try with_reducible rfl))
              change wpAnyH _ _ _ _ _ _ _ (Act.put _ (some 148) _) _
              (try simp only [Act.put, List.setIfInBounds_toArray, List.set_cons_zero, List.set_cons_succ])
              refine wpAnyH_take (i := 12) (v := ?v1_12) rfl (by kernel_rfl) (by kernel_rfl) (by kernel_rfl) (fun _ _ _ h => h) (Or.inl ⟨by kernel_rfl, ?y1_12⟩) (by assumption) ?r1_12
              case y1_12 => (intro W hSW; (try dsimp only at hSW); go_simp; (try with_reducible rfl))
              change wpAnyH _ _ _ _ _ _ _ (Act.put _ (some 149) _) _
              (try simp only [Act.put, List.setIfInBounds_toArray, List.set_cons_zero, List.set_cons_succ])
              refine wpAnyH_take (i := 13) (v := ?v1_13) rfl (by kernel_rfl) (by kernel_rfl) (by kernel_rfl) (fun _ _ _ h => h) (Or.inl ⟨by kernel_rfl, ?y1_13⟩) (by assumption) ?r1_13
              case y1_13 => (intro W hSW; (try dsimp only at hSW); go_simp; (try with_reducible rfl))
              change wpAnyH _ _ _ _ _ _ _ (Act.put _ (some 150) _) _
              (try simp only [Act.put, List.setIfInBounds_toArray, List.set_cons_zero, List.set_cons_succ])
              refine wpAnyH_take (i := 14) (v := ?v1_14) rfl (by kernel_rfl) (by kernel_rfl) (by kernel_rfl) (fun _ _ _ h => h) (Or.inl ⟨by kernel_rfl, ?y1_14⟩) (by assumption) ?r1_14
              case y1_14 => (intro W hSW; (try dsimp only at hSW); go_simp; (try with_reducible rfl))
              change wpAnyH _ _ _ _ _ _ _ (Act.put _ (some 151) _) _
              (try simp only [Act.put, List.setIfInBounds_toArray, List.set_cons_zero, List.set_cons_succ])
              refine wpAnyH_take (i := 15) (v := ?v1_15) rfl (by kernel_rfl) (by kernel_rfl) (by kernel_rfl) (fun _ _ _ h => h) (Or.inl ⟨by kernel_rfl, ?y1_15⟩) (by assumption) ?r1_15
              case y1_15 => (intro W hSW; (try dsimp only at hSW); go_simp; (try with_reducible rfl))
              change wpAnyH _ _ _ _ _ _ _ (Act.put _ (some 152) _) _
              (try simp only [Act.put, List.setIfInBounds_toArray, List.set_cons_zero, List.set_cons_succ])
              refine wpAnyH_take (i := 16) (v := ?v1_16) rfl (by kernel_rfl) (by kernel_rfl) (by kernel_rfl) (fun _ _ _ h => h) (Or.inl ⟨by kernel_rfl, ?y1_16⟩) (by assumption) ?r1_16
              case y1_16 => (intro W hSW; (try dsimp only at hSW); go_simp; (try with_reducible rfl))
              change wpAnyH _ _ _ _ _ _ _ (Act.put _ (some 153) _) _
              (try simp only [Act.put, List.setIfInBounds_toArray, List.set_cons_zero, List.set_cons_succ])
              refine wpAnyH_take (i := 17) (v := ?v1_17) rfl (by kernel_rfl) (by kernel_rfl) (by kernel_rfl) (fun _ _ _ h => h) (Or.inl ⟨by kernel_rfl, ?y1_17⟩) (by assumption) ?r1_17
              case y1_17 => (intro W hSW; (try dsimp only at hSW); go_simp; (try with_reducible rfl))
              change wpAnyH _ _ _ _ _ _ _ (Act.put _ (some 154) _) _
              (try simp only [Act.put, List.setIfInBounds_toArray, List.set_cons_zero, List.set_cons_succ])
              refine wpAnyH_take (i := 18) (v := ?v1_18) rfl (by kernel_rfl) (by kernel_rfl) (by kernel_rfl) (fun _ _ _ h => h) (Or.inl ⟨by kernel_rfl, ?y1_18⟩) (by assumption) ?r1_18
              case y1_18 => (intro W hSW; (try dsimp only at hSW); go_simp; (try with_reducible rfl))
              change wpAnyH _ _ _ _ _ _ _ (Act.put _ (some 155) _) _
              (try simp only [Act.put, List.setIfInBounds_toArray, List.set_cons_zero, List.set_cons_succ])
              refine wpAnyH_take (i := 19) (v := ?v1_19) rfl (by kernel_rfl) (by kernel_rfl) (by kernel_rfl) (fun _ _ _ h => h) (Or.inl ⟨by kernel_rfl, ?y1_19⟩) (by assumption) ?r1_19
              case y1_19 => (intro W hSW; (try dsimp only at hSW); go_simp; (try with_reducible rfl))
              change wpAnyH _ _ _ _ _ _ _ (Act.put _ (some 156) _) _
              (try simp only [Act.put, List.setIfInBounds_toArray, List.set_cons_zero, List.set_cons_succ])
              refine wpAnyH_take (i := 20) (v := ?v1_20) rfl (by kernel_rfl) (by kernel_rfl) (by kernel_rfl) (fun _ _ _ h => h) (Or.inl ⟨by kernel_rfl, ?y1_20⟩) (by assumption) ?r1_20
              case y1_20 => (intro W hSW; (try dsimp only at hSW); go_simp; (try with_reducible rfl))
              change wpAnyH _ _ _ _ _ _ _ (Act.put _ (some 157) _) _
              (try simp only [Act.put, List.setIfInBounds_toArray, List.set_cons_zero, List.set_cons_succ])
              refine wpAnyH_take (i := 21) (v := ?v1_21) rfl (by kernel_rfl) (by kernel_rfl) (by kernel_rfl) (fun _ _ _ h => h) (Or.inl ⟨by kernel_rfl, ?y1_21⟩) (by assumption) ?r1_21
              case y1_21 => (intro W hSW; (try dsimp only at hSW); go_simp; (try with_reducible rfl))
              change wpAnyH _ _ _ _ _ _ _ (Act.put _ (some 158) _) _
              (try simp only [Act.put, List.setIfInBounds_toArray, List.set_cons_zero, List.set_cons_succ])
              refine wpAnyH_take (i := 22) (v := ?v1_22) rfl (by kernel_rfl) (by kernel_rfl) (by kernel_rfl) (fun _ _ _ h => h) (Or.inl ⟨by kernel_rfl, ?y1_22⟩) (by assumption) ?r1_22
              case y1_22 => (intro W hSW; (try dsimp only at hSW); go_simp; (try with_reducible rfl))
              change wpAnyH _ _ _ _ _ _ _ (Act.put _ (some 159) _) _
              (try simp only [Act.put, List.setIfInBounds_toArray, List.set_cons_zero, List.set_cons_succ])
              refine wpAnyH_done (by kernel_rfl) ?_ _
              obtain ⟨_, _, hdr⟩ := hHeld
              have HD2 := hide hdr
              clear hdr HS0 HKp
              go_wp2_with fail
              go_roundw
              all_goals first | rfl | exact ⟨⟨n + 1, HKL.out, by go_num, HD2.out⟩, by have := HKL.out; simp [intOf]; omega⟩ | exact ⟨n + 1, HKL.out, by go_num, HD2.out⟩ | (have := HKL.out; simp [intOf]; omega) | trace_state
            · obtain rfl : n = owners.length := by omega
              have hi1 : ((R.length : Nat) : Int) - 1 = ((R.length - 1 : Nat) : Int) := by have := HRp.out; omega
              have hwu : IntKind.u64.wrap ((R.length - 1 : Nat) : Int) = ((R.length - 1 : Nat) : Int) := by
                have e := IntKind.wrap_u64 ((R.length - 1 : Nat) : Int)
                have := HRl.out
                omega
              have hw64 : wrap64 ((R.length - 1 : Nat) : Int) = ((R.length - 1 : Nat) : Int) := by
                have := HRl.out
                unfold wrap64
                omega
              have hbb : (((R.length - 1 : Nat) : Int) == ((R.length - 1 : Nat) : Int)) = true := by simp
              go_wp2_with (first | (go_at_call 20; refine (HPa.out _ HDr.out).mono ?_; rintro e w' ⟨rfl, rfl⟩) | (go_at_call 21; refine (HBk.out _ HDr.out).mono ?_; rintro e w' ⟨rfl, rfl⟩))
              go_ret
              exact ⟨by first | rfl | simp [hw64, hwu], below_gk HSe.out.cf.bel (HE8.out.trans HDr.out.bel) (HG8.out.trans (HDr.out.gk g)) (by have := HG4.out.1; omega) HSe.out.cf.bel.size⟩
end Go.Proofs.YtbeggdahbhfhpaaDoor
