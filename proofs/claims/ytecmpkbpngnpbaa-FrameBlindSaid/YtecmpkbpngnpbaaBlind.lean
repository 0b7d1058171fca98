/-
  The walk of FrameBlind: what Accept says of a frame, with any bits turned, does not hang on its payload.
-/
import Derived.Test.YtecmpkbpngnpbaaBlindFr
import Derived.Test.YtecmpkbpngnpbaaBack
import Derived.StillTailTactics
import Derived.LoopN
namespace Go.Proofs.Ytecmpkbpngnpbaa
open Go.RowKit
set_option linter.unusedVariables false

theorem below_laid {B g : Nat} (hg : B ≤ g) : ∀ (vs : List Value) (o : Nat) (w : World), Below B w (w.setCells g o vs)
  | [], _, w => Below.refl B w
  | v :: r, o, w => ((Below.refl B w).setCell (p := ⟨g, o, none⟩) hg v).trans (below_laid hg r (o + 1) _)

theorem cor_75 (b : List Nat) (g c : Nat) (z : Int) (k : Nat) (W : World) (hb : b.length = 75) (hl : ∀ c ∈ b, c < 256) (h : Buf W g 75 b) (hz : (Lit.int .i64 z).wf = true) (hk : k < 4294967296) :
    Calls Try.prog 19 #[.slice (some ⟨g, 0, none⟩) 75 c, .int .i64 z, .int .u32 (k : Int)] W fun e w' => ∃ g' c', e = .returned (.slice (some ⟨g', 0, none⟩) 75 c') ∧ 75 ≤ c' ∧ c' ≤ maxLen ∧ g' < w'.heap.size ∧ Buf w' g' 75 (corr b z k) ∧ W.heap.size ≤ g' ∧ Below W.heap.size W w' := by
  refine (corr_any b 75 ⟨g, 0, none⟩ c z k W hb (by omega) (h.bytes (by omega) hl) hz hk).mono ?_
  rintro e w' ⟨A, c', rfl, h1, h2, hM, hbel⟩
  rcases hM with hM | ⟨g', rfl, hg, hR⟩
  · omega
  · exact ⟨g', c', rfl, h1, h2, hR.1, hR, hg, hbel⟩

theorem frB_67 {b : List Nat} (h : b.length = 75) : (frB b).size = 67 := by unfold frB; rw [frv_size]; simp [payB, h]
theorem accF_67 {b : List Nat} (h : b.length = 75) (o s m : Int) : (accF b o s m).size = 67 ∧ (accF b o s m).all (·.oneCell') = true := by
  unfold accF
  split
  · exact ⟨frB_67 h, frv_one _ _ _ _⟩
  · exact ⟨fr0_size, frv_one _ _ _ _⟩
theorem decF_67 {b : List Nat} (h : b.length = 75) : (decF b).size = 67 ∧ (decF b).all (·.oneCell') = true := by
  unfold decF
  split
  · exact ⟨frB_67 h, frv_one _ _ _ _⟩
  · exact ⟨fr0_size, frv_one _ _ _ _⟩

/-- what stays in its box through the rest of the walk -/
structure Rt (w : World) (F T : Array Value) (W : World) : Prop where
  one : W.heap[w.heap.size]? = some (.cells F 27 (0, 0))
  two : W.heap[w.heap.size + 2]? = some (.cells T 52 (0, 0))
  bel : Below w.heap.size w W
  siz : w.heap.size + 3 ≤ W.heap.size
theorem Rt.later {w W W' : World} {F T : Array Value} (h : Rt w F T W) (hb : Below W.heap.size W W') : Rt w F T W' :=
  ⟨(hb.block w.heap.size (by have := h.siz; omega)).trans h.one, (hb.block (w.heap.size + 2) (by have := h.siz; omega)).trans h.two, h.bel.trans (hb.mono h.bel.size), Nat.le_trans h.siz hb.size⟩
theorem Rt.drew {w W : World} {F T : Array Value} (h : Rt w F T W) : Rt w F T { W with drawn := W.drawn + 1 } := ⟨h.one, h.two, below_drewN h.bel 1, h.siz⟩
theorem Rt.cell {w W : World} {F T : Array Value} (h : Rt w F T W) {j : Nat} {v : Value} (hv : T[j]? = some v) : W.cell? ⟨w.heap.size + 1 + 1, j, none⟩ = some v := by
  rw [show w.heap.size + 1 + 1 = w.heap.size + 2 from rfl, cell_of_row _ _ _ _ _ _ h.two]; exact hv
theorem Rt.fcell {w W : World} {F T : Array Value} (h : Rt w F T W) {j : Nat} {v : Value} (hv : F[j]? = some v) : W.cell? ⟨w.heap.size, j, none⟩ = some v := by
  rw [cell_of_row _ _ _ _ _ _ h.one]; exact hv

set_option maxRecDepth 100000 in
set_option maxHeartbeats 8000000 in
theorem blind_walk (o0 s0 : Int) (o : Nat) (s m : Int) (p p' E E' C C' : List Nat) (z1 : Int) (k1 : Nat) (z2 : Int) (k2 : Nat) (FA FB FC FD : Array Value) (r1 r2 : Int) (w : World) (hp : p.length = 64) (hpl : ∀ c ∈ p, c < 256) (hp' : p'.length = 64) (hpl' : ∀ c ∈ p', c < 256)
    (ho : o < 16) (hs0 : 0 ≤ s) (hs1 : s ≤ 2147483647) (hm : (Lit.int .u16 m).wf = true) (hro : ro o0 = o) (hrs : rs s0 = s)
    (hz1 : (Lit.int .i64 z1).wf = true) (hk1 : k1 < 4294967296) (hz2 : (Lit.int .i64 z2).wf = true) (hk2 : k2 < 4294967296)
    (hE : enc (o : Int) s m p = E) (hE' : enc (o : Int) s m p' = E') (hC : twice E z1 k1 z2 k2 = C) (hC' : twice E' z1 k1 z2 k2 = C') (nE : E.length = 75) (nE' : E'.length = 75) (lE : ∀ c ∈ E, c < 256) (lE' : ∀ c ∈ E', c < 256)
    (hA : accF C o s m = FA ∧ accE C o s m = r1) (hB : accF C' o s m = FB ∧ accE C' o s m = r1) (hD : decF C = FC ∧ decE C = r2) (hD' : decF C' = FD ∧ decE C' = r2) :
    Calls Try.prog 9 #[.agg (frv o0 s0 m p), .agg (bys p'), .agg #[.int .i64 z1, .int .u32 (k1 : Int), .int .i64 z2, .int .u32 (k2 : Int)]] w fun e w' => e = .returned (.bool true) ∧ Below w.heap.size w w' := by
  have hzv := (zero_of_info info_fr).1
  have hs : (Lit.int .i64 s).wf = true := WalkArith.wf_i64 (by omega)
  have nC : C.length = 75 := by rw [← hC, twice_len, nE]
  have nC' : C'.length = 75 := by rw [← hC', twice_len, nE']
  have lC : ∀ c ∈ C, c < 256 := by rw [← hC]; exact twice_lt _ _ _ _ lE
  have lC' : ∀ c ∈ C', c < 256 := by rw [← hC']; exact twice_lt _ _ _ _ lE'
  have hright := fun W => right_any o0 s0 m p W hp
  rw [hro, hrs] at hright
  have henc := fun W => enc_ok o s m p W hp hpl ho hs0 hs1 hm
  have henc' := fun W => enc_ok o s m p' W hp' hpl' ho hs0 hs1 hm
  rw [hE] at henc
  rw [hE'] at henc'
  have cor1 := fun W g c (h : Buf W g 75 E) => cor_75 E g c z1 k1 W nE lE h hz1 hk1
  have cor1' := fun W g c (h : Buf W g 75 E') => cor_75 E' g c z1 k1 W nE' lE' h hz1 hk1
  have cor2 := fun W g c (h : Buf W g 75 (corr E z1 k1)) => cor_75 (corr E z1 k1) g c z2 k2 W (by rw [corr_len, nE]) (corr_lt _ _ _ lE) h hz2 hk2
  have cor2' := fun W g c (h : Buf W g 75 (corr E' z1 k1)) => cor_75 (corr E' z1 k1) g c z2 k2 W (by rw [corr_len, nE']) (corr_lt _ _ _ lE') h hz2 hk2
  rw [show corr (corr E z1 k1) z2 k2 = C from hC] at cor2
  rw [show corr (corr E' z1 k1) z2 k2 = C' from hC'] at cor2'
  obtain ⟨E1, hE1⟩ : ∃ E1, corr E z1 k1 = E1 := ⟨_, rfl⟩
  obtain ⟨E1', hE1'⟩ : ∃ E1', corr E' z1 k1 = E1' := ⟨_, rfl⟩
  simp only [hE1] at cor1 cor2
  simp only [hE1'] at cor1' cor2'
  have hacc := fun W g c (h1 : 75 ≤ c) (h2 : c ≤ maxLen) (h : Buf W g 75 C) => accept_any C 75 (some ⟨g, 0, none⟩) c o s m W nC h1 h2 (h.bytes (by omega) lC) hs hm
  have hacc' := fun W g c (h1 : 75 ≤ c) (h2 : c ≤ maxLen) (h : Buf W g 75 C') => accept_any C' 75 (some ⟨g, 0, none⟩) c o s m W nC' h1 h2 (h.bytes (by omega) lC') hs hm
  have hdec := fun W g c (h1 : 75 ≤ c) (h2 : c ≤ maxLen) (h : Buf W g 75 C) => decode_any C 75 (some ⟨g, 0, none⟩) c W nC h1 h2 (h.bytes (by omega) lC)
  have hdec' := fun W g c (h1 : 75 ≤ c) (h2 : c ≤ maxLen) (h : Buf W g 75 C') => decode_any C' 75 (some ⟨g, 0, none⟩) c W nC' h1 h2 (h.bytes (by omega) lC')
  have sA := accF_67 nC o s m; have sB := accF_67 nC' o s m; have sC := decF_67 nC; have sD := decF_67 nC'
  rw [hA.1] at sA
  rw [hB.1] at sB
  rw [hD.1] at sC
  rw [hD'.1] at sD
  rw [hA.1, hA.2] at hacc
  rw [hB.1, hB.2] at hacc'
  rw [hD.1, hD.2] at hdec
  rw [hD'.1, hD'.2] at hdec'
  obtain ⟨F0, hF0⟩ : ∃ F0, frv o0 s0 m p = F0 := ⟨_, rfl⟩
  have hF0s : F0.size = 67 := by rw [← hF0, frv_size, hp]
  have hput := fun (W : World) (g : Nat) (h : W.heap[g]? = some (.cells (frv (o : Int) s m p) 27 (0, 0))) => put_pay hp hp' h
  have hGs : (frv (o : Int) s m p').size = 67 := by rw [frv_size, hp']
  obtain ⟨F, hF⟩ : ∃ F, frv (o : Int) s m p = F := ⟨_, rfl⟩
  obtain ⟨G, hG⟩ : ∃ G, frv (o : Int) s m p' = G := ⟨_, rfl⟩
  have hFs : F.size = 67 := by rw [← hF, frv_size, hp]
  have hF1 : F.all (·.oneCell') = true := by rw [← hF]; exact frv_one _ _ _ _
  have f0 : F[0]? = some (.int .i64 o) := by rw [← hF]; exact frv_0 _ _ _ _
  have f1 : F[1]? = some (.int .i64 s) := by rw [← hF]; exact frv_1 _ _ _ _
  have f2 : F[2]? = some (.int .u16 m) := by rw [← hF]; exact frv_2 _ _ _ _
  obtain ⟨P, hP⟩ : ∃ P, bys p' = P := ⟨_, rfl⟩
  have hPs : P.size = 64 := by rw [← hP, bys_size, hp']
  have hP1 : P.all (·.oneCell') = true := by rw [← hP]; exact bys_one _
  rw [hF0] at hright ⊢
  rw [hP] at ⊢
  simp only [hF, hG, hP] at hright henc henc' hput hGs
  have S0 := hide hF0s; have S1 := hide hFs; have O1 := hide hF1; have SG := hide hGs; have SP := hide hPs; have OP := hide hP1; have HS := hide fr0_size
  have sA1 := hide sA.1; have sA2 := hide sA.2; have sB1 := hide sB.1; have sB2 := hide sB.2; have sC1 := hide sC.1; have sC2 := hide sC.2; have sD1 := hide sD.1; have sD2 := hide sD.2
  have F0' := hide f0; have F1' := hide f1; have F2' := hide f2; have PUT := hide hput
  have hi64 := hide (show (Try.prog.info? 25).map (·.size) = some 64 by kernel_rfl)
  obtain ⟨T, hT⟩ : ∃ T : Array Value, #[.int .i64 z1, .int .u32 (k1 : Int), .int .i64 z2, .int .u32 (k2 : Int)] = T := ⟨_, rfl⟩
  have t0 : T[0]? = some (.int .i64 z1) := by rw [← hT]; rfl
  have t1 : T[1]? = some (.int .u32 (k1 : Int)) := by rw [← hT]; rfl
  have t2 : T[2]? = some (.int .i64 z2) := by rw [← hT]; rfl
  have t3 : T[3]? = some (.int .u32 (k2 : Int)) := by rw [← hT]; rfl
  rw [hT]
  have T0 := hide t0; have T1 := hide t1; have T2 := hide t2; have T3 := hide t3
  clear hF0 hF0s hF hFs hF1 f0 f1 f2 hP hPs hP1 hG hGs sA sB sC sD hA hB hD hD' hput hp hpl hp' hpl' hm hro hrs hE hE' hC hC' hs hE1 hE1' hz1 hk1 hz2 hk2 nC nC' lC lC' nE nE' lE lE' hs0 hs1 ho hT t0 t1 t2 t3
  obtain ⟨w0, hw0⟩ : ∃ w0, ((w.alloc (.cells F0 27)).alloc (.cells P 25)).alloc (.cells T 52) = w0 := ⟨_, rfl⟩
  have b0 : Below w.heap.size w w0 := by rw [← hw0]; exact ((bal w _).alloc (by simp) _).alloc (by simp; omega) _
  have x0 : w0.heap[w.heap.size]? = some (.cells F0 27 (0, 0)) := by rw [← hw0, heap_alloc_old _ _ (by simp; omega)]; exact heap_alloc2_old w _ _
  have x1 : w0.heap[w.heap.size + 1]? = some (.cells P 25 (0, 0)) := by rw [← hw0, heap_alloc_old _ _ (by simp)]; exact heap_alloc2_new w _ _
  have x2 : w0.heap[w.heap.size + 2]? = some (.cells T 52 (0, 0)) := by rw [← hw0]; have h := heap_alloc_new ((w.alloc (.cells F0 27)).alloc (.cells P 25)) (.cells T 52); simpa using h
  have y0 : w0.heap.size = w.heap.size + 3 := by rw [← hw0]; simp
  have W0 := hide hw0
  have X0 := hide x0; have X1 := hide x1; have X2 := hide x2
  clear hw0 x0 x1 x2
  go_enter Try.func9, Try.ntmps9
  go_wp2_with fail
  rw [W0.out]
  refine (alive_any _).mono ?_
  rintro e w1 ⟨rfl, hb1⟩
  have R1 := hide ((hb1.block w.heap.size (by omega)).trans X0.out)
  have P1 := hide ((hb1.block (w.heap.size + 1) (by omega)).trans X1.out)
  have Q1 := hide ((hb1.block (w.heap.size + 2) (by omega)).trans X2.out)
  have hz1 : w.heap.size + 3 ≤ w1.heap.size := by have := hb1.size; omega
  have hw1 : Below w.heap.size w w1 := b0.trans (hb1.mono (by omega))
  clear hb1 X0 X1 X2 W0 b0 y0
  go_wp2_with (first
    | (refine wpList_load_row rfl 27 (.tmp 3) rfl w.heap.size rfl 27 F0 (0, 0) _ R1.out Try.underlying27 rfl (fr_info S0.out) ?_))
  refine (hright _).mono ?_
  rintro e w2 ⟨rfl, hb2⟩
  have R2 := hide ((hb2.block w.heap.size (by omega)).trans R1.out)
  have P2 := hide ((hb2.block (w.heap.size + 1) (by omega)).trans P1.out)
  have Q2 := hide ((hb2.block (w.heap.size + 2) (by omega)).trans Q1.out)
  have hz2 : w.heap.size + 3 ≤ w2.heap.size := by have := hb2.size; omega
  have hw2 : Below w.heap.size w w2 := hw1.trans (hb2.mono (by omega))
  clear hb2 hright R1 P1 Q1 hz1 hw1
  go_wp2_with (first
    | (refine wpList_store_row rfl 27 (.tmp 3) (.tmp 24) rfl w.heap.size F rfl rfl 27 _ R2.out (fr_info S1.out) (by rw [S0.out, S1.out]) O1.out ?_
       have R3 := hide (setRow_heap _ _ _ F _ _ R2.out)
       have P3 := hide ((setRow_other w2 w.heap.size (w.heap.size + 1) F (by omega)).trans P2.out)
       have Q3 := hide ((setRow_other w2 w.heap.size (w.heap.size + 2) F (by omega)).trans Q2.out)
       have hz3 : w.heap.size + 3 ≤ (w2.setRow w.heap.size F).heap.size := by simpa using hz2
       have hw3 : Below w.heap.size w (w2.setRow w.heap.size F) := below_setRow hw2 (Nat.le_refl _) _
       generalize w2.setRow w.heap.size F = w3 at R3 P3 Q3 hz3 hw3 ⊢
       clear R2 P2 Q2 hz2 hw2)
    | (refine wpList_load_row rfl 27 (.tmp 3) rfl w.heap.size rfl 27 F (0, 0) _ R3.out Try.underlying27 rfl (fr_info S1.out) ?_)
    | (refine wpList_store_row rfl 27 (.tmp 8) (.tmp 25) rfl w3.heap.size F rfl rfl 27 _ (heap_alloc_new _ _) (fr_info S1.out) (by rw [HS.out, S1.out]) O1.out ?_
       obtain ⟨bn, pn, zn⟩ := new_row w3 F
       generalize (w3.alloc (.cells fr0 27)).setRow w3.heap.size F = w4 at bn pn zn ⊢
       have hz4 : w3.heap.size + 1 ≤ w4.heap.size := Nat.le_of_eq zn.symm
       have R4 := hide ((bn.block w.heap.size (by omega)).trans R3.out)
       have P4 := hide ((bn.block (w.heap.size + 1) (by omega)).trans P3.out)
       have Q4 := hide ((bn.block (w.heap.size + 2) (by omega)).trans Q3.out)
       have G4 := hide pn
       have hw4 : Below w.heap.size w w4 := hw3.trans (bn.mono (by omega))
       clear bn pn zn R3 P3 Q3 hw3)
    | (refine wpList_load_row rfl 25 (.tmp 4) rfl (w.heap.size + 1) rfl 25 P (0, 0) _ P4.out Try.underlying25 rfl (by rw [hi64.out, SP.out]) ?_)
    | (refine wpList_store_mid rfl 25 (.tmp 27) (.tmp 26) rfl w3.heap.size 3 P rfl rfl (PUT.out w4 _ G4.out).1 (by rw [hi64.out, SP.out]) OP.out ?_
       have bn : Below w3.heap.size w4 (w4.setCells w3.heap.size 3 P.toList) := below_laid (Nat.le_refl _) _ _ _
       have G5 := hide (PUT.out w4 _ G4.out).2
       generalize w4.setCells w3.heap.size 3 P.toList = w5 at bn G5 ⊢
       have hz5 : w3.heap.size + 1 ≤ w5.heap.size := Nat.le_trans hz4 bn.size
       have R5 := hide ((bn.block w.heap.size (by omega)).trans R4.out)
       have Q5 := hide ((bn.block (w.heap.size + 2) (by omega)).trans Q4.out)
       have hw5 : Below w.heap.size w w5 := hw4.trans (bn.mono (by omega))
       clear bn R4 P4 Q4 G4 hw4 hz4)
    | (refine wpList_load_row rfl 27 (.tmp 3) rfl w.heap.size rfl 27 F (0, 0) _ R5.out Try.underlying27 rfl (fr_info S1.out) ?_))
  refine (henc _).mono ?_
  rintro e w6 ⟨g, rfl, hbuf, hg, hb6⟩
  have gs := hbuf.1
  have U6 := hide hbuf
  have R6 := hide ((hb6.block w.heap.size (by omega)).trans R5.out)
  have Q6 := hide ((hb6.block (w.heap.size + 2) (by omega)).trans Q5.out)
  have G6 : Hid (w6.rangeAt w3.heap.size 0 G.toList) := hide (fun j v hv => (bcl hb6 (show w3.heap.size < _ by omega)).trans (G5.out j v hv))
  have hz6 := hb6.size
  have hw6 : Below w.heap.size w w6 := hw5.trans (hb6.mono (by omega))
  clear hb6 hbuf henc R5 Q5 G5 hw5
  go_wp2_with (first
    | (refine wpList_load_mid rfl 27 (.tmp 8) rfl w3.heap.size 0 rfl G.toList _ G6.out Try.underlying27 rfl (by rw [fr_info SG.out, Array.length_toList]) ?_))
  refine (henc' _).mono ?_
  rintro e w7 ⟨g', rfl, hbuf, hg', hb7⟩
  have gs' := hbuf.1
  have U7 := hide (U6.out.of_block (hb7.block g gs))
  have V7 := hide hbuf
  have R7 := hide ((hb7.block w.heap.size (by omega)).trans R6.out)
  have Q7 := hide ((hb7.block (w.heap.size + 2) (by omega)).trans Q6.out)
  have hz7 := hb7.size
  have hw7 : Below w.heap.size w w7 := hw6.trans (hb7.mono (by omega))
  clear hb7 hbuf henc' R6 Q6 G6 U6 hw6
  have K7 : Hid (Rt w F T w7) := hide ⟨R7.out, Q7.out, hw7, by omega⟩
  clear R7 Q7 hw7 hz3 hz5 hz6 hz7 hg hg' gs gs' hi64 PUT
  go_wp2_with fail
  refine wp_loop_rounds 3 ?_
  rw [rounds_succ]
  go_wp2_with fail
  refine wp_region_still_tail 9 (by kernel_rfl) (by kernel_rfl) ?_
  simp only [List.take_succ_cons, List.take_zero, List.drop_succ_cons, List.drop_zero]
  have K8 := hide K7.out.drew
  have U8 := hide (U7.out.of_block (w' := { w7 with drawn := w7.drawn + 1 }) rfl)
  have V8 := hide (V7.out.of_block (w' := { w7 with drawn := w7.drawn + 1 }) rfl)
  generalize ({ w7 with drawn := w7.drawn + 1 } : World) = w8 at K8 U8 V8 ⊢
  have c0 := K8.out.cell T0.out
  have c1 := K8.out.cell T1.out
  repeat still_step
  refine wpStill_nil ?_
  clear c0 c1
  go_wp2_with fail
  refine (cor1 _ _ _ U8.out).mono ?_
  rintro e w9 ⟨g1, d1, rfl, hd1, md1, _, hbuf, _, hb⟩
  have K9 := hide (K8.out.later hb)
  have U9 := hide hbuf
  have V9 := hide (V8.out.of_block (hb.block _ V8.out.1))
  clear hb hbuf cor1 K7 K8 U7 U8 V7 V8
  go_wp2_with fail
  refine wp_region_still_tail 9 (by kernel_rfl) (by kernel_rfl) ?_
  simp only [List.take_succ_cons, List.take_zero, List.drop_succ_cons, List.drop_zero]
  have K10 := hide K9.out.drew
  have U10 := hide (U9.out.of_block (w' := { w9 with drawn := w9.drawn + 1 }) rfl)
  have V10 := hide (V9.out.of_block (w' := { w9 with drawn := w9.drawn + 1 }) rfl)
  generalize ({ w9 with drawn := w9.drawn + 1 } : World) = w10 at K10 U10 V10 ⊢
  have c0 := K10.out.cell T0.out
  have c1 := K10.out.cell T1.out
  repeat still_step
  refine wpStill_nil ?_
  clear c0 c1
  go_wp2_with fail
  refine (cor1' _ _ _ V10.out).mono ?_
  rintro e w11 ⟨g2, d2, rfl, hd2, md2, _, hbuf, _, hb⟩
  have K11 := hide (K10.out.later hb)
  have V11 := hide hbuf
  have U11 := hide (U10.out.of_block (hb.block _ U10.out.1))
  clear hb hbuf cor1' K9 K10 U9 U10 V9 V10
  go_wp2_with fail
  rw [rounds_succ]
  go_wp2_with fail
  refine wp_region_still_tail 9 (by kernel_rfl) (by kernel_rfl) ?_
  simp only [List.take_succ_cons, List.take_zero, List.drop_succ_cons, List.drop_zero]
  have K12 := hide K11.out.drew
  have U12 := hide (U11.out.of_block (w' := { w11 with drawn := w11.drawn + 1 }) rfl)
  have V12 := hide (V11.out.of_block (w' := { w11 with drawn := w11.drawn + 1 }) rfl)
  generalize ({ w11 with drawn := w11.drawn + 1 } : World) = w12 at K12 U12 V12 ⊢
  have c0 := K12.out.cell T2.out
  have c1 := K12.out.cell T3.out
  repeat still_step
  refine wpStill_nil ?_
  clear c0 c1
  go_wp2_with fail
  refine (cor2 _ _ _ U12.out).mono ?_
  rintro e w13 ⟨g3, d3, rfl, hd3, md3, _, hbuf, _, hb⟩
  have K13 := hide (K12.out.later hb)
  have U13 := hide hbuf
  have V13 := hide (V12.out.of_block (hb.block _ V12.out.1))
  clear hb hbuf cor2 K11 K12 U11 U12 V11 V12
  go_wp2_with fail
  refine wp_region_still_tail 9 (by kernel_rfl) (by kernel_rfl) ?_
  simp only [List.take_succ_cons, List.take_zero, List.drop_succ_cons, List.drop_zero]
  have K14 := hide K13.out.drew
  have U14 := hide (U13.out.of_block (w' := { w13 with drawn := w13.drawn + 1 }) rfl)
  have V14 := hide (V13.out.of_block (w' := { w13 with drawn := w13.drawn + 1 }) rfl)
  generalize ({ w13 with drawn := w13.drawn + 1 } : World) = w14 at K14 U14 V14 ⊢
  have c0 := K14.out.cell T2.out
  have c1 := K14.out.cell T3.out
  repeat still_step
  refine wpStill_nil ?_
  clear c0 c1
  go_wp2_with fail
  refine (cor2' _ _ _ V14.out).mono ?_
  rintro e w15 ⟨g4, d4, rfl, hd4, md4, _, hbuf, _, hb⟩
  have K15 := hide (K14.out.later hb)
  have V15 := hide hbuf
  have U15 := hide (U14.out.of_block (hb.block _ U14.out.1))
  clear hb hbuf cor2' K13 K14 U13 U14 V13 V14
  go_wp2_with fail
  rw [rounds_succ]
  have v0 := K15.out.fcell F0'.out
  have v1 := K15.out.fcell F1'.out
  have v2 := K15.out.fcell F2'.out
  go_wp2_with fail
  refine (hacc _ _ _ hd3 md3 U15.out).mono ?_
  rintro e w16 ⟨rfl, hb⟩
  have K16 := hide (K15.out.later hb)
  have U16 := hide (U15.out.of_block (hb.block _ U15.out.1))
  have V16 := hide (V15.out.of_block (hb.block _ V15.out.1))
  clear hb hacc K15 U15 V15 v0 v1 v2
  go_wp2_with (first
    | (refine wpList_store_row rfl 27 (.tmp 14) (.tmp 75) rfl w16.heap.size FA rfl rfl 27 _ (heap_alloc_new _ _) (fr_info sA1.out) (by rw [HS.out, sA1.out]) sA2.out ?_
       obtain ⟨bn, pn, zn⟩ := new_row w16 FA
       generalize (w16.alloc (.cells fr0 27)).setRow w16.heap.size FA = w17 at bn pn zn ⊢
       have K17 := hide (K16.out.later bn)
       have U17 := hide (U16.out.of_block (bn.block _ U16.out.1))
       have V17 := hide (V16.out.of_block (bn.block _ V16.out.1))
       have v0 := K17.out.fcell F0'.out
       have v1 := K17.out.fcell F1'.out
       have v2 := K17.out.fcell F2'.out
       clear bn pn zn K16))
  refine (hacc' _ _ _ hd4 md4 V17.out).mono ?_
  rintro e w18 ⟨rfl, hb⟩
  have K18 := hide (K17.out.later hb)
  have U18 := hide (U17.out.of_block (hb.block _ U17.out.1))
  have V18 := hide (V17.out.of_block (hb.block _ V17.out.1))
  clear hb hacc' K17 U17 V17 v0 v1 v2
  go_wp2_with (first
    | (refine wpList_store_row rfl 27 (.tmp 16) (.tmp 84) rfl w18.heap.size FB rfl rfl 27 _ (heap_alloc_new _ _) (fr_info sB1.out) (by rw [HS.out, sB1.out]) sB2.out ?_
       obtain ⟨bn, pn, zn⟩ := new_row w18 FB
       generalize (w18.alloc (.cells fr0 27)).setRow w18.heap.size FB = w19 at bn pn zn ⊢
       have K19 := hide (K18.out.later bn)
       have U19 := hide (U18.out.of_block (bn.block _ U18.out.1))
       have V19 := hide (V18.out.of_block (bn.block _ V18.out.1))
       clear bn pn zn K18))
  refine (hdec _ _ _ hd3 md3 U19.out).mono ?_
  rintro e w20 ⟨rfl, hb⟩
  have K20 := hide (K19.out.later hb)
  have V20 := hide (V19.out.of_block (hb.block _ V19.out.1))
  clear hb hdec K19 U19 V19
  go_wp2_with (first
    | (refine wpList_store_row rfl 27 (.tmp 18) (.tmp 89) rfl w20.heap.size FC rfl rfl 27 _ (heap_alloc_new _ _) (fr_info sC1.out) (by rw [HS.out, sC1.out]) sC2.out ?_
       obtain ⟨bn, pn, zn⟩ := new_row w20 FC
       generalize (w20.alloc (.cells fr0 27)).setRow w20.heap.size FC = w21 at bn pn zn ⊢
       have K21 := hide (K20.out.later bn)
       have V21 := hide (V20.out.of_block (bn.block _ V20.out.1))
       clear bn pn zn K20))
  refine (hdec' _ _ _ hd4 md4 V21.out).mono ?_
  rintro e w22 ⟨rfl, hb⟩
  have K22 := hide (K21.out.later hb)
  clear hb hdec' K21 V21
  go_wp2_with (first
    | (refine wpList_store_row rfl 27 (.tmp 20) (.tmp 94) rfl w22.heap.size FD rfl rfl 27 _ (heap_alloc_new _ _) (fr_info sD1.out) (by rw [HS.out, sD1.out]) sD2.out ?_
       obtain ⟨bn, pn, zn⟩ := new_row w22 FD
       generalize (w22.alloc (.cells fr0 27)).setRow w22.heap.size FD = w23 at bn pn zn ⊢
       have K23 := hide (K22.out.later bn)
       clear bn pn zn K22))
  go_ret
  exact ⟨rfl, K23.out.bel⟩

/-- FrameBlind, of any frame, payload and bursts -/
theorem blind_any (o0 s0 m : Int) (p p' : List Nat) (z1 : Int) (k1 : Nat) (z2 : Int) (k2 : Nat) (w : World) (hp : p.length = 64) (hpl : ∀ c ∈ p, c < 256) (hp' : p'.length = 64) (hpl' : ∀ c ∈ p', c < 256) (hm : (Lit.int .u16 m).wf = true)
    (hz1 : (Lit.int .i64 z1).wf = true) (hk1 : k1 < 4294967296) (hz2 : (Lit.int .i64 z2).wf = true) (hk2 : k2 < 4294967296) :
    Calls Try.prog 9 #[.agg (frv o0 s0 m p), .agg (bys p'), .agg #[.int .i64 z1, .int .u32 (k1 : Int), .int .i64 z2, .int .u32 (k2 : Int)]] w fun e w' => e = .returned (.bool true) ∧ Below w.heap.size w w' := by
  have hA := back_facts (ro o0) (rs s0) m p hp hpl (ro_lt o0) (rs_lo s0) (rs_hi s0) hm
  have hB := back_facts (ro o0) (rs s0) m p' hp' hpl' (ro_lt o0) (rs_lo s0) (rs_hi s0) hm
  have hmb := bounds_u16 hm
  have h7 : ∀ t, t < 7 → (enc (ro o0 : Int) (rs s0) m p).getD t 0 = (enc (ro o0 : Int) (rs s0) m p').getD t 0 := by
    intro t ht
    rw [enc_cons, enc_cons]
    rcases (show t = 0 ∨ t = 1 ∨ t = 2 ∨ t = 3 ∨ t = 4 ∨ t = 5 ∨ t = 6 by omega) with rfl | rfl | rfl | rfl | rfl | rfl | rfl <;> rfl
  have hbl := blind z1 k1 z2 k2 hA.len hB.len hA.lt hB.lt hA.dec hB.dec h7
  exact blind_walk o0 s0 (ro o0) (rs s0) m p p' _ _ _ _ z1 k1 z2 k2 _ _ _ _ _ _ w hp hpl hp' hpl' (ro_lt o0) (rs_lo s0) (rs_hi s0) hm rfl rfl hz1 hk1 hz2 hk2 rfl rfl rfl rfl hA.len hB.len hA.lt hB.lt
    ⟨rfl, rfl⟩ ⟨rfl, (hbl.1 _ _ _ hmb.1 (by have := hmb.2; omega)).symm⟩ ⟨rfl, rfl⟩ ⟨rfl, hbl.2.symm⟩
end Go.Proofs.Ytecmpkbpngnpbaa
