/-
  The walk of FrameBursts, where a bit of the frame is turned.
-/
import Derived.Test.YtecmpkbpngnpbaaBack
import Derived.Test.YtecmpkbpngnpbaaTurnMath
import Derived.BigRegion
namespace Go.Proofs.Ytecmpkbpngnpbaa
open Go.RowKit Go.Shelf
set_option linter.unusedVariables false

set_option maxRecDepth 100000 in
set_option maxHeartbeats 8000000 in
theorem bursts_ne (o0 s0 : Int) (o : Nat) (s m : Int) (p : List Nat) (E : List Nat) (z : Int) (mask : Nat) (w : World) (hp : p.length = 64) (hpl : ∀ c ∈ p, c < 256) (ho : o < 16) (hs0 : 0 ≤ s) (hs1 : s ≤ 2147483647) (hm : (Lit.int .u16 m).wf = true) (hz : (Lit.int .i64 z).wf = true) (hmask : mask < 4294967296)
    (hro : ro o0 = o) (hrs : rs s0 = s) (hE : enc (o : Int) s m p = E) (hBF : BackFacts o s m p (frv o s m p) E) (hC : corr E z mask ≠ E) :
    Calls Try.prog 8 #[.agg (frv o0 s0 m p), .int .i64 z, .int .u32 mask] w fun e w' => e = .returned (.bool true) ∧ Below w.heap.size w w' := by
  have hzv := (zero_of_info info_fr).1
  have hs : (Lit.int .i64 s).wf = true := WalkArith.wf_i64 (by omega)
  have hright := fun W => right_any o0 s0 m p W hp
  rw [hro, hrs] at hright
  have henc := fun W => enc_ok o s m p W hp hpl ho hs0 hs1 hm
  rw [hE] at henc
  obtain ⟨C, hCC⟩ : ∃ C, corr E z mask = C := ⟨_, rfl⟩
  have hClen : C.length = 75 := by rw [← hCC, corr_len]; exact hBF.len
  have hClt : ∀ c ∈ C, c < 256 := by rw [← hCC]; exact corr_lt E z mask hBF.lt
  have hcor := fun W g (h : Buf W g 75 E) => corr_any E 75 ⟨g, 0, none⟩ 75 z mask W hBF.len (by omega) (h.bytes (by rw [hBF.len]; omega) hBF.lt) hz hmask
  rw [hCC] at hcor
  have hdec := fun W g c (h : Buf W g 75 C) (h1 : 75 ≤ c) (h2 : c ≤ maxLen) => decode_any C 75 (some ⟨g, 0, none⟩) c W hClen h1 h2 (h.bytes (by rw [hClen]; omega) hClt)
  have hacc := fun W g c (h : Buf W g 75 C) (h1 : 75 ≤ c) (h2 : c ≤ maxLen) x y v (hy : (Lit.int .i64 y).wf = true) (hv : (Lit.int .u16 v).wf = true) => accept_any C 75 (some ⟨g, 0, none⟩) c x y v W hClen h1 h2 (h.bytes (by rw [hClen]; omega) hClt) hy hv
  have hstE := fun W g c (h : Buf W g 75 E) => str_of W (some ⟨g, 0, none⟩) 75 c E (h.bytes (by rw [hBF.len]; omega) hBF.lt) hBF.len
  have hstC := fun W g c (h : Buf W g 75 C) => str_of W (some ⟨g, 0, none⟩) 75 c C (h.bytes (by rw [hClen]; omega) hClt) hClen
  have heqF := fun W => eq_own o s m p W hp hpl
  have heg : Try.prog.eqGuardType Try.prog.depth 27 = false := by kernel_rfl
  have hd0 : decE C ≠ 0 := by rw [← hCC]; exact burst_none E z mask hmask hBF.lt hBF.dec hC
  have ha0 : ∀ x y v, accE C x y v ≠ 0 := fun x y v h => hd0 (dec_of_acc h)
  have hback : corr C z mask = E := by rw [← hCC]; exact corr_back E z mask
  have hcor2 := fun W g c (h : Buf W g 75 C) => corr_any C 75 ⟨g, 0, none⟩ c z mask W hClen (by omega) (h.bytes (by rw [hClen]; omega) hClt) hz hmask
  rw [hback] at hcor2
  have hse : ((str E).toList == (str C).toList) = false := by rw [str_eq hBF.lt hClt]; exact decide_eq_false (fun h => hC (by rw [hCC, ← h]))
  have hsd : ((str E).toList == (str E).toList) = true := by rw [str_eq hBF.lt hBF.lt]; exact decide_eq_true rfl
  rw [show decF C = fr0 by unfold decF; rw [if_neg hd0]] at hdec
  have hacc : ∀ W g c, Buf W g 75 C → 75 ≤ c → c ≤ maxLen → ∀ x y v, (Lit.int .i64 y).wf = true → (Lit.int .u16 v).wf = true → Calls Try.prog 15 #[.slice (some ⟨g, 0, none⟩) 75 c, .int .i64 x, .agg #[.int .i64 y, .int .u16 v]] W fun e w' => e = .returned (.tuple #[.agg fr0, .int .i64 (accE C x y v)]) ∧ Below W.heap.size W w' := by
    intro W g c h h1 h2 x y v hy hv
    have h3 := hacc W g c h h1 h2 x y v hy hv
    rw [show accF C x y v = fr0 by unfold accF; rw [if_neg (ha0 x y v)]] at h3
    exact h3
  obtain ⟨de, hde⟩ : ∃ de, decE C = de := ⟨_, rfl⟩
  rw [hde] at hdec
  have d1 : (de == 0) = false := by rw [← hde]; simpa using hd0
  have d2 : (de != 0) = true := by rw [← hde]; simpa using hd0
  obtain ⟨ae, hae⟩ : ∃ ae : Int → Int → Int → Int, ae = accE C := ⟨_, rfl⟩
  rw [← hae] at hacc ha0
  have HA0 := hide ha0
  clear hd0 ha0 hback hde hae
  obtain ⟨F0, hF0⟩ : ∃ F0, frv o0 s0 m p = F0 := ⟨_, rfl⟩
  have hF0s : F0.size = 67 := by rw [← hF0, frv_size, hp]
  obtain ⟨F, hF⟩ : ∃ F, frv (o : Int) s m p = F := ⟨_, rfl⟩
  have hFs : F.size = 67 := by rw [← hF, frv_size, hp]
  have hF1 : F.all (·.oneCell') = true := by rw [← hF]; exact frv_one _ _ _ _
  have f0 : F[0]? = some (.int .i64 o) := by rw [← hF]; exact frv_0 _ _ _ _
  have f1 : F[1]? = some (.int .i64 s) := by rw [← hF]; exact frv_1 _ _ _ _
  have f2 : F[2]? = some (.int .u16 m) := by rw [← hF]; exact frv_2 _ _ _ _
  rw [hF0] at hright ⊢
  simp only [hF] at hright henc hdec heqF

  have S0 := hide hF0s; have S1 := hide hFs; have O1 := hide hF1; have HS := hide fr0_size; have O0 := hide (show fr0.all (·.oneCell') = true from frv_one _ _ _ _)
  have F0' := hide f0; have F1' := hide f1; have F2' := hide f2; have EQF := hide heqF
  have HSW := hide hs; have HMW := hide hm; have HCLT := hide hClt; have HCL := hide hClen
  have r1 := heap_alloc_new w (.cells F0 27)
  have R1 := hide r1
  clear hF0 hF0s hF hFs hF1 f0 f1 f2 heqF r1 hp hpl hm hz hro hrs hE hBF hs hCC hC hClen hClt
  go_enter Try.func8, Try.ntmps8
  go_wp2_with fail
  refine (alive_any _).mono ?_
  rintro e w2 ⟨rfl, hb2⟩
  have R2 := hide ((hb2.block w.heap.size (by simp)).trans R1.out)
  have hz2 := hb2.size
  simp only [World.size_alloc] at hz2
  have hw2 : Below w.heap.size w w2 := (bal w _).trans (hb2.mono (by simp))
  clear hb2
  go_wp2_with (first
    | (refine wpList_load_row rfl 27 (.tmp 3) rfl w.heap.size rfl 27 F0 (0, 0) _ R2.out Try.underlying27 rfl (fr_info S0.out) ?_))
  refine (hright _).mono ?_
  rintro e w3 ⟨rfl, hb3⟩
  have R3 := hide ((hb3.block w.heap.size (by omega)).trans R2.out)
  have hz3 := hb3.size
  have hw3 : Below w.heap.size w w3 := hw2.trans (hb3.mono (by omega))
  clear hb3 hright
  go_wp2_with (first
    | (refine wpList_store_row rfl 27 (.tmp 3) (.tmp 21) rfl w.heap.size F rfl rfl 27 _ R3.out (fr_info S1.out) (by rw [S0.out, S1.out]) O1.out ?_
       have r4 : (w3.setRow w.heap.size F).heap[w.heap.size]? = some (.cells F 27 (0, 0)) := setRow_heap _ _ _ _ _ _ R3.out
       have z4 : (w3.setRow w.heap.size F).heap.size = w3.heap.size := by simp
       have hw4 : Below w.heap.size w (w3.setRow w.heap.size F) := below_setRow hw3 (Nat.le_refl _) _
       generalize w3.setRow w.heap.size F = w4 at r4 z4 hw4 ⊢
       have R4 := hide r4
       have Z4 : w3.heap.size ≤ w4.heap.size := Nat.le_of_eq z4.symm
       clear r4 z4)
    | (refine wpList_load_row rfl 27 (.tmp 3) rfl w.heap.size rfl 27 F (0, 0) _ R4.out Try.underlying27 rfl (fr_info S1.out) ?_))
  refine (henc _).mono ?_
  rintro e w5 ⟨g, rfl, hbuf, hg, hb5⟩
  have BUF5 := hide hbuf
  have R5 := hide ((hb5.block w.heap.size (by omega)).trans R4.out)
  have hz5 := hb5.size
  have hgs := hbuf.1
  have hw5 : Below w.heap.size w w5 := hw4.trans (hb5.mono (by omega))
  clear hb5 henc hbuf
  go_wp2_with fail
  refine (hcor _ _ BUF5.out).mono ?_
  rintro e w6 ⟨A2, c2, rfl, hc2, hc2m, hM2, hb6⟩
  obtain ⟨g2, rfl, hg2, hR2⟩ : ∃ g2, A2 = some ⟨g2, 0, none⟩ ∧ w5.heap.size ≤ g2 ∧ Buf w6 g2 75 C := by
    rcases hM2 with h | h
    · omega
    · exact h
  have hg2s := hR2.1
  have BUF6 := hide (BUF5.out.of_block (hb6.block g hgs))
  have CUF6 := hide hR2
  have R6 := hide ((hb6.block w.heap.size (by omega)).trans R5.out)
  have hz6 := hb6.size
  have hw6 : Below w.heap.size w w6 := hw5.trans (hb6.mono (by omega))
  have HC2 := hide hc2; have HC2M := hide hc2m
  clear hb6 hcor hM2 hR2 hc2m
  go_wp2_with fail
  refine (hdec _ _ _ CUF6.out HC2.out HC2M.out).mono ?_
  rintro e w7 ⟨rfl, hb7⟩
  have BUF7 := hide (BUF6.out.of_block (hb7.block g (by omega)))
  have CUF7 := hide (CUF6.out.of_block (hb7.block g2 hg2s))
  have R7 := hide ((hb7.block w.heap.size (by omega)).trans R6.out)
  have hz7 := hb7.size
  have hw7 : Below w.heap.size w w7 := hw6.trans (hb7.mono (by omega))
  clear hb7 hdec
  go_wp2_with (first
    | (refine wpList_store_row rfl 27 (.tmp 11) (.tmp 43) rfl w7.heap.size fr0 rfl rfl 27 _ (heap_alloc_new _ _) (fr_info HS.out) rfl O0.out ?_
       obtain ⟨bn, pn, zn⟩ := new_row w7 fr0
       generalize (w7.alloc (.cells fr0 27)).setRow w7.heap.size fr0 = w8 at bn pn zn ⊢
       have z8 : w7.heap.size + 1 ≤ w8.heap.size := Nat.le_of_eq zn.symm
       have hw8 : Below w.heap.size w w8 := hw7.trans (bn.mono (by omega))
       have BUF8 := hide (BUF7.out.of_block (bn.block g (by omega)))
       have CUF8 := hide (CUF7.out.of_block (bn.block g2 (by omega)))
       have R8 := hide ((bn.block w.heap.size (by omega)).trans R7.out)
       have D8 := hide pn
       have v08 : w8.cell? ⟨w.heap.size, 0, none⟩ = some (.int .i64 o) := by rw [cell_of_row _ _ _ _ _ _ R8.out]; exact F0'.out
       have v18 : w8.cell? ⟨w.heap.size, 1, none⟩ = some (.int .i64 s) := by rw [cell_of_row _ _ _ _ _ _ R8.out]; exact F1'.out
       have v28 : w8.cell? ⟨w.heap.size, 2, none⟩ = some (.int .u16 m) := by rw [cell_of_row _ _ _ _ _ _ R8.out]; exact F2'.out
       clear bn pn zn))
  refine (hacc _ _ _ CUF8.out HC2.out HC2M.out _ _ _ HSW.out HMW.out).mono ?_
  rintro e w9 ⟨rfl, hb9⟩
  have BUF9 := hide (BUF8.out.of_block (hb9.block g (by omega)))
  have CUF9 := hide (CUF8.out.of_block (hb9.block g2 (by omega)))
  have R9 := hide ((hb9.block w.heap.size (by omega)).trans R8.out)
  have D9 := hide ((hb9.block w7.heap.size (by omega)).trans D8.out)
  have hz9 := hb9.size
  have hw9 : Below w.heap.size w w9 := hw8.trans (hb9.mono (by omega))
  clear hb9 v08 v18 v28
  have a1 : (ae o s m == 0) = false := by simpa using HA0.out o s m
  have a2 : (ae o s m != 0) = true := by simpa using HA0.out o s m
  go_wp2_with (first
    | (refine wpList_store_row rfl 27 (.tmp 13) (.tmp 52) rfl w9.heap.size fr0 rfl rfl 27 _ (heap_alloc_new _ _) (fr_info HS.out) rfl O0.out ?_
       obtain ⟨bn, pn, zn⟩ := new_row w9 fr0
       generalize (w9.alloc (.cells fr0 27)).setRow w9.heap.size fr0 = w10 at bn pn zn ⊢
       have z10 : w9.heap.size + 1 ≤ w10.heap.size := Nat.le_of_eq zn.symm
       have hw10 : Below w.heap.size w w10 := hw9.trans (bn.mono (by omega))
       have BUF10 := hide (BUF9.out.of_block (bn.block g (by omega)))
       have CUF10 := hide (CUF9.out.of_block (bn.block g2 (by omega)))
       have sE := hstE w10 g 75 BUF10.out
       have sC := hstC w10 g2 c2 CUF10.out
       have R10 := hide ((bn.block w.heap.size (by omega)).trans R9.out)
       clear bn pn zn))
  clear sE sC
  refine (hcor2 _ _ _ CUF10.out).mono ?_
  rintro e w11 ⟨A3, c3, rfl, hc3, hc3m, hM3, hb11⟩
  obtain ⟨g3, rfl, hg3, hR3⟩ : ∃ g3, A3 = some ⟨g3, 0, none⟩ ∧ w10.heap.size ≤ g3 ∧ Buf w11 g3 75 E := by
    rcases hM3 with h | h
    · omega
    · exact h
  have hg3s := hR3.1
  have BUF11 := hide (BUF10.out.of_block (hb11.block g (by omega)))
  have CUF11 := hide (CUF10.out.of_block (hb11.block g2 (by omega)))
  have EUF11 := hide hR3
  have R11 := hide ((hb11.block w.heap.size (by omega)).trans R10.out)
  have hz11 := hb11.size
  have hw11 : Below w.heap.size w w11 := hw10.trans (hb11.mono (by omega))
  clear hb11 hcor2 hM3 hR3 hc3m
  have hgetC := fun t (ht : t < 75) W (h : Buf W g2 75 C) => (h.2 t ht).1
  have hlt0 := getD_lt HCLT.out 0; have hlt1 := getD_lt HCLT.out 1; have hlt2 := getD_lt HCLT.out 2; have hlt3 := getD_lt HCLT.out 3; have hlt4 := getD_lt HCLT.out 4; have hlt5 := getD_lt HCLT.out 5; have hlt6 := getD_lt HCLT.out 6
  dsimp only at hgetC
  obtain ⟨b0, hb0⟩ : ∃ b0, C.getD 0 0 = b0 := ⟨_, rfl⟩
  obtain ⟨b1, hb1⟩ : ∃ b1, C.getD 1 0 = b1 := ⟨_, rfl⟩
  obtain ⟨b2, hb2⟩ : ∃ b2, C.getD 2 0 = b2 := ⟨_, rfl⟩
  obtain ⟨b3, hb3⟩ : ∃ b3, C.getD 3 0 = b3 := ⟨_, rfl⟩
  obtain ⟨b4, hb4⟩ : ∃ b4, C.getD 4 0 = b4 := ⟨_, rfl⟩
  obtain ⟨b5, hb5⟩ : ∃ b5, C.getD 5 0 = b5 := ⟨_, rfl⟩
  obtain ⟨b6, hb6⟩ : ∃ b6, C.getD 6 0 = b6 := ⟨_, rfl⟩
  have hcells : ∀ W, Buf W g2 75 C → W.cell? ⟨g2, 0, none⟩ = some (.int .u8 (b0 : Int)) ∧ W.cell? ⟨g2, 1, none⟩ = some (.int .u8 (b1 : Int)) ∧ W.cell? ⟨g2, 2, none⟩ = some (.int .u8 (b2 : Int)) ∧ W.cell? ⟨g2, 3, none⟩ = some (.int .u8 (b3 : Int)) ∧ W.cell? ⟨g2, 4, none⟩ = some (.int .u8 (b4 : Int)) ∧ W.cell? ⟨g2, 5, none⟩ = some (.int .u8 (b5 : Int)) ∧ W.cell? ⟨g2, 6, none⟩ = some (.int .u8 (b6 : Int)) := by
    intro W h
    rw [← hb0, ← hb1, ← hb2, ← hb3, ← hb4, ← hb5, ← hb6]
    exact ⟨hgetC 0 (by omega) W h, hgetC 1 (by omega) W h, hgetC 2 (by omega) W h, hgetC 3 (by omega) W h, hgetC 4 (by omega) W h, hgetC 5 (by omega) W h, hgetC 6 (by omega) W h⟩
  rw [hb0] at hlt0; rw [hb1] at hlt1; rw [hb2] at hlt2; rw [hb3] at hlt3; rw [hb4] at hlt4; rw [hb5] at hlt5; rw [hb6] at hlt6
  clear hb0 hb1 hb2 hb3 hb4 hb5 hb6 hgetC
  go_wp2_with (first
    | (refine wpList_load_row rfl 27 (.tmp 3) rfl w.heap.size rfl 27 F (0, 0) _ R11.out Try.underlying27 rfl (fr_info S1.out) ?_)
    | (refine wpList_store_row rfl 27 (.tmp 16) (.tmp 82) rfl w11.heap.size F rfl rfl 27 _ (heap_alloc_new _ _) (fr_info S1.out) (by rw [HS.out, S1.out]) O1.out ?_
       obtain ⟨bn, pn, zn⟩ := new_row w11 F
       generalize (w11.alloc (.cells fr0 27)).setRow w11.heap.size F = w12 at bn pn zn ⊢
       have z12 : w11.heap.size + 1 ≤ w12.heap.size := Nat.le_of_eq zn.symm
       have hw12 : Below w.heap.size w w12 := hw11.trans (bn.mono (by omega))
       have BUF12 := hide (BUF11.out.of_block (bn.block g (by omega)))
       have CUF12 := hide (CUF11.out.of_block (bn.block g2 (by omega)))
       have EUF12 := hide (EUF11.out.of_block (bn.block g3 (by omega)))
       have t0 : w12.cell? ⟨w11.heap.size, 0, none⟩ = some (.int .i64 o) := by rw [cell_of_row _ _ _ _ _ _ pn]; exact F0'.out
       have t1 : w12.cell? ⟨w11.heap.size, 1, none⟩ = some (.int .i64 s) := by rw [cell_of_row _ _ _ _ _ _ pn]; exact F1'.out
       have t2 : w12.cell? ⟨w11.heap.size, 2, none⟩ = some (.int .u16 m) := by rw [cell_of_row _ _ _ _ _ _ pn]; exact F2'.out
       have y0 : w12.frozen? ⟨w11.heap.size, 0, none⟩ = false := frozen_of_row _ _ _ _ _ pn
       have y1 : w12.frozen? ⟨w11.heap.size, 1, none⟩ = false := frozen_of_row _ _ _ _ _ pn
       have y2 : w12.frozen? ⟨w11.heap.size, 2, none⟩ = false := frozen_of_row _ _ _ _ _ pn
       obtain ⟨x0, x1, x2, x3, x4, x5, x6⟩ := hcells w12 CUF12.out
       clear bn pn zn))
  have hlg : g2 < w11.heap.size := by omega
  obtain ⟨w13, hw13⟩ : ∃ w13, w12.setCell ⟨w11.heap.size, 0, none⟩ (.int .i64 (b6 : Int)) = w13 := ⟨_, rfl⟩
  have ne13 : ∀ k, k ≠ w11.heap.size → w13.heap[k]? = w12.heap[k]? := fun k hk => by rw [← hw13]; exact heap_setCell_other _ _ _ _ hk
  have cs13 : ∀ i, w13.frozen? ⟨w11.heap.size, i, none⟩ = w12.frozen? ⟨w11.heap.size, i, none⟩ := fun i => by rw [← hw13]; exact World.frozen?_setCell _ _ _ _
  have t0' : w13.cell? ⟨w11.heap.size, 0, none⟩ = some (.int .i64 (b6 : Int)) := by rw [← hw13]; exact World.cell?_setCell_same' _ _ _ (by rw [t0]; rfl)
  have t1' : w13.cell? ⟨w11.heap.size, 1, none⟩ = some (.int .i64 s) := by rw [← hw13, World.cell?_setCell_other]; exact t1; intro h; injection h with _ h; cases h
  have t2' : w13.cell? ⟨w11.heap.size, 2, none⟩ = some (.int .u16 m) := by rw [← hw13, World.cell?_setCell_other]; exact t2; intro h; injection h with _ h; cases h
  have y1' := (cs13 1).trans y1; have y2' := (cs13 2).trans y2
  have CUF13 := hide (CUF12.out.of_block (ne13 g2 (by omega)))
  have BUF13 := hide (BUF12.out.of_block (ne13 g (by omega)))
  have EUF13 := hide (EUF12.out.of_block (ne13 g3 (by omega)))
  have hw13b : Below w.heap.size w w13 := by rw [← hw13]; exact hw12.setCell (p := ⟨w11.heap.size, 0, none⟩) (show w.heap.size ≤ w11.heap.size by omega) _
  have z13 : w11.heap.size + 1 ≤ w13.heap.size := by rw [← hw13]; show _ ≤ (w12.heap.modify _ _).size; rw [Array.size_modify]; exact z12
  clear x0 x1 x2 x3 x4 x5 x6 t0 t1 t2 y0 y1 y2
  rw [hw13]
  clear hw13 ne13 cs13
  obtain ⟨x0, x1, x2, x3, x4, x5, x6⟩ := hcells w13 CUF13.out
  go_region
  obtain ⟨V, hV⟩ : ∃ V, bits .or .i64 (bits .or .i64 (bits .or .i64 ((b0 : Int) * 16777216) ((b1 : Int) * 65536)) ((b2 : Int) * 256)) (b3 : Int) = V := ⟨_, rfl⟩
  have hVw : (Lit.int .i64 V).wf = true := by rw [← hV]; exact wf_bits _ _ _ _
  simp only [hV]
  clear hV
  obtain ⟨w14, hw14⟩ : ∃ w14, (w13.setCell ⟨w11.heap.size, 1, none⟩ (.int .i64 V)).drew = w14 := ⟨_, rfl⟩
  have ne14 : ∀ k, k ≠ w11.heap.size → w14.heap[k]? = w13.heap[k]? := fun k hk => by rw [← hw14]; exact heap_setCell_other _ _ _ _ hk
  have cs14 : ∀ i, w14.frozen? ⟨w11.heap.size, i, none⟩ = w13.frozen? ⟨w11.heap.size, i, none⟩ := fun i => by rw [← hw14]; exact World.frozen?_setCell _ _ _ _
  have o0' : w14.cell? ⟨w11.heap.size, 0, none⟩ = some (.int .i64 (b6 : Int)) := by rw [← hw14]; show (w13.setCell _ _).cell? _ = _; rw [World.cell?_setCell_other]; exact t0'; intro h; injection h with _ h; cases h
  have o1' : w14.cell? ⟨w11.heap.size, 1, none⟩ = some (.int .i64 V) := by rw [← hw14]; exact World.cell?_setCell_same' _ _ _ (by rw [t1']; rfl)
  have o2' : w14.cell? ⟨w11.heap.size, 2, none⟩ = some (.int .u16 m) := by rw [← hw14]; show (w13.setCell _ _).cell? _ = _; rw [World.cell?_setCell_other]; exact t2'; intro h; injection h with _ h; cases h
  have n2' := (cs14 2).trans y2'
  have CUF14 := hide (CUF13.out.of_block (ne14 g2 (by omega)))
  have BUF14 := hide (BUF13.out.of_block (ne14 g (by omega)))
  have EUF14 := hide (EUF13.out.of_block (ne14 g3 (by omega)))
  have hw14b : Below w.heap.size w w14 := by rw [← hw14]; exact below_drewN (hw13b.setCell (p := ⟨w11.heap.size, 1, none⟩) (show w.heap.size ≤ w11.heap.size by omega) _) 1
  have z14 : w11.heap.size + 1 ≤ w14.heap.size := by rw [← hw14]; show _ ≤ (w13.heap.modify _ _).size; rw [Array.size_modify]; exact z13
  clear x0 x1 x2 x3 x4 x5 x6 t0' t1' t2' y1' y2'
  rw [hw14]
  clear hw14 ne14 cs14
  obtain ⟨x0, x1, x2, x3, x4, x5, x6⟩ := hcells w14 CUF14.out
  go_wp2_with fail
  go_region
  obtain ⟨Y, hY⟩ : ∃ Y, bits .or .u16 ((b4 : Int) * 256) (b5 : Int) = Y := ⟨_, rfl⟩
  have hYw : (Lit.int .u16 Y).wf = true := by rw [← hY]; exact wf_bits _ _ _ _
  simp only [hY]
  clear hY
  obtain ⟨w15, hw15⟩ : ∃ w15, (w14.setCell ⟨w11.heap.size, 2, none⟩ (.int .u16 Y)).drew = w15 := ⟨_, rfl⟩
  have ne15 : ∀ k, k ≠ w11.heap.size → w15.heap[k]? = w14.heap[k]? := fun k hk => by rw [← hw15]; exact heap_setCell_other _ _ _ _ hk
  have p0' : w15.cell? ⟨w11.heap.size, 0, none⟩ = some (.int .i64 (b6 : Int)) := by rw [← hw15]; show (w14.setCell _ _).cell? _ = _; rw [World.cell?_setCell_other]; exact o0'; intro h; injection h with _ h; cases h
  have p1' : w15.cell? ⟨w11.heap.size, 1, none⟩ = some (.int .i64 V) := by rw [← hw15]; show (w14.setCell _ _).cell? _ = _; rw [World.cell?_setCell_other]; exact o1'; intro h; injection h with _ h; cases h
  have p2' : w15.cell? ⟨w11.heap.size, 2, none⟩ = some (.int .u16 Y) := by rw [← hw15]; exact World.cell?_setCell_same' _ _ _ (by rw [o2']; rfl)
  have CUF15 := hide (CUF14.out.of_block (ne15 g2 (by omega)))
  have BUF15 := hide (BUF14.out.of_block (ne15 g (by omega)))
  have EUF15 := hide (EUF14.out.of_block (ne15 g3 (by omega)))
  have hw15b : Below w.heap.size w w15 := by rw [← hw15]; exact below_drewN (hw14b.setCell (p := ⟨w11.heap.size, 2, none⟩) (show w.heap.size ≤ w11.heap.size by omega) _) 1
  have z15 : w11.heap.size + 1 ≤ w15.heap.size := by rw [← hw15]; show _ ≤ (w14.heap.modify _ _).size; rw [Array.size_modify]; exact z14
  clear x0 x1 x2 x3 x4 x5 x6 o0' o1' o2' n2'
  rw [hw15]
  clear hw15 ne15
  go_wp2_with fail
  refine (hacc _ _ _ CUF15.out HC2.out HC2M.out _ _ _ hVw hYw).mono ?_
  rintro e w16 ⟨rfl, hb16⟩
  have BUF16 := hide (BUF15.out.of_block (hb16.block g (by omega)))
  have EUF16 := hide (EUF15.out.of_block (hb16.block g3 (by omega)))
  have hz16 := hb16.size
  have hw16 : Below w.heap.size w w16 := hw15b.trans (hb16.mono (by omega))
  have k1 : (ae (b6 : Int) V Y == 0) = false := by simpa using HA0.out (b6 : Int) V Y
  have k2 : (ae (b6 : Int) V Y != 0) = true := by simpa using HA0.out (b6 : Int) V Y
  clear hb16 hacc p0' p1' p2'
  go_wp2_with (first
    | (refine wpList_store_row rfl 27 (.tmp 17) (.tmp 134) rfl w16.heap.size fr0 rfl rfl 27 _ (heap_alloc_new _ _) (fr_info HS.out) rfl O0.out ?_
       obtain ⟨bn, pn, zn⟩ := new_row w16 fr0
       generalize (w16.alloc (.cells fr0 27)).setRow w16.heap.size fr0 = w17 at bn pn zn ⊢
       have hw17 : Below w.heap.size w w17 := hw16.trans (bn.mono (by omega))
       have sE := hstE w17 g 75 (BUF16.out.of_block (bn.block g (by omega)))
       have sD := hstE w17 g3 c3 (EUF16.out.of_block (bn.block g3 (by omega)))
       clear bn pn zn))

  all_goals
    go_ret
    exact ⟨rfl, hw17⟩
end Go.Proofs.Ytecmpkbpngnpbaa
