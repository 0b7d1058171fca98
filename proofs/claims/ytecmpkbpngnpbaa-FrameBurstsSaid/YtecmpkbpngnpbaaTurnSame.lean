/-
  The walk of FrameBursts, where no bit of the frame is turned.
-/
import Derived.Test.YtecmpkbpngnpbaaBack
import Derived.Test.YtecmpkbpngnpbaaTurnMath
import Derived.BigRegion
namespace Go.Proofs.Ytecmpkbpngnpbaa
open Go.RowKit Go.Shelf
set_option linter.unusedVariables false

set_option maxRecDepth 100000 in
set_option maxHeartbeats 8000000 in
theorem bursts_same (o0 s0 : Int) (o : Nat) (s m : Int) (p : List Nat) (E : List Nat) (z : Int) (mask : Nat) (w : World) (hp : p.length = 64) (hpl : ∀ c ∈ p, c < 256) (ho : o < 16) (hs0 : 0 ≤ s) (hs1 : s ≤ 2147483647) (hm : (Lit.int .u16 m).wf = true) (hz : (Lit.int .i64 z).wf = true) (hmask : mask < 4294967296)
    (hro : ro o0 = o) (hrs : rs s0 = s) (hE : enc (o : Int) s m p = E) (hBF : BackFacts o s m p (frv o s m p) E) (hC : corr E z mask = E) :
    Calls Try.prog 8 #[.agg (frv o0 s0 m p), .int .i64 z, .int .u32 mask] w fun e w' => e = .returned (.bool true) ∧ Below w.heap.size w w' := by
  have hzv := (zero_of_info info_fr).1
  have hs : (Lit.int .i64 s).wf = true := WalkArith.wf_i64 (by omega)
  have hright := fun W => right_any o0 s0 m p W hp
  rw [hro, hrs] at hright
  have henc := fun W => enc_ok o s m p W hp hpl ho hs0 hs1 hm
  rw [hE] at henc
  obtain ⟨C, hCC⟩ : ∃ C, corr E z mask = C := ⟨_, rfl⟩
  have hClen : C.length = 75 := by rw [← hCC, corr_len]; exact hBF.len
  have hClt : ∀ c ∈ C, c < 256 := by rw [← hCC]; exact corr_lt E z mask hBF.lt
  have hcor := fun W g (h : Buf W g 75 E) => corr_any E 75 ⟨g, 0, none⟩ 75 z mask W hBF.len (by omega) (h.bytes (by rw [hBF.len]; omega) hBF.lt) hz hmask
  rw [hCC] at hcor
  have hdec := fun W g c (h : Buf W g 75 C) (h1 : 75 ≤ c) (h2 : c ≤ maxLen) => decode_any C 75 (some ⟨g, 0, none⟩) c W hClen h1 h2 (h.bytes (by rw [hClen]; omega) hClt)
  have hacc := fun W g c (h : Buf W g 75 C) (h1 : 75 ≤ c) (h2 : c ≤ maxLen) x y v (hy : (Lit.int .i64 y).wf = true) (hv : (Lit.int .u16 v).wf = true) => accept_any C 75 (some ⟨g, 0, none⟩) c x y v W hClen h1 h2 (h.bytes (by rw [hClen]; omega) hClt) hy hv
  have hstE := fun W g c (h : Buf W g 75 E) => str_of W (some ⟨g, 0, none⟩) 75 c E (h.bytes (by rw [hBF.len]; omega) hBF.lt) hBF.len
  have hstC := fun W g c (h : Buf W g 75 C) => str_of W (some ⟨g, 0, none⟩) 75 c C (h.bytes (by rw [hClen]; omega) hClt) hClen
  have heqF := fun W => eq_own o s m p W hp hpl
  have heg : Try.prog.eqGuardType Try.prog.depth 27 = false := by kernel_rfl
  rw [hC] at hCC
  subst hCC
  have hse : ((str E).toList == (str E).toList) = true := by rw [str_eq hBF.lt hBF.lt]; exact decide_eq_true rfl
  have hacc := fun W g c (h : Buf W g 75 E) (h1 : 75 ≤ c) (h2 : c ≤ maxLen) x y v (hy : (Lit.int .i64 y).wf = true) (hv : (Lit.int .u16 v).wf = true) (hx : (o : Int) = x ∧ s = y ∧ m = v) => accept_any E 75 (some ⟨g, 0, none⟩) c x y v W hBF.len h1 h2 (h.bytes (by rw [hBF.len]; omega) hBF.lt) hy hv
  have hacc2 : ∀ W g c, Buf W g 75 E → 75 ≤ c → c ≤ maxLen → Calls Try.prog 15 #[.slice (some ⟨g, 0, none⟩) 75 c, .int .i64 (o : Int), .agg #[.int .i64 s, .int .u16 m]] W fun e w' => e = .returned (.tuple #[.agg (frv o s m p), .int .i64 0]) ∧ Below W.heap.size W w' := by
    intro W g c h h1 h2
    have h3 := accept_any E 75 (some ⟨g, 0, none⟩) c o s m W hBF.len h1 h2 (h.bytes (by rw [hBF.len]; omega) hBF.lt) hs hm
    rw [hBF.acc, hBF.accf] at h3
    exact h3
  rw [hBF.dec, hBF.decf] at hdec
  clear hacc
  obtain ⟨F0, hF0⟩ : ∃ F0, frv o0 s0 m p = F0 := ⟨_, rfl⟩
  have hF0s : F0.size = 67 := by rw [← hF0, frv_size, hp]
  obtain ⟨F, hF⟩ : ∃ F, frv (o : Int) s m p = F := ⟨_, rfl⟩
  have hFs : F.size = 67 := by rw [← hF, frv_size, hp]
  have hF1 : F.all (·.oneCell') = true := by rw [← hF]; exact frv_one _ _ _ _
  have f0 : F[0]? = some (.int .i64 o) := by rw [← hF]; exact frv_0 _ _ _ _
  have f1 : F[1]? = some (.int .i64 s) := by rw [← hF]; exact frv_1 _ _ _ _
  have f2 : F[2]? = some (.int .u16 m) := by rw [← hF]; exact frv_2 _ _ _ _
  rw [hF0] at hright ⊢
  simp only [hF] at hright henc hdec heqF
  simp only [hF] at hacc2
  have S0 := hide hF0s; have S1 := hide hFs; have O1 := hide hF1; have HS := hide fr0_size; have O0 := hide (show fr0.all (·.oneCell') = true from frv_one _ _ _ _)
  have F0' := hide f0; have F1' := hide f1; have F2' := hide f2; have EQF := hide heqF
  have HSW := hide hs; have HMW := hide hm; have HCLT := hide hClt; have HCL := hide hClen
  have r1 := heap_alloc_new w (.cells F0 27)
  have R1 := hide r1
  clear hF0 hF0s hF hFs hF1 f0 f1 f2 heqF r1 hp hpl hm hz hro hrs hE hBF hs hC hClen hClt
  go_enter Try.func8, Try.ntmps8
  go_wp2_with fail
  refine (alive_any _).mono ?_
  rintro e w2 ⟨rfl, hb2⟩
  have R2 := hide ((hb2.block w.heap.size (by simp)).trans R1.out)
  have hz2 := hb2.size
  simp only [World.size_alloc] at hz2
  have hw2 : Below w.heap.size w w2 := (bal w _).trans (hb2.mono (by simp))
  clear hb2
  go_wp2_with (first
    | (refine wpList_load_row rfl 27 (.tmp 3) rfl w.heap.size rfl 27 F0 (0, 0) _ R2.out Try.underlying27 rfl (fr_info S0.out) ?_))
  refine (hright _).mono ?_
  rintro e w3 ⟨rfl, hb3⟩
  have R3 := hide ((hb3.block w.heap.size (by omega)).trans R2.out)
  have hz3 := hb3.size
  have hw3 : Below w.heap.size w w3 := hw2.trans (hb3.mono (by omega))
  clear hb3 hright
  go_wp2_with (first
    | (refine wpList_store_row rfl 27 (.tmp 3) (.tmp 21) rfl w.heap.size F rfl rfl 27 _ R3.out (fr_info S1.out) (by rw [S0.out, S1.out]) O1.out ?_
       have r4 : (w3.setRow w.heap.size F).heap[w.heap.size]? = some (.cells F 27 (0, 0)) := setRow_heap _ _ _ _ _ _ R3.out
       have z4 : (w3.setRow w.heap.size F).heap.size = w3.heap.size := by simp
       have hw4 : Below w.heap.size w (w3.setRow w.heap.size F) := below_setRow hw3 (Nat.le_refl _) _
       generalize w3.setRow w.heap.size F = w4 at r4 z4 hw4 ⊢
       have R4 := hide r4
       have Z4 : w3.heap.size ≤ w4.heap.size := Nat.le_of_eq z4.symm
       clear r4 z4)
    | (refine wpList_load_row rfl 27 (.tmp 3) rfl w.heap.size rfl 27 F (0, 0) _ R4.out Try.underlying27 rfl (fr_info S1.out) ?_))
  refine (henc _).mono ?_
  rintro e w5 ⟨g, rfl, hbuf, hg, hb5⟩
  have BUF5 := hide hbuf
  have R5 := hide ((hb5.block w.heap.size (by omega)).trans R4.out)
  have hz5 := hb5.size
  have hgs := hbuf.1
  have hw5 : Below w.heap.size w w5 := hw4.trans (hb5.mono (by omega))
  clear hb5 henc hbuf
  go_wp2_with fail
  refine (hcor _ _ BUF5.out).mono ?_
  rintro e w6 ⟨A2, c2, rfl, hc2, hc2m, hM2, hb6⟩
  obtain ⟨g2, rfl, hg2, hR2⟩ : ∃ g2, A2 = some ⟨g2, 0, none⟩ ∧ w5.heap.size ≤ g2 ∧ Buf w6 g2 75 E := by
    rcases hM2 with h | h
    · omega
    · exact h
  have hg2s := hR2.1
  have BUF6 := hide (BUF5.out.of_block (hb6.block g hgs))
  have CUF6 := hide hR2
  have R6 := hide ((hb6.block w.heap.size (by omega)).trans R5.out)
  have hz6 := hb6.size
  have hw6 : Below w.heap.size w w6 := hw5.trans (hb6.mono (by omega))
  have HC2 := hide hc2; have HC2M := hide hc2m
  clear hb6 hcor hM2 hR2 hc2m
  go_wp2_with fail
  refine (hdec _ _ _ CUF6.out HC2.out HC2M.out).mono ?_
  rintro e w7 ⟨rfl, hb7⟩
  have BUF7 := hide (BUF6.out.of_block (hb7.block g (by omega)))
  have CUF7 := hide (CUF6.out.of_block (hb7.block g2 hg2s))
  have R7 := hide ((hb7.block w.heap.size (by omega)).trans R6.out)
  have hz7 := hb7.size
  have hw7 : Below w.heap.size w w7 := hw6.trans (hb7.mono (by omega))
  clear hb7 hdec
  go_wp2_with (first
    | (refine wpList_store_row rfl 27 (.tmp 11) (.tmp 43) rfl w7.heap.size F rfl rfl 27 _ (heap_alloc_new _ _) (fr_info S1.out) (by rw [HS.out, S1.out]) O1.out ?_
       obtain ⟨bn, pn, zn⟩ := new_row w7 F
       generalize (w7.alloc (.cells fr0 27)).setRow w7.heap.size F = w8 at bn pn zn ⊢
       have z8 : w7.heap.size + 1 ≤ w8.heap.size := Nat.le_of_eq zn.symm
       have hw8 : Below w.heap.size w w8 := hw7.trans (bn.mono (by omega))
       have BUF8 := hide (BUF7.out.of_block (bn.block g (by omega)))
       have CUF8 := hide (CUF7.out.of_block (bn.block g2 (by omega)))
       have R8 := hide ((bn.block w.heap.size (by omega)).trans R7.out)
       have D8 := hide pn
       have v08 : w8.cell? ⟨w.heap.size, 0, none⟩ = some (.int .i64 o) := by rw [cell_of_row _ _ _ _ _ _ R8.out]; exact F0'.out
       have v18 : w8.cell? ⟨w.heap.size, 1, none⟩ = some (.int .i64 s) := by rw [cell_of_row _ _ _ _ _ _ R8.out]; exact F1'.out
       have v28 : w8.cell? ⟨w.heap.size, 2, none⟩ = some (.int .u16 m) := by rw [cell_of_row _ _ _ _ _ _ R8.out]; exact F2'.out
       clear bn pn zn))
  refine (hacc2 _ _ _ CUF8.out HC2.out HC2M.out).mono ?_
  rintro e w9 ⟨rfl, hb9⟩
  have BUF9 := hide (BUF8.out.of_block (hb9.block g (by omega)))
  have CUF9 := hide (CUF8.out.of_block (hb9.block g2 (by omega)))
  have R9 := hide ((hb9.block w.heap.size (by omega)).trans R8.out)
  have D9 := hide ((hb9.block w7.heap.size (by omega)).trans D8.out)
  have hz9 := hb9.size
  have hw9 : Below w.heap.size w w9 := hw8.trans (hb9.mono (by omega))
  clear hb9 v08 v18 v28
  have hqF := EQF.out
  go_wp2_with (first
    | (refine wpList_store_row rfl 27 (.tmp 13) (.tmp 52) rfl w9.heap.size F rfl rfl 27 _ (heap_alloc_new _ _) (fr_info S1.out) (by rw [HS.out, S1.out]) O1.out ?_
       obtain ⟨bn, pn, zn⟩ := new_row w9 F
       generalize (w9.alloc (.cells fr0 27)).setRow w9.heap.size F = w10 at bn pn zn ⊢
       have z10 : w9.heap.size + 1 ≤ w10.heap.size := Nat.le_of_eq zn.symm
       have hw10 : Below w.heap.size w w10 := hw9.trans (bn.mono (by omega))
       have sE := hstE w10 g 75 (BUF9.out.of_block (bn.block g (by omega)))
       have sC := hstC w10 g2 c2 (CUF9.out.of_block (bn.block g2 (by omega)))
       have R10 := hide ((bn.block w.heap.size (by omega)).trans R9.out)
       have D10 := hide ((bn.block w7.heap.size (by omega)).trans D9.out)
       have A10 := hide pn
       clear bn pn zn)
    | (refine wpList_load_g rfl (.tmp 11) rfl w7.heap.size rfl F D10.out S1.out ?_)
    | (refine wpList_load_g rfl (.tmp 13) rfl w9.heap.size rfl F A10.out S1.out ?_)
    | (refine wpList_load_g rfl (.tmp 3) rfl w.heap.size rfl F R10.out S1.out ?_))
  all_goals
    go_ret
    exact ⟨rfl, hw10⟩
end Go.Proofs.Ytecmpkbpngnpbaa
