/-
  The walk of FrameBack: what is sent is accepted by its own owner and state, and told by Decode, as it was; by another owner or state it is refused.
-/
import Derived.Test.YtecmpkbpngnpbaaEncMath
namespace Go.Proofs.Ytecmpkbpngnpbaa
open Go.RowKit
set_option linter.unusedVariables false

theorem accF_ok {b : List Nat} {o s m : Int} (h : accE b o s m = 0) : accF b o s m = frB b := by unfold accF; rw [if_pos h]
theorem accF_no {b : List Nat} {o s m : Int} (h : accE b o s m ≠ 0) : accF b o s m = fr0 := by unfold accF; rw [if_neg h]
theorem eq_own (o s m : Int) (p : List Nat) (w : World) (hp : p.length = 64) (hpl : ∀ c ∈ p, c < 256) : (Op.equalIn 10000 27 (.agg (frv o s m p)) (.agg (frv o s m p))).run Try.prog w = .ok true w := by
  have h := eq_fr o s m o s m p p w hp hp hpl hpl
  rw [decide_eq_true (by simp)] at h
  exact h
theorem eq_none (w : World) : (Op.equalIn 10000 27 (.agg fr0) (.agg fr0)).run Try.prog w = .ok true w := eq_own 0 0 0 zeros64 w (by decide) (by decide)

/-- what the walk of FrameBack needs of a frame that may be sent -/
structure BackFacts (o : Nat) (s m : Int) (p : List Nat) (F : Array Value) (E : List Nat) : Prop where
  len : E.length = 75
  lt : ∀ c ∈ E, c < 256
  dec : decE E = 0
  decf : decF E = F
  acc : accE E o s m = 0
  accf : accF E o s m = F
  iff : ∀ o' z y : Int, accE E o' z y = 0 ↔ (o : Int) = o' ∧ s = z ∧ m = y
  fb : frB E = F
theorem back_facts (o : Nat) (s m : Int) (p : List Nat) (hp : p.length = 64) (hpl : ∀ c ∈ p, c < 256) (ho : o < 16) (hs0 : 0 ≤ s) (hs1 : s ≤ 2147483647) (hm : (Lit.int .u16 m).wf = true) :
    BackFacts o s m p (frv o s m p) (enc (o : Int) s m p) :=
  { len := enc_len o s m p hp, lt := enc_lt o s m p ho hm hpl, dec := enc_dec o s m p hp ho hs0 hs1 hm,
    decf := by unfold decF; rw [if_pos (enc_dec o s m p hp ho hs0 hs1 hm), enc_frB o s m p hp hs0 hs1 hm],
    acc := enc_acc o s m p hp ho hs0 hs1 hm, accf := by rw [accF_ok (enc_acc o s m p hp ho hs0 hs1 hm), enc_frB o s m p hp hs0 hs1 hm],
    iff := enc_acc_iff o s m p hp ho hs0 hs1 hm, fb := enc_frB o s m p hp hs0 hs1 hm }

set_option maxRecDepth 100000 in
set_option maxHeartbeats 8000000 in
theorem back_same (o0 s0 : Int) (o : Nat) (s m : Int) (p : List Nat) (E : List Nat) (q z y : Int) (w : World) (hp : p.length = 64) (hpl : ∀ c ∈ p, c < 256) (ho : o < 16) (hs0 : 0 ≤ s) (hs1 : s ≤ 2147483647) (hm : (Lit.int .u16 m).wf = true) (hz : (Lit.int .i64 z).wf = true) (hy : (Lit.int .u16 y).wf = true)
    (hro : ro o0 = o) (hrs : rs s0 = s) (hE : enc (o : Int) s m p = E) (hBF : BackFacts o s m p (frv o s m p) E) (hq : (o : Int) = q) (hz1 : s = z) (hy1 : m = y) :
    Calls Try.prog 7 #[.agg (frv o0 s0 m p), .int .i64 q, .agg #[.int .i64 z, .int .u16 y]] w fun e w' => e = .returned (.bool true) ∧ Below w.heap.size w w' := by
  have hzv := (zero_of_info info_fr).1
  have hs : (Lit.int .i64 s).wf = true := WalkArith.wf_i64 (by omega)
  have hright := fun W => right_any o0 s0 m p W hp
  rw [hro, hrs] at hright
  have henc := fun W => enc_ok o s m p W hp hpl ho hs0 hs1 hm
  rw [hE] at henc
  have hdec := fun W g (h : Buf W g 75 E) => decode_any E 75 (some ⟨g, 0, none⟩) 75 W hBF.len (by omega) (by unfold maxLen; omega) (h.bytes (by rw [hBF.len]; omega) hBF.lt)
  rw [hBF.dec, hBF.decf] at hdec
  have hacc0 := fun W g (h : Buf W g 75 E) => accept_any E 75 (some ⟨g, 0, none⟩) 75 o s m W hBF.len (by omega) (by unfold maxLen; omega) (h.bytes (by rw [hBF.len]; omega) hBF.lt) hs hm
  rw [hBF.acc, hBF.accf] at hacc0
  have hacc1 := fun W g (h : Buf W g 75 E) => accept_any E 75 (some ⟨g, 0, none⟩) 75 q z y W hBF.len (by omega) (by unfold maxLen; omega) (h.bytes (by rw [hBF.len]; omega) hBF.lt) hz hy
  have hacc2 := fun W g (h : Buf W g 75 E) => accept_any E 75 (some ⟨g, 0, none⟩) 75 q s m W hBF.len (by omega) (by unfold maxLen; omega) (h.bytes (by rw [hBF.len]; omega) hBF.lt) hs hm
  have hacc3 := fun W g (h : Buf W g 75 E) => accept_any E 75 (some ⟨g, 0, none⟩) 75 o z y W hBF.len (by omega) (by unfold maxLen; omega) (h.bytes (by rw [hBF.len]; omega) hBF.lt) hz hy
  have heqF := fun W => eq_own o s m p W hp hpl
  have heqN := eq_none
  have heg : Try.prog.eqGuardType Try.prog.depth 27 = false := by kernel_rfl
  subst hq hz1 hy1
  rw [hBF.acc, hBF.accf] at hacc1 hacc2 hacc3
  obtain ⟨F0, hF0⟩ : ∃ F0, frv o0 s0 m p = F0 := ⟨_, rfl⟩
  have hF0s : F0.size = 67 := by rw [← hF0, frv_size, hp]
  obtain ⟨F, hF⟩ : ∃ F, frv (o : Int) s m p = F := ⟨_, rfl⟩
  have hFs : F.size = 67 := by rw [← hF, frv_size, hp]
  have hF1 : F.all (·.oneCell') = true := by rw [← hF]; exact frv_one _ _ _ _
  have f0 : F[0]? = some (.int .i64 o) := by rw [← hF]; exact frv_0 _ _ _ _
  have f1 : F[1]? = some (.int .i64 s) := by rw [← hF]; exact frv_1 _ _ _ _
  have f2 : F[2]? = some (.int .u16 m) := by rw [← hF]; exact frv_2 _ _ _ _
  rw [hF0] at hright ⊢
  simp only [hF] at hright henc hdec hacc0 hacc1 hacc2 hacc3 heqF
  have S0 := hide hF0s; have S1 := hide hFs; have O1 := hide hF1; have HS := hide fr0_size; have O0 := hide (show fr0.all (·.oneCell') = true from frv_one _ _ _ _)
  have F0' := hide f0; have F1' := hide f1; have F2' := hide f2; have EQF := hide heqF; have EQN := hide heqN
  have hb1 : Below w.heap.size w ((w.alloc (.cells F0 27)).alloc (.cells #[.int .i64 s, .int .u16 m] 24)) := (bal w _).alloc (by simp) _
  have r1 := heap_alloc2_old w (.cells F0 27) (.cells #[.int .i64 s, .int .u16 m] 24)
  have k0 : ((w.alloc (.cells F0 27)).alloc (.cells #[.int .i64 s, .int .u16 m] 24)).cell? ⟨w.heap.size + 1, 0, none⟩ = some (.int .i64 s) := by rw [cell_of_row _ _ _ _ _ _ (heap_alloc2_new w _ _)]; rfl
  have k1 : ((w.alloc (.cells F0 27)).alloc (.cells #[.int .i64 s, .int .u16 m] 24)).cell? ⟨w.heap.size + 1, 1, none⟩ = some (.int .u16 m) := by rw [cell_of_row _ _ _ _ _ _ (heap_alloc2_new w _ _)]; rfl
  have R1 := hide r1; have K0 := hide k0; have K1 := hide k1
  clear hF0 hF0s hF hFs hF1 f0 f1 f2 heqF heqN r1 k0 k1 hp hpl hm hz hro hrs hE hBF hs
  go_enter Try.func7, Try.ntmps7
  go_wp2_with fail
  refine (alive_any _).mono ?_
  rintro e w2 ⟨rfl, hb2⟩
  have R2 := hide ((hb2.block w.heap.size (by simp; omega)).trans R1.out)
  have q0 := hide ((bcl hb2 (show w.heap.size + 1 < _ by simp)).trans K0.out)
  have q1 := hide ((bcl hb2 (show w.heap.size + 1 < _ by simp)).trans K1.out)
  have hz2 := hb2.size
  simp only [World.size_alloc] at hz2
  have hw2 : Below w.heap.size w w2 := hb1.trans (hb2.mono (by simp; omega))
  clear hb1 hb2
  go_wp2_with (first
    | (refine wpList_load_row rfl 27 (.tmp 3) rfl w.heap.size rfl 27 F0 (0, 0) _ R2.out Try.underlying27 rfl (fr_info S0.out) ?_))
  refine (hright _).mono ?_
  rintro e w3 ⟨rfl, hb3⟩
  have R3 := hide ((hb3.block w.heap.size (by omega)).trans R2.out)
  have p0 := hide ((bcl hb3 (show w.heap.size + 1 < _ by omega)).trans q0.out)
  have p1 := hide ((bcl hb3 (show w.heap.size + 1 < _ by omega)).trans q1.out)
  have hz3 := hb3.size
  have hw3 : Below w.heap.size w w3 := hw2.trans (hb3.mono (by omega))
  clear hb3 hright
  go_wp2_with (first
    | (refine wpList_store_row rfl 27 (.tmp 3) (.tmp 24) rfl w.heap.size F rfl rfl 27 _ R3.out (fr_info S1.out) (by rw [S0.out, S1.out]) O1.out ?_
       have b4 : Below (w.heap.size + 1) w3 (w3.setRow w.heap.size F) ∨ True := .inr trivial
       have r4 : (w3.setRow w.heap.size F).heap[w.heap.size]? = some (.cells F 27 (0, 0)) := setRow_heap _ _ _ _ _ _ R3.out
       have x0 : (w3.setRow w.heap.size F).cell? ⟨w.heap.size + 1, 0, none⟩ = some (.int .i64 s) := (cell_setRow_other _ _ _ _ (show w.heap.size + 1 ≠ w.heap.size by omega)).trans p0.out
       have x1 : (w3.setRow w.heap.size F).cell? ⟨w.heap.size + 1, 1, none⟩ = some (.int .u16 m) := (cell_setRow_other _ _ _ _ (show w.heap.size + 1 ≠ w.heap.size by omega)).trans p1.out
       have z4 : (w3.setRow w.heap.size F).heap.size = w3.heap.size := by simp
       have hw4 : Below w.heap.size w (w3.setRow w.heap.size F) := below_setRow hw3 (Nat.le_refl _) _
       generalize w3.setRow w.heap.size F = w4 at b4 r4 x0 x1 z4 hw4 ⊢
       have R4 := hide r4; have X0 := hide x0; have X1 := hide x1
       clear b4 r4 x0 x1)
    | (refine wpList_load_row rfl 27 (.tmp 3) rfl w.heap.size rfl 27 F (0, 0) _ R4.out Try.underlying27 rfl (fr_info S1.out) ?_))
  refine (henc _).mono ?_
  rintro e w5 ⟨g, rfl, hbuf, hg, hb5⟩
  have BUF5 := hide hbuf
  have R5 := hide ((hb5.block w.heap.size (by omega)).trans R4.out)
  have y0 := hide ((bcl hb5 (show w.heap.size + 1 < _ by omega)).trans X0.out)
  have y1 := hide ((bcl hb5 (show w.heap.size + 1 < _ by omega)).trans X1.out)
  have hz5 := hb5.size
  have hgs := hbuf.1
  have hw5 : Below w.heap.size w w5 := hw4.trans (hb5.mono (by omega))
  clear hb5 henc hbuf
  go_wp2_with fail
  refine (hdec _ _ BUF5.out).mono ?_
  rintro e w6 ⟨rfl, hb6⟩
  have BUF6 := hide (BUF5.out.of_block (hb6.block g hgs))
  have R6 := hide ((hb6.block w.heap.size (by omega)).trans R5.out)
  have s0' := hide ((bcl hb6 (show w.heap.size + 1 < _ by omega)).trans y0.out)
  have s1' := hide ((bcl hb6 (show w.heap.size + 1 < _ by omega)).trans y1.out)
  have hz6 := hb6.size
  have hw6 : Below w.heap.size w w6 := hw5.trans (hb6.mono (by omega))
  clear hb6 hdec
  go_wp2_with (first
    | (refine wpList_store_row rfl 27 (.tmp 10) (.tmp 33) rfl w6.heap.size F rfl rfl 27 _ (heap_alloc_new _ _) (fr_info S1.out) (by rw [HS.out, S1.out]) O1.out ?_
       obtain ⟨bn, pn, zn⟩ := new_row w6 F
       generalize (w6.alloc (.cells fr0 27)).setRow w6.heap.size F = w7 at bn pn zn ⊢
       have z7 : w7.heap.size = w6.heap.size + 1 := zn
       have hw7 : Below w.heap.size w w7 := hw6.trans (bn.mono (by omega))
       have BUF7 := hide (BUF6.out.of_block (bn.block g (by omega)))
       have R7 := hide ((bn.block w.heap.size (by omega)).trans R6.out)
       have D7 := hide pn
       have u07 := (bcl bn (show w.heap.size + 1 < _ by omega)).trans s0'.out
       have u17 := (bcl bn (show w.heap.size + 1 < _ by omega)).trans s1'.out
       have v07 : w7.cell? ⟨w.heap.size, 0, none⟩ = some (.int .i64 o) := by rw [cell_of_row _ _ _ _ _ _ R7.out]; exact F0'.out
       have v17 : w7.cell? ⟨w.heap.size, 1, none⟩ = some (.int .i64 s) := by rw [cell_of_row _ _ _ _ _ _ R7.out]; exact F1'.out
       have v27 : w7.cell? ⟨w.heap.size, 2, none⟩ = some (.int .u16 m) := by rw [cell_of_row _ _ _ _ _ _ R7.out]; exact F2'.out
       clear bn pn zn s0' s1'))
  refine (hacc0 _ _ BUF7.out).mono ?_
  rintro e w8 ⟨rfl, hbn⟩
  have BUF8 := hide (BUF7.out.of_block (hbn.block g (by omega)))
  have R8 := hide ((hbn.block w.heap.size (by omega)).trans R7.out)
  have s0' := hide ((bcl hbn (show w.heap.size + 1 < _ by omega)).trans u07)
  have s1' := hide ((bcl hbn (show w.heap.size + 1 < _ by omega)).trans u17)
  have hz8 := hbn.size
  have hw8 : Below w.heap.size w w8 := hw7.trans (hbn.mono (by omega))
  have D8 := hide ((hbn.block w6.heap.size (by omega)).trans D7.out)
  clear hbn hacc0 u07 u17 v07 v17 v27
  have hqF := EQF.out
  go_wp2_with (first
    | (refine wpList_store_row rfl 27 (.tmp 12) (.tmp 42) rfl w8.heap.size F rfl rfl 27 _ (heap_alloc_new _ _) (fr_info S1.out) (by rw [HS.out, S1.out]) O1.out ?_
       obtain ⟨bn, pn, zn⟩ := new_row w8 F
       generalize (w8.alloc (.cells fr0 27)).setRow w8.heap.size F = w9 at bn pn zn ⊢
       have z9 : w9.heap.size = w8.heap.size + 1 := zn
       have hw9 : Below w.heap.size w w9 := hw8.trans (bn.mono (by omega))
       have BUF9 := hide (BUF8.out.of_block (bn.block g (by omega)))
       have R9 := hide ((bn.block w.heap.size (by omega)).trans R8.out)
       have A9 := hide pn
       have D9 := hide ((bn.block w6.heap.size (by omega)).trans D8.out)
       have u09 := (bcl bn (show w.heap.size + 1 < _ by omega)).trans s0'.out
       have u19 := (bcl bn (show w.heap.size + 1 < _ by omega)).trans s1'.out
       have v09 : w9.cell? ⟨w.heap.size, 0, none⟩ = some (.int .i64 o) := by rw [cell_of_row _ _ _ _ _ _ R9.out]; exact F0'.out
       have v19 : w9.cell? ⟨w.heap.size, 1, none⟩ = some (.int .i64 s) := by rw [cell_of_row _ _ _ _ _ _ R9.out]; exact F1'.out
       have v29 : w9.cell? ⟨w.heap.size, 2, none⟩ = some (.int .u16 m) := by rw [cell_of_row _ _ _ _ _ _ R9.out]; exact F2'.out
       clear bn pn zn s0' s1')
    | (refine wpList_load_g rfl (.tmp 10) rfl w6.heap.size rfl F D9.out S1.out ?_)
    | (refine wpList_load_g rfl (.tmp 12) rfl w8.heap.size rfl F A9.out S1.out ?_)
    | (refine wpList_load_g rfl (.tmp 3) rfl w.heap.size rfl F R9.out S1.out ?_))
  refine (hacc1 _ _ BUF9.out).mono ?_
  rintro e w10 ⟨rfl, hbn⟩
  have BUF10 := hide (BUF9.out.of_block (hbn.block g (by omega)))
  have R10 := hide ((hbn.block w.heap.size (by omega)).trans R9.out)
  have s0' := hide ((bcl hbn (show w.heap.size + 1 < _ by omega)).trans u09)
  have s1' := hide ((bcl hbn (show w.heap.size + 1 < _ by omega)).trans u19)
  have hz10 := hbn.size
  have hw10 : Below w.heap.size w w10 := hw9.trans (hbn.mono (by omega))
  clear hbn hacc1 u09 u19 v09 v19 v29
  go_wp2_with (first
    | (refine wpList_store_row rfl 27 (.tmp 14) (.tmp 74) rfl w10.heap.size F rfl rfl 27 _ (heap_alloc_new _ _) (fr_info S1.out) (by rw [HS.out, S1.out]) O1.out ?_
       obtain ⟨bn, pn, zn⟩ := new_row w10 F
       generalize (w10.alloc (.cells fr0 27)).setRow w10.heap.size F = w11 at bn pn zn ⊢
       have z11 : w11.heap.size = w10.heap.size + 1 := zn
       have hw11 : Below w.heap.size w w11 := hw10.trans (bn.mono (by omega))
       have BUF11 := hide (BUF10.out.of_block (bn.block g (by omega)))
       have R11 := hide ((bn.block w.heap.size (by omega)).trans R10.out)
       have K11 := hide pn
       have u011 := (bcl bn (show w.heap.size + 1 < _ by omega)).trans s0'.out
       have u111 := (bcl bn (show w.heap.size + 1 < _ by omega)).trans s1'.out
       have v011 : w11.cell? ⟨w.heap.size, 0, none⟩ = some (.int .i64 o) := by rw [cell_of_row _ _ _ _ _ _ R11.out]; exact F0'.out
       have v111 : w11.cell? ⟨w.heap.size, 1, none⟩ = some (.int .i64 s) := by rw [cell_of_row _ _ _ _ _ _ R11.out]; exact F1'.out
       have v211 : w11.cell? ⟨w.heap.size, 2, none⟩ = some (.int .u16 m) := by rw [cell_of_row _ _ _ _ _ _ R11.out]; exact F2'.out
       clear bn pn zn s0' s1'))
  refine (hacc2 _ _ BUF11.out).mono ?_
  rintro e w12 ⟨rfl, hbn⟩
  have BUF12 := hide (BUF11.out.of_block (hbn.block g (by omega)))
  have R12 := hide ((hbn.block w.heap.size (by omega)).trans R11.out)
  have s0' := hide ((bcl hbn (show w.heap.size + 1 < _ by omega)).trans u011)
  have s1' := hide ((bcl hbn (show w.heap.size + 1 < _ by omega)).trans u111)
  have hz12 := hbn.size
  have hw12 : Below w.heap.size w w12 := hw11.trans (hbn.mono (by omega))
  have K12 := hide ((hbn.block w10.heap.size (by omega)).trans K11.out)
  clear hbn hacc2 u011 u111 v011 v111 v211
  go_wp2_with (first
    | (refine wpList_store_row rfl 27 (.tmp 16) (.tmp 82) rfl w12.heap.size F rfl rfl 27 _ (heap_alloc_new _ _) (fr_info S1.out) (by rw [HS.out, S1.out]) O1.out ?_
       obtain ⟨bn, pn, zn⟩ := new_row w12 F
       generalize (w12.alloc (.cells fr0 27)).setRow w12.heap.size F = w13 at bn pn zn ⊢
       have z13 : w13.heap.size = w12.heap.size + 1 := zn
       have hw13 : Below w.heap.size w w13 := hw12.trans (bn.mono (by omega))
       have BUF13 := hide (BUF12.out.of_block (bn.block g (by omega)))
       have R13 := hide ((bn.block w.heap.size (by omega)).trans R12.out)
       have M13 := hide pn
       have K13 := hide ((bn.block w10.heap.size (by omega)).trans K12.out)
       have u013 := (bcl bn (show w.heap.size + 1 < _ by omega)).trans s0'.out
       have u113 := (bcl bn (show w.heap.size + 1 < _ by omega)).trans s1'.out
       have v013 : w13.cell? ⟨w.heap.size, 0, none⟩ = some (.int .i64 o) := by rw [cell_of_row _ _ _ _ _ _ R13.out]; exact F0'.out
       have v113 : w13.cell? ⟨w.heap.size, 1, none⟩ = some (.int .i64 s) := by rw [cell_of_row _ _ _ _ _ _ R13.out]; exact F1'.out
       have v213 : w13.cell? ⟨w.heap.size, 2, none⟩ = some (.int .u16 m) := by rw [cell_of_row _ _ _ _ _ _ R13.out]; exact F2'.out
       clear bn pn zn s0' s1'))
  refine (hacc3 _ _ BUF13.out).mono ?_
  rintro e w14 ⟨rfl, hbn⟩
  have BUF14 := hide (BUF13.out.of_block (hbn.block g (by omega)))
  have R14 := hide ((hbn.block w.heap.size (by omega)).trans R13.out)
  have s0' := hide ((bcl hbn (show w.heap.size + 1 < _ by omega)).trans u013)
  have s1' := hide ((bcl hbn (show w.heap.size + 1 < _ by omega)).trans u113)
  have hz14 := hbn.size
  have hw14 : Below w.heap.size w w14 := hw13.trans (hbn.mono (by omega))
  have K14 := hide ((hbn.block w10.heap.size (by omega)).trans K13.out)
  have M14 := hide ((hbn.block w12.heap.size (by omega)).trans M13.out)
  clear hbn hacc3 u013 u113 v013 v113 v213
  go_wp2_with (first
    | (refine wpList_store_row rfl 27 (.tmp 18) (.tmp 90) rfl w14.heap.size F rfl rfl 27 _ (heap_alloc_new _ _) (fr_info S1.out) (by rw [HS.out, S1.out]) O1.out ?_
       obtain ⟨bn, pn, zn⟩ := new_row w14 F
       generalize (w14.alloc (.cells fr0 27)).setRow w14.heap.size F = w15 at bn pn zn ⊢
       have hw15 : Below w.heap.size w w15 := hw14.trans (bn.mono (by omega))
       have R15 := hide ((bn.block w.heap.size (by omega)).trans R14.out)
       have K15 := hide ((bn.block w10.heap.size (by omega)).trans K14.out)
       have u015 := (bcl bn (show w.heap.size + 1 < _ by omega)).trans s0'.out
       have u115 := (bcl bn (show w.heap.size + 1 < _ by omega)).trans s1'.out
       have v015 : w15.cell? ⟨w.heap.size, 0, none⟩ = some (.int .i64 o) := by rw [cell_of_row _ _ _ _ _ _ R15.out]; exact F0'.out
       have v115 : w15.cell? ⟨w.heap.size, 1, none⟩ = some (.int .i64 s) := by rw [cell_of_row _ _ _ _ _ _ R15.out]; exact F1'.out
       have v215 : w15.cell? ⟨w.heap.size, 2, none⟩ = some (.int .u16 m) := by rw [cell_of_row _ _ _ _ _ _ R15.out]; exact F2'.out
       clear bn pn zn s0' s1')
    | (refine wpList_load_g rfl (.tmp 14) rfl w10.heap.size rfl F K15.out S1.out ?_)
    | (refine wpList_load_g rfl (.tmp 3) rfl w.heap.size rfl F R15.out S1.out ?_))

  go_ret
  exact ⟨rfl, hw15⟩
end Go.Proofs.Ytecmpkbpngnpbaa
