/-
  The document's own Accept.
-/
import Derived.Test.YtihldmcakcobaaaRefDec
import Derived.Test.YtihldmcakcobaaaAccept
namespace Go.Proofs.Ytihldmcakcobaaa
open Go.RowKit Go.Shelf
set_option linter.unusedVariables false

/-- what the operations have made that lay the bytes whose sum is asked -/
def raF (B : Nat) (s m : Int) (P : List Nat) (x y : Value) : Nat → Value → World → Prop
  | 0, v, _ => v = .agg #[.int .i64 s, .int .u16 m]
  | 1, v, W => ∃ g, v = .slice (some ⟨g, 0, none⟩) 6 6 ∧ OwnS W B g 6 6 (st s m)
  | 2, v, _ => v = x
  | 3, v, _ => v = y
  | 4, v, W => ∃ g c, v = .slice (some ⟨g, 0, none⟩) 71 c ∧ OwnS W B g 71 c (st s m ++ P)
  | 5, v, W => ∃ g c, v = .slice (some ⟨g, 0, none⟩) 71 c ∧ OwnS W B g 71 c (st s m ++ P)
  | _, _, _ => True
def raT : Nat → Nat
  | 0 => 1 | 1 => 4 | 4 => 5 | _ => 6
theorem raF.later {B : Nat} {s m : Int} {P : List Nat} {x y : Value} {W W' : World} (hb : ∀ k, k < W.heap.size → W'.heap[k]? = W.heap[k]?) : ∀ j v, raF B s m P x y j v W → raF B s m P x y j v W'
  | 0, _, h | 2, _, h | 3, _, h => h
  | 1, _, ⟨g, h1, h2⟩ => ⟨g, h1, h2.kept (hb g h2.blk)⟩
  | 4, _, ⟨g, c, h1, h2⟩ => ⟨g, c, h1, h2.kept (hb g h2.blk)⟩
  | 5, _, ⟨g, c, h1, h2⟩ => ⟨g, c, h1, h2.kept (hb g h2.blk)⟩
  | _ + 6, _, _ => trivial
theorem never {ops : Array Oper} {C : World → Prop} {F : Nat → Value → World → Prop} {T : Nat → Nat} {l : Array Bool} {vals : Nat → Value} {W : World} (hI : Inv .any ops C F T l vals W) {k : Nat} (hs : ops.size ≤ k) : l.getD k false = false := by
  rw [Array.getD_eq_getD_getElem?, Array.getElem?_eq_none (by rw [hI.siz]; exact hs)]; rfl

set_option maxRecDepth 100000 in
set_option maxHeartbeats 1000000 in
theorem racc_no (b : List Nat) (n : Nat) (A : Option Addr) (cap : Nat) (o s m : Int) (w : World) (hn : b.length = n) (hcap : n ≤ cap) (hm : cap ≤ maxLen) (hB : Bytes w A b) (hi : isFr b = false) :
    Calls Try.prog 17 #[.slice A n cap, .int .i64 o, .agg #[.int .i64 s, .int .u16 m]] w fun e w' => e = .returned (.tuple #[.agg fr0, .int .i64 30]) ∧ Below w.heap.size w w' := by
  have hz := (zero_of_info info_fr).1
  have hb1 : Below w.heap.size w ((w.alloc (.cells #[.int .i64 s, .int .u16 m] 24)).alloc (.cells fr0 27)) := (bal w _).alloc (by simp) _
  have hcall := rtold_any b n A cap _ hn hcap hm (hB.of_below hb1 (Nat.le_refl _))
  rw [show frOf b = fr0 by unfold frOf; rw [hi]; rfl, hi] at hcall
  have H0 := hide (heap_alloc2_new w (.cells #[.int .i64 s, .int .u16 m] 24) (.cells fr0 27))
  clear hB hn hi hcap
  go_enter Try.func17, Try.ntmps17
  go_wp2_with fail
  refine hcall.mono ?_
  rintro e w2 ⟨rfl, hb2⟩
  clear hcall
  have h2r : w2.heap[w.heap.size + 1]? = some (.cells fr0 27 (0, 0)) := (hb2.block _ (by simp)).trans H0.out
  have h2z := hb2.size
  simp only [World.size_alloc] at h2z
  have h2w : Below w.heap.size w w2 := hb1.trans (hb2.mono (by simp; omega))
  have hrow := hide (heap_alloc_new w2 (.cells fr0 27))
  clear hb2 hb1
  go_wp2_with (first
    | (refine wpList_store_row rfl 27 (.tmp 8) (.tmp 14) rfl w2.heap.size fr0 rfl rfl 27 _ hrow.out (fr_info fr0_size) rfl (frv_one _ _ _ _) ?_
       obtain ⟨w3, hw3⟩ : ∃ w3, (w2.alloc (.cells fr0 27)).setRow w2.heap.size fr0 = w3 := ⟨_, rfl⟩
       have h3r : w3.heap[w.heap.size + 1]? = some (.cells fr0 27 (0, 0)) := by
         rw [← hw3, setRow_other _ _ _ _ (by omega)]
         exact (heap_alloc_old w2 _ (by omega)).trans h2r
       have h3w : Below w.heap.size w w3 := by rw [← hw3]; exact below_setRow (h2w.alloc (by omega) _) (by omega) _
       rw [hw3]
       have H3r := hide h3r
       clear hw3 h3r h2r)
    | (refine wpList_store_row rfl 27 (.tmp 6) (.tmp 18) rfl (w.heap.size + 1) fr0 rfl rfl 27 _ H3r.out (fr_info fr0_size) rfl (frv_one _ _ _ _) ?_))
  refine bodyPost_ret (results_row_slot (fn := Try.f17) rfl _ _ (w.heap.size + 1) 27 fr0 (0, 0) rfl (.int .i64 30) rfl ?_ fr0_size) rfl ⟨rfl, ?_⟩
  · exact setRow_heap _ _ _ _ _ _ H3r.out
  · exact below_setRow h3w (by omega) _

set_option maxRecDepth 100000 in
set_option maxHeartbeats 2000000 in
theorem racc_yes (b : List Nat) (A : Option Addr) (cap : Nat) (o s m : Int) (w : World) (hn : b.length = 75) (hcap : 75 ≤ cap) (hm : cap ≤ maxLen) (hB : Bytes w A b) (hi : isFr b = true) (hs : (Lit.int .i64 s).wf = true) (hmm : (Lit.int .u16 m).wf = true) :
    Calls Try.prog 17 #[.slice A 75 cap, .int .i64 o, .agg #[.int .i64 s, .int .u16 m]] w fun e w' => e = .returned (.tuple #[.agg (accF b o s m), .int .i64 (accE b o s m)]) ∧ Below w.heap.size w w' := by
  have hz := (zero_of_info info_fr).1
  obtain ⟨blk, off, rfl, hblk, hcl⟩ := hB.at (k := 0) (by omega)
  have hb1 : Below w.heap.size w ((w.alloc (.cells #[.int .i64 s, .int .u16 m] 24)).alloc (.cells fr0 27)) := (bal w _).alloc (by simp) _
  have hcall := rtold_any b 75 (some ⟨blk, off, none⟩) cap _ hn hcap hm (hB.of_below hb1 (Nat.le_refl _))
  obtain ⟨F, hF⟩ : ∃ F, frB b = F := ⟨_, rfl⟩
  have hFs : F.size = 67 := by rw [← hF]; exact frB_size b hi
  have hF1 : F.all (·.oneCell') = true := by rw [← hF]; exact frv_one _ _ _ _
  have f0 : F[0]? = some (.int .i64 (b.getD 6 0 : Nat)) := by rw [← hF]; exact frv_0 _ _ _ _
  have f1 : F[1]? = some (.int .i64 (slotB b : Nat)) := by rw [← hF]; exact frv_1 _ _ _ _
  have f2 : F[2]? = some (.int .u16 (memB b : Nat)) := by rw [← hF]; exact frv_2 _ _ _ _
  rw [show frOf b = F by unfold frOf; rw [if_pos hi, hF], hi] at hcall
  have H0 := hide (heap_alloc2_new w (.cells #[.int .i64 s, .int .u16 m] 24) (.cells fr0 27))
  have k0 : ((w.alloc (.cells #[.int .i64 s, .int .u16 m] 24)).alloc (.cells fr0 27)).cell? ⟨w.heap.size, 0, none⟩ = some (.int .i64 s) := by
    rw [bcl (bal _ _) (by simp), cell_of_row _ _ _ _ _ _ (heap_alloc_new w _)]; rfl
  have k1 : ((w.alloc (.cells #[.int .i64 s, .int .u16 m] 24)).alloc (.cells fr0 27)).cell? ⟨w.heap.size, 1, none⟩ = some (.int .u16 m) := by
    rw [bcl (bal _ _) (by simp), cell_of_row _ _ _ _ _ _ (heap_alloc_new w _)]; rfl
  obtain ⟨P, hP⟩ : ∃ P, (b.drop 6).take 65 = P := ⟨_, rfl⟩
  have hPl : P.length = 65 := by rw [← hP, List.length_take, List.length_drop]; omega
  have hPB : ∀ W, Below w.heap.size w W → Bytes W (some ⟨blk, off + 6, none⟩) P := fun W hW =>
    ⟨fun c hc => hB.1 c (by rw [← hP] at hc; exact List.mem_of_mem_drop (List.mem_of_mem_take hc)), .inr ⟨blk, off + 6, rfl, Nat.lt_of_lt_of_le hblk hW.size, fun i hi => by
      have h := (bcl hW hblk).trans (hcl (6 + i) (by omega))
      rw [show off + 6 + i = off + (6 + i) by omega, h, ← hP]
      rw [hPl] at hi
      simp [List.getD_eq_getElem?_getD, hi]⟩⟩
  have hsd : decide (SumMath.four (SumMath.more 0 (st s m ++ P)) = b.drop 71) = summed b s m := by
    unfold summed
    rw [hP, SumMath.more_append (st s m) P (st_lt s m (bounds_u16 hmm).1 (bounds_u16 hmm).2)]
  have hsum : ∀ W g c, Below w.heap.size w W → Bytes W (some ⟨g, 0, none⟩) (st s m ++ P) → Calls Try.prog 30 #[.slice (some ⟨blk, off, none⟩) 75 cap, .slice (some ⟨g, 0, none⟩) 71 c] W fun e w' => e = .returned (.bool (summed b s m)) ∧ Below W.heap.size W w' :=
    fun W g c hW hL => (sealed_at b (st s m ++ P) (some ⟨blk, off, none⟩) (some ⟨g, 0, none⟩) cap 71 c W hn hcap hm (hB.of_below hW (Nat.le_refl _)) (by simp [st_len, hPl]) (by omega) hL).mono fun e w' h => by
      obtain ⟨rfl, rfl⟩ := h
      exact ⟨by rw [hsd], Below.refl _ _⟩
  have hst := fun W => rstate_any s m W hs hmm
  have hslt := st_lt s m (bounds_u16 hmm).1 (bounds_u16 hmm).2
  have HST := hide hst; have HPB := hide hPB; have HPL := hide hPl
  clear hst hPB hPl hsd hcl hP
  have hE : accE b o s m = if summed b s m then (if meets b o s m then 0 else 30) else 31 := by unfold accE; rw [if_pos hi]
  have hM : meets b o s m = decide (((b.getD 6 0 : Nat) : Int) = o ∧ ((slotB b : Nat) : Int) = s ∧ ((memB b : Nat) : Int) = m) := rfl
  have HF := hide hF; have HFs := hide hFs; have HF1 := hide hF1; have HE := hide hE; have Hm := hide hm; have K0 := hide k0; have K1 := hide k1
  clear hB hn hi hF hFs hF1 hE hs hmm k0 k1
  generalize ((slotB b : Nat) : Int) = z at f1 hM
  generalize ((memB b : Nat) : Int) = y at f2 hM
  generalize ((b.getD 6 0 : Nat) : Int) = x at f0 hM
  have HM := hide hM; clear hM
  go_enter Try.func17, Try.ntmps17
  go_wp2_with fail
  refine hcall.mono ?_
  rintro e w2 ⟨rfl, hb2⟩
  clear hcall
  have h2r : w2.heap[w.heap.size + 1]? = some (.cells fr0 27 (0, 0)) := (hb2.block _ (by simp)).trans H0.out
  have g0 := (bcl hb2 (show w.heap.size < _ by simp; omega)).trans K0.out
  have g1 := (bcl hb2 (show w.heap.size < _ by simp; omega)).trans K1.out
  have h2z := hb2.size
  simp only [World.size_alloc] at h2z
  have h2w : Below w.heap.size w w2 := hb1.trans (hb2.mono (by simp; omega))
  have hrow := hide (heap_alloc_new w2 (.cells fr0 27))
  clear hb2 hb1
  go_wp2_with (first
      | (refine wpList_store_row rfl 27 (.tmp 8) (.tmp 14) rfl w2.heap.size F rfl rfl 27 _ hrow.out (fr_info HFs.out) (by rw [fr0_size, HFs.out]) HF1.out ?_
         obtain ⟨w3, hw3⟩ : ∃ w3, (w2.alloc (.cells fr0 27)).setRow w2.heap.size F = w3 := ⟨_, rfl⟩
         have h3r : w3.heap[w.heap.size + 1]? = some (.cells fr0 27 (0, 0)) := by
           rw [← hw3, setRow_other _ _ _ _ (by omega)]
           exact (heap_alloc_old w2 _ (by omega)).trans h2r
         have h3f : w3.heap[w2.heap.size]? = some (.cells F 27 (0, 0)) := by rw [← hw3]; exact setRow_heap _ _ _ _ _ _ hrow.out
         have h3w : Below w.heap.size w w3 := by rw [← hw3]; exact below_setRow (h2w.alloc (by omega) _) (by omega) _
         have h3b : Below w2.heap.size w2 w3 := by rw [← hw3]; exact below_setRow (bal w2 _) (Nat.le_refl _) _
         have h3z : w3.heap.size = w2.heap.size + 1 := by rw [← hw3]; simp
         have a0 : w3.cell? ⟨w2.heap.size, 0, none⟩ = some (.int .i64 x) := by rw [cell_of_row _ _ _ _ _ _ h3f]; exact f0
         have a1 : w3.cell? ⟨w2.heap.size, 1, none⟩ = some (.int .i64 z) := by rw [cell_of_row _ _ _ _ _ _ h3f]; exact f1
         have a2 : w3.cell? ⟨w2.heap.size, 2, none⟩ = some (.int .u16 y) := by rw [cell_of_row _ _ _ _ _ _ h3f]; exact f2
         have e0 := (bcl h3b (show w.heap.size < _ by omega)).trans g0
         have e1 := (bcl h3b (show w.heap.size < _ by omega)).trans g1
         rw [hw3]
         have H3r := hide h3r; have H3f := hide h3f
         clear hw3 h3r h2r h3f f0 f1 f2 g0 g1 h3b))
  refine wp_region_facts (fun W => Below w3.heap.size w3 W) (raF w3.heap.size s m P (.slice (some ⟨blk, off, none⟩) 75 cap) (.slice (some ⟨blk, off + 6, none⟩) 65 (cap - 6))) raT (by kernel_rfl) (by kernel_rfl) (below_drewN (Below.refl _ _) 1) ?_ ?_
  · refine AllFrom.cons (step_is (by kernel_rfl) ?s0) (AllFrom.cons (i := 1) (step_fn 22 19 _ rfl (enters_of Try.func22 (by kernel_rfl) rfl) ?s1) (AllFrom.cons (i := 2) (step_is (by kernel_rfl) ?s2) (AllFrom.cons (i := 3) (step_is (by kernel_rfl) ?s3) (AllFrom.cons (i := 4) ?s4 (AllFrom.cons (i := 5) (step_is (by kernel_rfl) ?s5) trivial)))))
    case s0 =>
      intro l vals W ρ hI hi hdep hnew hold hc
      have e : ρ (.tmp 5) = .pointer (some ⟨w.heap.size, 0, none⟩) := (hold 5 (by kernel_rfl)).trans (by kernel_rfl)
      have c0 := (bcl hI.com (show w.heap.size < _ by omega)).trans e0
      have c1 := (bcl hI.com (show w.heap.size < _ by omega)).trans e1
      refine ⟨.agg #[.int .i64 s, .int .u16 m], ?_, rfl⟩
      simp [execOp, e, go_sem, c0, c1]
    case s1 =>
      intro l vals W hI hi hdep
      have f : vals 0 = .agg #[.int .i64 s, .int .u16 m] := hI.fact 0 (dep hdep 0 (by kernel_rfl)) hi
      refine ⟨_, (ev_get (by kernel_rfl) 0 19 (dep hdep 0 (by kernel_rfl)) (by kernel_rfl) (of_decide_eq_true (by kernel_rfl)) (of_decide_eq_true (by kernel_rfl))).trans f, (HST.out W).mono ?_⟩
      rintro e W' ⟨g, rfl, hg, hgs, hb'⟩
      refine ⟨_, rfl, hI.com.trans (hb'.mono hI.com.size), ⟨g, rfl, ?_⟩, fun j _ _ hj hT => raF.later (fun k hk => hb'.block k hk) j _ (hI.fact j hj hT)⟩
      exact ⟨rfl, hslt, Nat.le_trans hI.com.size hgs, Nat.le_refl _, by simp [maxLen], bys (st s m), hg, rfl, rfl⟩
    case s2 =>
      intro l vals W ρ hI hi hdep hnew hold hc
      have e : ρ (.tmp 0) = .slice (some ⟨blk, off, none⟩) 75 cap := (hold 0 (by kernel_rfl)).trans (by kernel_rfl)
      refine ⟨.slice (some ⟨blk, off, none⟩) 75 cap, ?_, rfl⟩
      simp [execOp, e, go_sem]
    case s3 =>
      intro l vals W ρ hI hi hdep hnew hold hc
      have f : vals 2 = .slice (some ⟨blk, off, none⟩) 75 cap := hI.fact 2 (dep hdep 2 (by kernel_rfl)) (never hI (of_decide_eq_true (by kernel_rfl)))
      have e : ρ (.tmp 21) = .slice (some ⟨blk, off, none⟩) 75 cap := (hnew 2 21 (dep hdep 2 (by kernel_rfl)) (by kernel_rfl) (of_decide_eq_true (by kernel_rfl)) (of_decide_eq_true (by kernel_rfl))).trans f
      refine ⟨.slice (some ⟨blk, off + 6, none⟩) 65 (cap - 6), ?_, rfl⟩
      have q1 : (71 : Int) ≤ cap := by omega
      have q2 : ¬ (cap : Int) < 71 := by omega
      have q3 : ¬ cap = 6 := by omega
      simp [execOp, e, hc, go_sem, q1, q3]
    case s4 =>
      intro l vals W hI hi hdep
      obtain ⟨g, f1, h1⟩ : raF w3.heap.size s m P (.slice (some ⟨blk, off, none⟩) 75 cap) (.slice (some ⟨blk, off + 6, none⟩) 65 (cap - 6)) 1 (vals 1) W := hI.fact 1 (dep hdep 1 (by kernel_rfl)) hi
      have f3 : vals 3 = .slice (some ⟨blk, off + 6, none⟩) 65 (cap - 6) := hI.fact 3 (dep hdep 3 (by kernel_rfl)) (never hI (of_decide_eq_true (by kernel_rfl)))
      refine wp_ontoS (.tmp 20) (.tmp 22) rfl w3.heap.size g 6 6 (st s m) ((ev_get (by kernel_rfl) 1 20 (dep hdep 1 (by kernel_rfl)) (by kernel_rfl) (of_decide_eq_true (by kernel_rfl)) (of_decide_eq_true (by kernel_rfl))).trans f1) h1 (some ⟨blk, off + 6, none⟩) 65 (cap - 6) P ((ev_get (by kernel_rfl) 3 22 (dep hdep 3 (by kernel_rfl)) (by kernel_rfl) (of_decide_eq_true (by kernel_rfl)) (of_decide_eq_true (by kernel_rfl))).trans f3) HPL.out (HPB.out W (h3w.trans (hI.com.mono h3w.size))) (by omega) hI.com.size ?_
      intro g2 c2 W' h7 hb7
      refine ⟨_, rfl, hI.com.trans (grown_below hb7 h1.base hI.com.size), ⟨g2, c2, rfl, h7⟩, fun j hj7 hT7 hj hT => ?_⟩
      have hf := hI.fact j hj hT
      match j, hf, hT7, hj7, hj with
      | 0, hf, _, _, _ | 2, hf, _, _, _ | 3, hf, _, _, _ => exact hf
      | 1, _, h, _, _ => exact absurd rfl h
      | 4, _, _, h, _ => exact absurd rfl h
      | 5, _, _, _, hj => exact absurd hj (by rw [hI.ahead hi 5 (by kernel_rfl)]; simp)
      | j + 6, _, _, _, _ => trivial
    case s5 =>
      intro l vals W ρ hI hi hdep hnew hold hc
      obtain ⟨g, c, f4, h4⟩ : raF w3.heap.size s m P (.slice (some ⟨blk, off, none⟩) 75 cap) (.slice (some ⟨blk, off + 6, none⟩) 65 (cap - 6)) 4 (vals 4) W := hI.fact 4 (dep hdep 4 (by kernel_rfl)) hi
      have e : ρ (.tmp 23) = .slice (some ⟨g, 0, none⟩) 71 c := (hnew 4 23 (dep hdep 4 (by kernel_rfl)) (by kernel_rfl) (of_decide_eq_true (by kernel_rfl)) (of_decide_eq_true (by kernel_rfl))).trans f4
      refine ⟨_, ?_, ⟨g, c, rfl, h4⟩⟩
      simp [execOp, e, go_sem]
  intro vals W5 hb5 hF5
  obtain ⟨g5, c5, f5, h5⟩ : raF w3.heap.size s m P (.slice (some ⟨blk, off, none⟩) 75 cap) (.slice (some ⟨blk, off + 6, none⟩) 65 (cap - 6)) 5 (vals 5) W5 := hF5 5 (of_decide_eq_true (by kernel_rfl)) (of_decide_eq_true (by kernel_rfl))
  simp [canon, dstOf, Act.put, f5]
  clear hF5
  go_wp2_with fail
  refine (hsum W5 g5 c5 (h3w.trans (hb5.mono h3w.size)) h5.bytes).mono ?_
  rintro e w4 ⟨rfl, hb4⟩
  replace hb4 := hb5.trans (hb4.mono hb5.size)
  clear hsum hb5 h5
  have h4r := (hb4.block (w.heap.size + 1) (by omega)).trans H3r.out
  have h4f := (hb4.block w2.heap.size (by omega)).trans H3f.out
  have h4w : Below w.heap.size w w4 := h3w.trans (hb4.mono (by omega))
  have b0 := (bcl hb4 (show w2.heap.size < _ by omega)).trans a0
  have b1 := (bcl hb4 (show w2.heap.size < _ by omega)).trans a1
  have b2 := (bcl hb4 (show w2.heap.size < _ by omega)).trans a2
  have d0 := (bcl hb4 (show w.heap.size < _ by omega)).trans e0
  have d1 := (bcl hb4 (show w.heap.size < _ by omega)).trans e1
  have H4r := hide h4r; have H4f := hide h4f
  clear h4r h4f hb4 a0 a1 a2 e0 e1
  cases hsm : summed b s m with
  | false =>
    have HS := hide hsm; clear hsm
    go_wp2_with (refine wpList_store_row rfl 27 (.tmp 6) (.tmp 28) rfl (w.heap.size + 1) fr0 rfl rfl 27 _ H4r.out (fr_info fr0_size) rfl (frv_one _ _ _ _) ?_)
    refine bodyPost_ret (results_row_slot (fn := Try.f17) rfl _ _ (w.heap.size + 1) 27 fr0 (0, 0) rfl (.int .i64 31) rfl ?_ fr0_size) rfl ⟨?_, ?_⟩
    · exact setRow_heap _ _ _ _ _ _ H4r.out
    · have e1 : accE b o s m = 31 := by rw [HE.out, HS.out]; rfl
      rw [show accF b o s m = fr0 by unfold accF; rw [e1]; rfl, e1]
    · exact below_setRow h4w (by omega) _
  | true =>
    have HS := hide hsm; clear hsm
    go_wp2_with (first
      | (refine wpList_load_row rfl 27 (.tmp 8) rfl w2.heap.size rfl 27 F (0, 0) _ H4f.out Try.underlying27 rfl (fr_info HFs.out) ?_)
      | (refine wpList_store_row rfl 27 (.tmp 6) (.tmp 40) rfl (w.heap.size + 1) F rfl rfl 27 _ H4r.out (fr_info HFs.out) (by rw [fr0_size, HFs.out]) HF1.out ?_)
      | (refine wpList_store_row rfl 27 (.tmp 6) (.tmp 39) rfl (w.heap.size + 1) fr0 rfl rfl 27 _ H4r.out (fr_info fr0_size) rfl (frv_one _ _ _ _) ?_))
    all_goals first
      | (have e1 : accE b o s m = 0 := by rw [HE.out, HS.out, HM.out, decide_eq_true (by omega)]; rfl
         refine bodyPost_ret (results_row_slot (fn := Try.f17) rfl _ _ (w.heap.size + 1) 27 F (0, 0) rfl (.int .i64 0) rfl (setRow_heap _ _ _ _ _ _ H4r.out) HFs.out) rfl ⟨?_, below_setRow h4w (by omega) _⟩
         rw [show accF b o s m = F by unfold accF; rw [if_pos e1, HF.out], e1])
      | (have e1 : accE b o s m = 30 := by rw [HE.out, HS.out, HM.out, decide_eq_false (by omega)]; rfl
         refine bodyPost_ret (results_row_slot (fn := Try.f17) rfl _ _ (w.heap.size + 1) 27 fr0 (0, 0) rfl (.int .i64 30) rfl (setRow_heap _ _ _ _ _ _ H4r.out) fr0_size) rfl ⟨?_, below_setRow h4w (by omega) _⟩
         rw [show accF b o s m = fr0 by unfold accF; rw [e1]; rfl, e1])

theorem raccept_any (b : List Nat) (n : Nat) (A : Option Addr) (cap : Nat) (o s m : Int) (w : World) (hn : b.length = n) (hcap : n ≤ cap) (hm : cap ≤ maxLen) (hB : Bytes w A b) (hs : (Lit.int .i64 s).wf = true) (hmm : (Lit.int .u16 m).wf = true) :
    Calls Try.prog 17 #[.slice A n cap, .int .i64 o, .agg #[.int .i64 s, .int .u16 m]] w fun e w' => e = .returned (.tuple #[.agg (accF b o s m), .int .i64 (accE b o s m)]) ∧ Below w.heap.size w w' := by
  cases hi : isFr b with
  | false =>
    have e1 : accE b o s m = 30 := by unfold accE; rw [hi]; rfl
    rw [show accF b o s m = fr0 by unfold accF; rw [e1]; rfl, e1]
    exact racc_no b n A cap o s m w hn hcap hm hB hi
  | true =>
    obtain rfl : n = 75 := by have := (isFr_iff.1 hi).1; omega
    exact racc_yes b A cap o s m w hn hcap hm hB hi hs hmm
end Go.Proofs.Ytihldmcakcobaaa
