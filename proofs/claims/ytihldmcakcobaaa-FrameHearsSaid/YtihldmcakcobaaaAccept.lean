/-
  What Accept answers of any bytes, owner and state.
-/
import Derived.Test.YtihldmcakcobaaaDecode
namespace Go.Proofs.Ytihldmcakcobaaa
open Go.RowKit
set_option linter.unusedVariables false

/-- Accept's error, and its frame -/
def meets (b : List Nat) (o s m : Int) : Bool := decide (((b.getD 6 0 : Nat) : Int) = o ∧ ((slotB b : Nat) : Int) = s ∧ ((memB b : Nat) : Int) = m)
def accE (b : List Nat) (o s m : Int) : Int := if isFr b then (if summed b s m then (if meets b o s m then 0 else 30) else 31) else 30
def accF (b : List Nat) (o s m : Int) : Array Value := if accE b o s m = 0 then frB b else fr0

set_option maxRecDepth 100000 in
set_option maxHeartbeats 1000000 in
theorem acc_no (b : List Nat) (n : Nat) (A : Option Addr) (cap : Nat) (o s m : Int) (w : World) (hn : b.length = n) (hcap : n ≤ cap) (hm : cap ≤ maxLen) (hB : Bytes w A b) (hi : isFr b = false) :
    Calls Try.prog 15 #[.slice A n cap, .int .i64 o, .agg #[.int .i64 s, .int .u16 m]] w fun e w' => e = .returned (.tuple #[.agg fr0, .int .i64 30]) ∧ Below w.heap.size w w' := by
  have hz := (zero_of_info info_fr).1
  have hb1 : Below w.heap.size w ((w.alloc (.cells #[.int .i64 s, .int .u16 m] 24)).alloc (.cells fr0 27)) := (bal w _).alloc (by simp) _
  have hcall := read_any b n A cap _ hn hcap hm (hB.of_below hb1 (Nat.le_refl _))
  rw [show frOf b = fr0 by unfold frOf; rw [hi]; rfl, hi] at hcall
  have H0 := hide (heap_alloc2_new w (.cells #[.int .i64 s, .int .u16 m] 24) (.cells fr0 27))
  clear hB hn hi hcap
  go_enter Try.func15, Try.ntmps15
  go_wp2_with fail
  refine hcall.mono ?_
  rintro e w2 ⟨rfl, hb2⟩
  clear hcall
  have h2r : w2.heap[w.heap.size + 1]? = some (.cells fr0 27 (0, 0)) := (hb2.block _ (by simp)).trans H0.out
  have h2z := hb2.size
  simp only [World.size_alloc] at h2z
  have h2w : Below w.heap.size w w2 := hb1.trans (hb2.mono (by simp; omega))
  have hrow := hide (heap_alloc_new w2 (.cells fr0 27))
  clear hb2 hb1
  go_wp2_with (first
    | (refine wpList_store_row rfl 27 (.tmp 8) (.tmp 13) rfl w2.heap.size fr0 rfl rfl 27 _ hrow.out (fr_info fr0_size) rfl (frv_one _ _ _ _) ?_
       obtain ⟨w3, hw3⟩ : ∃ w3, (w2.alloc (.cells fr0 27)).setRow w2.heap.size fr0 = w3 := ⟨_, rfl⟩
       have h3r : w3.heap[w.heap.size + 1]? = some (.cells fr0 27 (0, 0)) := by
         rw [← hw3, setRow_other _ _ _ _ (by omega)]
         exact (heap_alloc_old w2 _ (by omega)).trans h2r
       have h3w : Below w.heap.size w w3 := by rw [← hw3]; exact below_setRow (h2w.alloc (by omega) _) (by omega) _
       rw [hw3]
       have H3r := hide h3r
       clear hw3 h3r h2r)
    | (refine wpList_store_row rfl 27 (.tmp 6) (.tmp 18) rfl (w.heap.size + 1) fr0 rfl rfl 27 _ H3r.out (fr_info fr0_size) rfl (frv_one _ _ _ _) ?_))
  refine bodyPost_ret (results_row_slot (fn := Try.f15) rfl _ _ (w.heap.size + 1) 27 fr0 (0, 0) rfl (.int .i64 30) rfl ?_ fr0_size) rfl ⟨rfl, ?_⟩
  · exact setRow_heap _ _ _ _ _ _ H3r.out
  · exact below_setRow h3w (by omega) _

set_option maxRecDepth 100000 in
set_option maxHeartbeats 2000000 in
theorem acc_yes (b : List Nat) (A : Option Addr) (cap : Nat) (o s m : Int) (w : World) (hn : b.length = 75) (hcap : 75 ≤ cap) (hm : cap ≤ maxLen) (hB : Bytes w A b) (hi : isFr b = true) (hs : (Lit.int .i64 s).wf = true) (hmm : (Lit.int .u16 m).wf = true) :
    Calls Try.prog 15 #[.slice A 75 cap, .int .i64 o, .agg #[.int .i64 s, .int .u16 m]] w fun e w' => e = .returned (.tuple #[.agg (accF b o s m), .int .i64 (accE b o s m)]) ∧ Below w.heap.size w w' := by
  have hz := (zero_of_info info_fr).1
  have hb1 : Below w.heap.size w ((w.alloc (.cells #[.int .i64 s, .int .u16 m] 24)).alloc (.cells fr0 27)) := (bal w _).alloc (by simp) _
  have hcall := read_any b 75 A cap _ hn hcap hm (hB.of_below hb1 (Nat.le_refl _))
  obtain ⟨F, hF⟩ : ∃ F, frB b = F := ⟨_, rfl⟩
  have hFs : F.size = 67 := by rw [← hF]; exact frB_size b hi
  have hF1 : F.all (·.oneCell') = true := by rw [← hF]; exact frv_one _ _ _ _
  have f0 : F[0]? = some (.int .i64 (b.getD 6 0 : Nat)) := by rw [← hF]; exact frv_0 _ _ _ _
  have f1 : F[1]? = some (.int .i64 (slotB b : Nat)) := by rw [← hF]; exact frv_1 _ _ _ _
  have f2 : F[2]? = some (.int .u16 (memB b : Nat)) := by rw [← hF]; exact frv_2 _ _ _ _
  rw [show frOf b = F by unfold frOf; rw [if_pos hi, hF], hi] at hcall
  have H0 := hide (heap_alloc2_new w (.cells #[.int .i64 s, .int .u16 m] 24) (.cells fr0 27))
  have k0 : ((w.alloc (.cells #[.int .i64 s, .int .u16 m] 24)).alloc (.cells fr0 27)).cell? ⟨w.heap.size, 0, none⟩ = some (.int .i64 s) := by
    rw [bcl (bal _ _) (by simp), cell_of_row _ _ _ _ _ _ (heap_alloc_new w _)]; rfl
  have k1 : ((w.alloc (.cells #[.int .i64 s, .int .u16 m] 24)).alloc (.cells fr0 27)).cell? ⟨w.heap.size, 1, none⟩ = some (.int .u16 m) := by
    rw [bcl (bal _ _) (by simp), cell_of_row _ _ _ _ _ _ (heap_alloc_new w _)]; rfl
  have hsum : ∀ W, Below w.heap.size w W → Calls Try.prog 28 #[.slice A 75 cap, .agg #[.int .i64 s, .int .u16 m]] W fun e w' => e = .returned (.bool (summed b s m)) ∧ Below W.heap.size W w' :=
    fun W hW => summed_any b A cap _ _ W hn hcap hm (hB.of_below hW (Nat.le_refl _)) hs hmm
  have hE : accE b o s m = if summed b s m then (if meets b o s m then 0 else 30) else 31 := by unfold accE; rw [if_pos hi]
  have hM : meets b o s m = decide (((b.getD 6 0 : Nat) : Int) = o ∧ ((slotB b : Nat) : Int) = s ∧ ((memB b : Nat) : Int) = m) := rfl
  have HF := hide hF; have HFs := hide hFs; have HF1 := hide hF1; have HE := hide hE; have Hm := hide hm; have K0 := hide k0; have K1 := hide k1
  clear hB hn hi hcap hF hFs hF1 hE hm hs hmm k0 k1
  generalize ((slotB b : Nat) : Int) = z at f1 hM
  generalize ((memB b : Nat) : Int) = y at f2 hM
  generalize ((b.getD 6 0 : Nat) : Int) = x at f0 hM
  have HM := hide hM; clear hM
  go_enter Try.func15, Try.ntmps15
  go_wp2_with fail
  refine hcall.mono ?_
  rintro e w2 ⟨rfl, hb2⟩
  clear hcall
  have h2r : w2.heap[w.heap.size + 1]? = some (.cells fr0 27 (0, 0)) := (hb2.block _ (by simp)).trans H0.out
  have g0 := (bcl hb2 (show w.heap.size < _ by simp; omega)).trans K0.out
  have g1 := (bcl hb2 (show w.heap.size < _ by simp; omega)).trans K1.out
  have h2z := hb2.size
  simp only [World.size_alloc] at h2z
  have h2w : Below w.heap.size w w2 := hb1.trans (hb2.mono (by simp; omega))
  have hrow := hide (heap_alloc_new w2 (.cells fr0 27))
  clear hb2 hb1
  go_wp2_with (first
      | (refine wpList_store_row rfl 27 (.tmp 8) (.tmp 13) rfl w2.heap.size F rfl rfl 27 _ hrow.out (fr_info HFs.out) (by rw [fr0_size, HFs.out]) HF1.out ?_
         obtain ⟨w3, hw3⟩ : ∃ w3, (w2.alloc (.cells fr0 27)).setRow w2.heap.size F = w3 := ⟨_, rfl⟩
         have h3r : w3.heap[w.heap.size + 1]? = some (.cells fr0 27 (0, 0)) := by
           rw [← hw3, setRow_other _ _ _ _ (by omega)]
           exact (heap_alloc_old w2 _ (by omega)).trans h2r
         have h3f : w3.heap[w2.heap.size]? = some (.cells F 27 (0, 0)) := by rw [← hw3]; exact setRow_heap _ _ _ _ _ _ hrow.out
         have h3w : Below w.heap.size w w3 := by rw [← hw3]; exact below_setRow (h2w.alloc (by omega) _) (by omega) _
         have h3b : Below w2.heap.size w2 w3 := by rw [← hw3]; exact below_setRow (bal w2 _) (Nat.le_refl _) _
         have h3z : w3.heap.size = w2.heap.size + 1 := by rw [← hw3]; simp
         have a0 : w3.cell? ⟨w2.heap.size, 0, none⟩ = some (.int .i64 x) := by rw [cell_of_row _ _ _ _ _ _ h3f]; exact f0
         have a1 : w3.cell? ⟨w2.heap.size, 1, none⟩ = some (.int .i64 z) := by rw [cell_of_row _ _ _ _ _ _ h3f]; exact f1
         have a2 : w3.cell? ⟨w2.heap.size, 2, none⟩ = some (.int .u16 y) := by rw [cell_of_row _ _ _ _ _ _ h3f]; exact f2
         have e0 := (bcl h3b (show w.heap.size < _ by omega)).trans g0
         have e1 := (bcl h3b (show w.heap.size < _ by omega)).trans g1
         rw [hw3]
         have H3r := hide h3r; have H3f := hide h3f
         clear hw3 h3r h2r h3f f0 f1 f2 g0 g1 h3b))
  refine (hsum _ h3w).mono ?_
  rintro e w4 ⟨rfl, hb4⟩
  clear hsum
  have h4r := (hb4.block (w.heap.size + 1) (by omega)).trans H3r.out
  have h4f := (hb4.block w2.heap.size (by omega)).trans H3f.out
  have h4w : Below w.heap.size w w4 := h3w.trans (hb4.mono (by omega))
  have b0 := (bcl hb4 (show w2.heap.size < _ by omega)).trans a0
  have b1 := (bcl hb4 (show w2.heap.size < _ by omega)).trans a1
  have b2 := (bcl hb4 (show w2.heap.size < _ by omega)).trans a2
  have d0 := (bcl hb4 (show w.heap.size < _ by omega)).trans e0
  have d1 := (bcl hb4 (show w.heap.size < _ by omega)).trans e1
  have H4r := hide h4r; have H4f := hide h4f
  clear h4r h4f hb4 a0 a1 a2 e0 e1
  cases hsm : summed b s m with
  | false =>
    have HS := hide hsm; clear hsm
    go_wp2_with (refine wpList_store_row rfl 27 (.tmp 6) (.tmp 24) rfl (w.heap.size + 1) fr0 rfl rfl 27 _ H4r.out (fr_info fr0_size) rfl (frv_one _ _ _ _) ?_)
    refine bodyPost_ret (results_row_slot (fn := Try.f15) rfl _ _ (w.heap.size + 1) 27 fr0 (0, 0) rfl (.int .i64 31) rfl ?_ fr0_size) rfl ⟨?_, ?_⟩
    · exact setRow_heap _ _ _ _ _ _ H4r.out
    · have e1 : accE b o s m = 31 := by rw [HE.out, HS.out]; rfl
      rw [show accF b o s m = fr0 by unfold accF; rw [e1]; rfl, e1]
    · exact below_setRow h4w (by omega) _
  | true =>
    have HS := hide hsm; clear hsm
    go_wp2_with (first
      | (refine wpList_load_row rfl 27 (.tmp 8) rfl w2.heap.size rfl 27 F (0, 0) _ H4f.out Try.underlying27 rfl (fr_info HFs.out) ?_)
      | (refine wpList_store_row rfl 27 (.tmp 6) (.tmp 37) rfl (w.heap.size + 1) F rfl rfl 27 _ H4r.out (fr_info HFs.out) (by rw [fr0_size, HFs.out]) HF1.out ?_)
      | (refine wpList_store_row rfl 27 (.tmp 6) (.tmp 36) rfl (w.heap.size + 1) fr0 rfl rfl 27 _ H4r.out (fr_info fr0_size) rfl (frv_one _ _ _ _) ?_))
    all_goals first
      | (have e1 : accE b o s m = 0 := by rw [HE.out, HS.out, HM.out, decide_eq_true (by omega)]; rfl
         refine bodyPost_ret (results_row_slot (fn := Try.f15) rfl _ _ (w.heap.size + 1) 27 F (0, 0) rfl (.int .i64 0) rfl (setRow_heap _ _ _ _ _ _ H4r.out) HFs.out) rfl ⟨?_, below_setRow h4w (by omega) _⟩
         rw [show accF b o s m = F by unfold accF; rw [if_pos e1, HF.out], e1])
      | (have e1 : accE b o s m = 30 := by rw [HE.out, HS.out, HM.out, decide_eq_false (by omega)]; rfl
         refine bodyPost_ret (results_row_slot (fn := Try.f15) rfl _ _ (w.heap.size + 1) 27 fr0 (0, 0) rfl (.int .i64 30) rfl (setRow_heap _ _ _ _ _ _ H4r.out) fr0_size) rfl ⟨?_, below_setRow h4w (by omega) _⟩
         rw [show accF b o s m = fr0 by unfold accF; rw [e1]; rfl, e1])

theorem accept_any (b : List Nat) (n : Nat) (A : Option Addr) (cap : Nat) (o s m : Int) (w : World) (hn : b.length = n) (hcap : n ≤ cap) (hm : cap ≤ maxLen) (hB : Bytes w A b) (hs : (Lit.int .i64 s).wf = true) (hmm : (Lit.int .u16 m).wf = true) :
    Calls Try.prog 15 #[.slice A n cap, .int .i64 o, .agg #[.int .i64 s, .int .u16 m]] w fun e w' => e = .returned (.tuple #[.agg (accF b o s m), .int .i64 (accE b o s m)]) ∧ Below w.heap.size w w' := by
  cases hi : isFr b with
  | false =>
    have e1 : accE b o s m = 30 := by unfold accE; rw [hi]; rfl
    rw [show accF b o s m = fr0 by unfold accF; rw [e1]; rfl, e1]
    exact acc_no b n A cap o s m w hn hcap hm hB hi
  | true =>
    obtain rfl : n = 75 := by have := (isFr_iff.1 hi).1; omega
    exact acc_yes b A cap o s m w hn hcap hm hB hi hs hmm
end Go.Proofs.Ytihldmcakcobaaa
