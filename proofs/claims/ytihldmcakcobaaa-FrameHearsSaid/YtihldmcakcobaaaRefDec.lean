/-
  The document's own Decode.
-/
import Derived.Test.YtihldmcakcobaaaTold
import Derived.Test.YtihldmcakcobaaaDecode
import Derived.Test.YtihldmcakcobaaaSealed
import Derived.Test.YtihldmcakcobaaaOwn
namespace Go.Proofs.Ytihldmcakcobaaa
open Go.RowKit
set_option linter.unusedVariables false

theorem take_six {b : List Nat} (hb : b.length = 75) : b.take 6 = [b.getD 0 0, b.getD 1 0, b.getD 2 0, b.getD 3 0, b.getD 4 0, b.getD 5 0] := by
  refine ext_getD (by rw [List.length_take, hb]; rfl) fun t ht => ?_
  rw [List.length_take] at ht
  rw [List.getD_eq_getElem?_getD, List.getElem?_take_of_lt (by omega), ← List.getD_eq_getElem?_getD]
  rcases t with _ | _ | _ | _ | _ | _ | t
  · rfl
  · rfl
  · rfl
  · rfl
  · rfl
  · rfl
  · omega
theorem st_take (b : List Nat) (hi : isFr b = true) (hb : ∀ c ∈ b, c < 256) : st (slotB b : Nat) (memB b : Nat) = b.take 6 := by
  rw [take_six (isFr_iff.1 hi).1]
  have h0 := getD_lt hb 0; have h1 := getD_lt hb 1; have h2 := getD_lt hb 2; have h3 := getD_lt hb 3; have h4 := getD_lt hb 4; have h5 := getD_lt hb 5
  unfold st slotB memB
  simp only [List.cons.injEq, and_true]
  omega
theorem owns_take (b : List Nat) (hi : isFr b = true) (hb : ∀ c ∈ b, c < 256) : decide (SumMath.four (SumMath.more 0 (b.take 71)) = b.drop 71) = owns b := by
  unfold owns summed
  rw [st_take b hi hb, SumMath.more_append (b.take 6) _ (fun c hc => hb c (List.mem_of_mem_take hc)), show b.take 6 ++ (b.drop 6).take 65 = b.take 71 by rw [← List.take_add]]

set_option maxRecDepth 100000 in
set_option maxHeartbeats 1000000 in
theorem rdec_no (b : List Nat) (n : Nat) (A : Option Addr) (cap : Nat) (w : World) (hn : b.length = n) (hcap : n ≤ cap) (hm : cap ≤ maxLen) (hB : Bytes w A b) (hi : isFr b = false) :
    Calls Try.prog 16 #[.slice A n cap] w fun e w' => e = .returned (.tuple #[.agg fr0, .int .i64 30]) ∧ Below w.heap.size w w' := by
  have hz := (zero_of_info info_fr).1
  have hcall := rtold_any b n A cap _ hn hcap hm (hB.of_below (bal w (.cells fr0 27)) (Nat.le_refl _))
  rw [show frOf b = fr0 by unfold frOf; rw [hi]; rfl, hi] at hcall
  have H0 := hide (heap_alloc_new w (.cells fr0 27))
  clear hB hn hi hcap
  go_enter Try.func16, Try.ntmps16
  go_wp2_with fail
  refine hcall.mono ?_
  rintro e w2 ⟨rfl, hb2⟩
  clear hcall
  have h2r : w2.heap[w.heap.size]? = some (.cells fr0 27 (0, 0)) := (hb2.block _ (by simp)).trans H0.out
  have h2z := hb2.size
  simp only [World.size_alloc] at h2z
  have h2w : Below w.heap.size w w2 := (bal w _).trans (hb2.mono (by simp))
  have hrow := hide (heap_alloc_new w2 (.cells fr0 27))
  clear hb2
  go_wp2_with (first
    | (refine wpList_store_row rfl 27 (.tmp 4) (.tmp 9) rfl w2.heap.size fr0 rfl rfl 27 _ hrow.out (fr_info fr0_size) rfl (frv_one _ _ _ _) ?_
       obtain ⟨w3, hw3⟩ : ∃ w3, (w2.alloc (.cells fr0 27)).setRow w2.heap.size fr0 = w3 := ⟨_, rfl⟩
       have h3r : w3.heap[w.heap.size]? = some (.cells fr0 27 (0, 0)) := by
         rw [← hw3, setRow_other _ _ _ _ (by omega)]
         exact (heap_alloc_old w2 _ (by omega)).trans h2r
       have h3w : Below w.heap.size w w3 := by rw [← hw3]; exact below_setRow (h2w.alloc (by omega) _) (by omega) _
       rw [hw3]
       have H3r := hide h3r
       clear hw3 h3r h2r)
    | (refine wpList_store_row rfl 27 (.tmp 2) (.tmp 13) rfl w.heap.size fr0 rfl rfl 27 _ H3r.out (fr_info fr0_size) rfl (frv_one _ _ _ _) ?_))
  refine bodyPost_ret (results_row_slot (fn := Try.f16) rfl _ _ w.heap.size 27 fr0 (0, 0) rfl (.int .i64 30) rfl ?_ fr0_size) rfl ⟨rfl, ?_⟩
  · exact setRow_heap _ _ _ _ _ _ H3r.out
  · exact below_setRow h3w (Nat.le_refl _) _

set_option maxRecDepth 100000 in
set_option maxHeartbeats 1000000 in
theorem rdec_yes (b : List Nat) (A : Option Addr) (cap : Nat) (w : World) (hn : b.length = 75) (hcap : 75 ≤ cap) (hm : cap ≤ maxLen) (hB : Bytes w A b) (hi : isFr b = true) :
    Calls Try.prog 16 #[.slice A 75 cap] w fun e w' => e = .returned (.tuple #[.agg (decF b), .int .i64 (decE b)]) ∧ Below w.heap.size w w' := by
  have hz := (zero_of_info info_fr).1
  obtain ⟨blk, off, rfl, _, _⟩ := hB.at (k := 0) (by omega)
  have hcall := rtold_any b 75 (some ⟨blk, off, none⟩) cap _ hn hcap hm (hB.of_below (bal w (.cells fr0 27)) (Nat.le_refl _))
  obtain ⟨F, hF⟩ : ∃ F, frB b = F := ⟨_, rfl⟩
  have hFs : F.size = 67 := by rw [← hF]; exact frB_size b hi
  have hF1 : F.all (·.oneCell') = true := by rw [← hF]; exact frv_one _ _ _ _
  have f1 : F[1]? = some (.int .i64 (slotB b : Nat)) := by rw [← hF]; exact frv_1 _ _ _ _
  have f2 : F[2]? = some (.int .u16 (memB b : Nat)) := by rw [← hF]; exact frv_2 _ _ _ _
  rw [show frOf b = F by unfold frOf; rw [if_pos hi, hF], hi] at hcall
  have H0 := hide (heap_alloc_new w (.cells fr0 27))
  have htake : (b.take 71).length = 71 := by rw [List.length_take]; omega
  have hsum : ∀ W, Below w.heap.size w W → Calls Try.prog 30 #[.slice (some ⟨blk, off, none⟩) 75 cap, .slice (some ⟨blk, off, none⟩) 71 cap] W fun e w' => e = .returned (.bool (owns b)) ∧ Below W.heap.size W w' :=
    fun W hW => (sealed_at b (b.take 71) (some ⟨blk, off, none⟩) (some ⟨blk, off, none⟩) cap 71 cap W hn hcap hm (hB.of_below hW (Nat.le_refl _)) htake (by omega) ((hB.of_below hW (Nat.le_refl _)).take 71)).mono fun e w' h => by
      obtain ⟨rfl, rfl⟩ := h
      exact ⟨by rw [owns_take b hi hB.1], Below.refl _ _⟩
  have hE : decE b = if owns b then 0 else 31 := by unfold decE; rw [if_pos hi]
  have HF := hide hF; have HFs := hide hFs; have HF1 := hide hF1; have HE := hide hE; have Hm := hide hm
  clear hB hn hi hF hFs hF1 hE htake
  generalize slotB b = z at f1
  generalize memB b = m at f2
  cases ho : owns b with
  | false =>
    rw [ho] at hsum
    have HO := hide ho; clear ho
    go_enter Try.func16, Try.ntmps16
    go_wp2_with fail
    refine hcall.mono ?_
    rintro e w2 ⟨rfl, hb2⟩
    clear hcall
    have h2r : w2.heap[w.heap.size]? = some (.cells fr0 27 (0, 0)) := (hb2.block _ (by simp)).trans H0.out
    have h2z := hb2.size
    simp only [World.size_alloc] at h2z
    have h2w : Below w.heap.size w w2 := (bal w _).trans (hb2.mono (by simp))
    have hrow := hide (heap_alloc_new w2 (.cells fr0 27))
    clear hb2
    go_wp2_with (first
      | (refine wpList_store_row rfl 27 (.tmp 4) (.tmp 9) rfl w2.heap.size F rfl rfl 27 _ hrow.out (fr_info HFs.out) (by rw [fr0_size, HFs.out]) HF1.out ?_
         obtain ⟨w3, hw3⟩ : ∃ w3, (w2.alloc (.cells fr0 27)).setRow w2.heap.size F = w3 := ⟨_, rfl⟩
         have h3r : w3.heap[w.heap.size]? = some (.cells fr0 27 (0, 0)) := by
           rw [← hw3, setRow_other _ _ _ _ (by omega)]
           exact (heap_alloc_old w2 _ (by omega)).trans h2r
         have h3f : w3.heap[w2.heap.size]? = some (.cells F 27 (0, 0)) := by rw [← hw3]; exact setRow_heap _ _ _ _ _ _ hrow.out
         have h3w : Below w.heap.size w w3 := by rw [← hw3]; exact below_setRow (h2w.alloc (by omega) _) (by omega) _
         have h3z : w3.heap.size = w2.heap.size + 1 := by rw [← hw3]; simp
         have c1 : w3.cell? ⟨w2.heap.size, 1, none⟩ = some (.int .i64 (z : Int)) := by rw [cell_of_row _ _ _ _ _ _ h3f]; exact f1
         have c2 : w3.cell? ⟨w2.heap.size, 2, none⟩ = some (.int .u16 (m : Int)) := by rw [cell_of_row _ _ _ _ _ _ h3f]; exact f2
         rw [hw3]
         have H3r := hide h3r; have H3f := hide h3f
         clear hw3 h3r h2r h3f f1 f2))
    refine (hsum _ h3w).mono ?_
    rintro e w4 ⟨rfl, hb4⟩
    clear hsum
    have h4r := (hb4.block w.heap.size (by omega)).trans H3r.out
    have h4f := (hb4.block w2.heap.size (by omega)).trans H3f.out
    have h4w : Below w.heap.size w w4 := h3w.trans (hb4.mono (by omega))
    have H4r := hide h4r; have H4f := hide h4f
    clear h4r h4f hb4 c1 c2
    go_wp2_with (refine wpList_store_row rfl 27 (.tmp 2) (.tmp 19) rfl w.heap.size fr0 rfl rfl 27 _ H4r.out (fr_info fr0_size) rfl (frv_one _ _ _ _) ?_)
    refine bodyPost_ret (results_row_slot (fn := Try.f16) rfl _ _ w.heap.size 27 fr0 (0, 0) rfl (.int .i64 31) rfl ?_ fr0_size) rfl ⟨?_, ?_⟩
    · exact setRow_heap _ _ _ _ _ _ H4r.out
    · have e1 : decE b = 31 := by rw [HE.out, HO.out]; rfl
      rw [show decF b = fr0 by unfold decF; rw [e1]; rfl, e1]
    · exact below_setRow h4w (Nat.le_refl _) _
  | true =>
    rw [ho] at hsum
    have HO := hide ho; clear ho
    go_enter Try.func16, Try.ntmps16
    go_wp2_with fail
    refine hcall.mono ?_
    rintro e w2 ⟨rfl, hb2⟩
    clear hcall
    have h2r : w2.heap[w.heap.size]? = some (.cells fr0 27 (0, 0)) := (hb2.block _ (by simp)).trans H0.out
    have h2z := hb2.size
    simp only [World.size_alloc] at h2z
    have h2w : Below w.heap.size w w2 := (bal w _).trans (hb2.mono (by simp))
    have hrow := hide (heap_alloc_new w2 (.cells fr0 27))
    clear hb2
    go_wp2_with (first
      | (refine wpList_store_row rfl 27 (.tmp 4) (.tmp 9) rfl w2.heap.size F rfl rfl 27 _ hrow.out (fr_info HFs.out) (by rw [fr0_size, HFs.out]) HF1.out ?_
         obtain ⟨w3, hw3⟩ : ∃ w3, (w2.alloc (.cells fr0 27)).setRow w2.heap.size F = w3 := ⟨_, rfl⟩
         have h3r : w3.heap[w.heap.size]? = some (.cells fr0 27 (0, 0)) := by
           rw [← hw3, setRow_other _ _ _ _ (by omega)]
           exact (heap_alloc_old w2 _ (by omega)).trans h2r
         have h3f : w3.heap[w2.heap.size]? = some (.cells F 27 (0, 0)) := by rw [← hw3]; exact setRow_heap _ _ _ _ _ _ hrow.out
         have h3w : Below w.heap.size w w3 := by rw [← hw3]; exact below_setRow (h2w.alloc (by omega) _) (by omega) _
         have h3z : w3.heap.size = w2.heap.size + 1 := by rw [← hw3]; simp
         have c1 : w3.cell? ⟨w2.heap.size, 1, none⟩ = some (.int .i64 (z : Int)) := by rw [cell_of_row _ _ _ _ _ _ h3f]; exact f1
         have c2 : w3.cell? ⟨w2.heap.size, 2, none⟩ = some (.int .u16 (m : Int)) := by rw [cell_of_row _ _ _ _ _ _ h3f]; exact f2
         rw [hw3]
         have H3r := hide h3r; have H3f := hide h3f
         clear hw3 h3r h2r h3f f1 f2))
    refine (hsum _ h3w).mono ?_
    rintro e w4 ⟨rfl, hb4⟩
    clear hsum
    have h4r := (hb4.block w.heap.size (by omega)).trans H3r.out
    have h4f := (hb4.block w2.heap.size (by omega)).trans H3f.out
    have h4w : Below w.heap.size w w4 := h3w.trans (hb4.mono (by omega))
    have H4r := hide h4r; have H4f := hide h4f
    clear h4r h4f hb4 c1 c2
    go_wp2_with (first
      | (refine wpList_load_row rfl 27 (.tmp 4) rfl w2.heap.size rfl 27 F (0, 0) _ H4f.out Try.underlying27 rfl (fr_info HFs.out) ?_)
      | (refine wpList_store_row rfl 27 (.tmp 2) (.tmp 20) rfl w.heap.size F rfl rfl 27 _ H4r.out (fr_info HFs.out) (by rw [fr0_size, HFs.out]) HF1.out ?_))
    refine bodyPost_ret (results_row_slot (fn := Try.f16) rfl _ _ w.heap.size 27 F (0, 0) rfl (.int .i64 0) rfl ?_ HFs.out) rfl ⟨?_, ?_⟩
    · exact setRow_heap _ _ _ _ _ _ H4r.out
    · have e1 : decE b = 0 := by rw [HE.out, HO.out]; rfl
      rw [show decF b = F by unfold decF; rw [if_pos e1, HF.out], e1]
    · exact below_setRow h4w (Nat.le_refl _) _

theorem rdecode_any (b : List Nat) (n : Nat) (A : Option Addr) (cap : Nat) (w : World) (hn : b.length = n) (hcap : n ≤ cap) (hm : cap ≤ maxLen) (hB : Bytes w A b) :
    Calls Try.prog 16 #[.slice A n cap] w fun e w' => e = .returned (.tuple #[.agg (decF b), .int .i64 (decE b)]) ∧ Below w.heap.size w w' := by
  cases hi : isFr b with
  | false =>
    have e1 : decE b = 30 := by unfold decE; rw [hi]; rfl
    rw [show decF b = fr0 by unfold decF; rw [e1]; rfl, e1]
    exact rdec_no b n A cap w hn hcap hm hB hi
  | true =>
    obtain rfl : n = 75 := by have := (isFr_iff.1 hi).1; omega
    exact rdec_yes b A cap w hn hcap hm hB hi
end Go.Proofs.Ytihldmcakcobaaa
