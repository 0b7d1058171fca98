/-
  The walk of FrameOwn: what Decode tells of any bytes is accepted by the owner and the state that it tells; what anybody accepts Decode tells just so.
-/
import Derived.Test.YtihldmcakcobaaaAlive
import Derived.Test.YtihldmcakcobaaaFr
namespace Go.Proofs.Ytihldmcakcobaaa
open Go.RowKit
set_option linter.unusedVariables false

theorem dec_ok {b : List Nat} (h : decE b = 0) : isFr b = true ∧ owns b = true := by
  unfold decE at h
  split at h
  · rename_i h1
    split at h
    · rename_i h2; exact ⟨h1, h2⟩
    · cases h
  · cases h
theorem acc_ok {b : List Nat} {o s m : Int} (h : accE b o s m = 0) : isFr b = true ∧ summed b s m = true ∧ ((b.getD 6 0 : Nat) : Int) = o ∧ ((slotB b : Nat) : Int) = s ∧ ((memB b : Nat) : Int) = m := by
  unfold accE at h
  split at h
  · rename_i h1
    split at h
    · rename_i h2
      split at h
      · rename_i h3
        exact ⟨h1, h2, of_decide_eq_true h3⟩
      · cases h
    · cases h
  · cases h
theorem acc_own {b : List Nat} (h : decE b = 0) : accE b (b.getD 6 0 : Nat) (slotB b : Nat) (memB b : Nat) = 0 := by
  obtain ⟨h1, h2⟩ := dec_ok h
  unfold accE
  rw [if_pos h1, if_pos (show summed b (slotB b : Nat) (memB b : Nat) = true from h2), if_pos (show meets b _ _ _ = true from decide_eq_true ⟨rfl, rfl, rfl⟩)]
theorem dec_of_acc {b : List Nat} {o s m : Int} (h : accE b o s m = 0) : decE b = 0 := by
  obtain ⟨h1, h2, h3, h4, h5⟩ := acc_ok h
  unfold decE
  rw [if_pos h1, if_pos (show owns b = true by unfold owns; rw [h4, h5]; exact h2)]
theorem decE_wf (b : List Nat) : decE b = 0 ∨ decE b = 30 ∨ decE b = 31 := by
  unfold decE; split
  · split <;> simp
  · simp
theorem accE_wf (b : List Nat) (o s m : Int) : accE b o s m = 0 ∨ accE b o s m = 30 ∨ accE b o s m = 31 := by
  unfold accE; split
  · split
    · split <;> simp
    · simp
  · simp
theorem payB_len {b : List Nat} (h : isFr b = true) : (payB b).length = 64 := by have := (isFr_iff.1 h).1; simp [payB]; omega
theorem payB_lt {b : List Nat} (h : ∀ c ∈ b, c < 256) : ∀ c ∈ payB b, c < 256 := fun c hc => h c (List.mem_of_mem_drop (List.mem_of_mem_take hc))
theorem decF_size (b : List Nat) : (decF b).size = 67 := by
  unfold decF; split
  · rename_i h; exact frB_size b (dec_ok h).1
  · exact fr0_size
theorem decF_one (b : List Nat) : (decF b).all (·.oneCell') = true := by unfold decF; split <;> exact frv_one _ _ _ _
theorem accF_size (b : List Nat) (o s m : Int) : (accF b o s m).size = 67 := by
  unfold accF; split
  · rename_i h; exact frB_size b (acc_ok h).1
  · exact fr0_size
theorem accF_one (b : List Nat) (o s m : Int) : (accF b o s m).all (·.oneCell') = true := by unfold accF; split <;> exact frv_one _ _ _ _

set_option maxRecDepth 100000 in
set_option maxHeartbeats 2000000 in
theorem own_no (b : List Nat) (n : Nat) (A : Option Addr) (cap : Nat) (o s m : Int) (w : World) (hn : b.length = n) (hcap : n ≤ cap) (hm : cap ≤ maxLen) (hB : Bytes w A b) (hs : (Lit.int .i64 s).wf = true) (hmm : (Lit.int .u16 m).wf = true)
    (h1000 : n ≤ 1000) (hd : decE b ≠ 0) :
    Calls Try.prog 11 #[.slice A n cap, .int .i64 o, .agg #[.int .i64 s, .int .u16 m]] w fun e w' => e = .returned (.bool true) ∧ Below w.heap.size w w' := by
  have hz := (zero_of_info info_fr).1
  have hdec := fun W (h : Below w.heap.size w W) => decode_any b n A cap W hn hcap hm (hB.of_below h (Nat.le_refl _))
  have hacc := fun W (h : Below w.heap.size w W) => accept_any b n A cap o s m W hn hcap hm (hB.of_below h (Nat.le_refl _)) hs hmm
  have hae : accE b o s m ≠ 0 := fun h => hd (dec_of_acc h)
  have S1 := hide (decF_size b); have O1 := hide (decF_one b); have S2 := hide (accF_size b o s m); have O2 := hide (accF_one b o s m)
  have d0 : (decE b == 0) = false := by simpa using hd
  have a0 : (accE b o s m != 0) = true := by simpa using hae
  have a1 : (accE b o s m == 0) = false := by simpa using hae
  have HS := hide fr0_size
  have k0 : (w.alloc (.cells #[.int .i64 s, .int .u16 m] 24)).cell? ⟨w.heap.size, 0, none⟩ = some (.int .i64 s) := by rw [cell_of_row _ _ _ _ _ _ (heap_alloc_new w _)]; rfl
  have k1 : (w.alloc (.cells #[.int .i64 s, .int .u16 m] 24)).cell? ⟨w.heap.size, 1, none⟩ = some (.int .u16 m) := by rw [cell_of_row _ _ _ _ _ _ (heap_alloc_new w _)]; rfl
  have K0 := hide k0; have K1 := hide k1
  have Hn := hide hn; have Hm := hide hm
  clear hn hm hB hs hmm hd hae k0 k1 hcap
  generalize decE b = de at hdec d0
  generalize accE b o s m = ae at hacc a0 a1
  generalize decF b = DF at hdec S1 O1
  generalize accF b o s m = AF at hacc S2 O2
  go_enter Try.func11, Try.ntmps11
  go_wp2_with fail
  refine (alive_any _).mono ?_
  rintro e w1 ⟨rfl, hb1⟩
  have q0 := (bcl hb1 (show w.heap.size < _ by simp)).trans K0.out
  have q1 := (bcl hb1 (show w.heap.size < _ by simp)).trans K1.out
  have hz1 := hb1.size
  simp only [World.size_alloc] at hz1
  have hw1 : Below w.heap.size w w1 := (bal w _).trans (hb1.mono (by simp))
  clear hb1
  go_wp2_with fail
  refine (hdec _ hw1).mono ?_
  rintro e w2 ⟨rfl, hb2⟩
  have r0 := (bcl hb2 (show w.heap.size < _ by omega)).trans q0
  have r1 := (bcl hb2 (show w.heap.size < _ by omega)).trans q1
  have hz2 := hb2.size
  have hw2 : Below w.heap.size w w2 := hw1.trans (hb2.mono (by omega))
  clear hb2 q0 q1 hdec
  go_wp2_with (first
    | (refine wpList_store_row rfl 27 (.tmp 8) (.tmp 26) rfl w2.heap.size DF rfl rfl 27 _ (heap_alloc_new _ _) (fr_info S1.out) (by rw [HS.out, S1.out]) O1.out ?_
       obtain ⟨b3, p3, z3⟩ := new_row w2 DF
       generalize (w2.alloc (.cells fr0 27)).setRow w2.heap.size DF = w3 at b3 p3 z3 ⊢
       have s0 := (bcl b3 (show w.heap.size < _ by omega)).trans r0
       have s1 := (bcl b3 (show w.heap.size < _ by omega)).trans r1
       have hw3 : Below w.heap.size w w3 := hw2.trans (b3.mono (by omega))
       clear b3 p3 r0 r1))
  refine (hacc _ hw3).mono ?_
  rintro e w4 ⟨rfl, hb4⟩
  have hz4 := hb4.size
  have hw4 : Below w.heap.size w w4 := hw3.trans (hb4.mono (by omega))
  clear hb4 s0 s1 hacc
  go_wp2_with (first
    | (refine wpList_store_row rfl 27 (.tmp 12) (.tmp 51) rfl w4.heap.size AF rfl rfl 27 _ (heap_alloc_new _ _) (fr_info S2.out) (by rw [HS.out, S2.out]) O2.out ?_
       obtain ⟨b5, p5, z5⟩ := new_row w4 AF
       generalize (w4.alloc (.cells fr0 27)).setRow w4.heap.size AF = w5 at b5 p5 z5 ⊢
       have hw5 : Below w.heap.size w w5 := hw4.trans (b5.mono (by omega))
       clear b5 p5))
  all_goals
    go_ret
    exact ⟨rfl, hw5⟩

theorem own_long (n : Nat) (A : Option Addr) (cap : Nat) (o s m : Int) (w : World) (h1000 : 1000 < n) :
    Calls Try.prog 11 #[.slice A n cap, .int .i64 o, .agg #[.int .i64 s, .int .u16 m]] w fun e w' => e = .returned (.bool true) ∧ Below w.heap.size w w' := by
  go_enter Try.func11, Try.ntmps11
  go_wp2_with (go_at_call 20; refine (alive_any _).mono ?_; rintro e w1 ⟨rfl, hb1⟩)
  go_ret
  exact ⟨rfl, (bal w _).trans (hb1.mono (by simp))⟩

theorem eq_frB (b : List Nat) (w : World) (h : isFr b = true) (hlt : ∀ c ∈ b, c < 256) : (Op.equalIn 10000 27 (.agg (frB b)) (.agg (frB b))).run Try.prog w = .ok true w := by
  have h1 := eq_fr (b.getD 6 0 : Nat) (slotB b : Nat) (memB b : Nat) (b.getD 6 0 : Nat) (slotB b : Nat) (memB b : Nat) (payB b) (payB b) w (payB_len h) (payB_len h) (payB_lt hlt) (payB_lt hlt)
  rw [decide_eq_true (by simp)] at h1
  exact h1

set_option maxRecDepth 100000 in
set_option maxHeartbeats 4000000 in
theorem own_yes (b : List Nat) (A : Option Addr) (cap : Nat) (o s m : Int) (w : World) (hn : b.length = 75) (hcap : 75 ≤ cap) (hm : cap ≤ maxLen) (hB : Bytes w A b) (hs : (Lit.int .i64 s).wf = true) (hmm : (Lit.int .u16 m).wf = true)
    (hd : decE b = 0) :
    Calls Try.prog 11 #[.slice A 75 cap, .int .i64 o, .agg #[.int .i64 s, .int .u16 m]] w fun e w' => e = .returned (.bool true) ∧ Below w.heap.size w w' := by
  have hz := (zero_of_info info_fr).1
  have hi := (dec_ok hd).1
  obtain ⟨F, hF⟩ : ∃ F, frB b = F := ⟨_, rfl⟩
  have hdec := fun W (h : Below w.heap.size w W) => decode_any b 75 A cap W hn hcap hm (hB.of_below h (Nat.le_refl _))
  have hacc := fun W (h : Below w.heap.size w W) => accept_any b 75 A cap o s m W hn hcap hm (hB.of_below h (Nat.le_refl _)) hs hmm
  have hown := fun W (h : Below w.heap.size w W) => accept_any b 75 A cap (b.getD 6 0 : Nat) (slotB b : Nat) (memB b : Nat) W hn hcap hm (hB.of_below h (Nat.le_refl _)) (slotB_wf b hi) (memB_wf b hB)
  have e1 := acc_own hd
  rw [e1, show accF b (b.getD 6 0 : Nat) (slotB b : Nat) (memB b : Nat) = F by unfold accF; rw [if_pos e1, hF]] at hown
  rw [hd, show decF b = F by unfold decF; rw [if_pos hd, hF]] at hdec
  have heq : ∀ W, (Op.equalIn 10000 27 (.agg F) (.agg F)).run Try.prog W = .ok true W := fun W => by rw [← hF]; exact eq_frB b W hi hB.1
  have heg : Try.prog.eqGuardType Try.prog.depth 27 = false := by kernel_rfl
  have f0 : F[0]? = some (.int .i64 (b.getD 6 0 : Nat)) := by rw [← hF]; exact frv_0 _ _ _ _
  have f1 : F[1]? = some (.int .i64 (slotB b : Nat)) := by rw [← hF]; exact frv_1 _ _ _ _
  have f2 : F[2]? = some (.int .u16 (memB b : Nat)) := by rw [← hF]; exact frv_2 _ _ _ _
  have hFs : F.size = 67 := by rw [← hF]; exact frB_size b hi
  have hF1 : F.all (·.oneCell') = true := by rw [← hF]; exact frv_one _ _ _ _
  have HM : accE b o s m ≠ 0 ∨ (accE b o s m = 0 ∧ accF b o s m = F ∧ ((b.getD 6 0 : Nat) : Int) = o ∧ ((slotB b : Nat) : Int) = s ∧ ((memB b : Nat) : Int) = m) := by
    by_cases h : accE b o s m = 0
    · exact .inr ⟨h, by unfold accF; rw [if_pos h, hF], (acc_ok h).2.2⟩
    · exact .inl h
  have S1 := hide hFs; have O1 := hide hF1; have S2 := hide (accF_size b o s m); have O2 := hide (accF_one b o s m)
  have HS := hide fr0_size
  have k0 : (w.alloc (.cells #[.int .i64 s, .int .u16 m] 24)).cell? ⟨w.heap.size, 0, none⟩ = some (.int .i64 s) := by rw [cell_of_row _ _ _ _ _ _ (heap_alloc_new w _)]; rfl
  have k1 : (w.alloc (.cells #[.int .i64 s, .int .u16 m] 24)).cell? ⟨w.heap.size, 1, none⟩ = some (.int .u16 m) := by rw [cell_of_row _ _ _ _ _ _ (heap_alloc_new w _)]; rfl
  have K0 := hide k0; have K1 := hide k1; have HEQ := hide heq
  have Hn := hide hn; have Hm := hide hm
  clear hn hm hB hs hmm hd k0 k1 hcap hF hFs hF1 e1 hi heq
  generalize accE b o s m = ae at hacc HM
  generalize accF b o s m = AF at hacc S2 O2 HM
  generalize ((slotB b : Nat) : Int) = z at f1 hown HM
  generalize ((memB b : Nat) : Int) = y at f2 hown HM
  generalize ((b.getD 6 0 : Nat) : Int) = x at f0 hown HM
  have HM2 := hide HM; clear HM
  have F0 := hide f0; have F1 := hide f1; have F2 := hide f2
  clear f0 f1 f2
  go_enter Try.func11, Try.ntmps11
  go_wp2_with fail
  refine (alive_any _).mono ?_
  rintro e w1 ⟨rfl, hb1⟩
  have q0 := (bcl hb1 (show w.heap.size < _ by simp)).trans K0.out
  have q1 := (bcl hb1 (show w.heap.size < _ by simp)).trans K1.out
  have hz1 := hb1.size
  simp only [World.size_alloc] at hz1
  have hw1 : Below w.heap.size w w1 := (bal w _).trans (hb1.mono (by simp))
  clear hb1
  go_wp2_with fail
  refine (hdec _ hw1).mono ?_
  rintro e w2 ⟨rfl, hb2⟩
  have r0 := (bcl hb2 (show w.heap.size < _ by omega)).trans q0
  have r1 := (bcl hb2 (show w.heap.size < _ by omega)).trans q1
  have hz2 := hb2.size
  have hw2 : Below w.heap.size w w2 := hw1.trans (hb2.mono (by omega))
  clear hb2 q0 q1 hdec
  go_wp2_with (first
    | (refine wpList_store_row rfl 27 (.tmp 8) (.tmp 26) rfl w2.heap.size F rfl rfl 27 _ (heap_alloc_new _ _) (fr_info S1.out) (by rw [HS.out, S1.out]) O1.out ?_
       obtain ⟨b3, p3, z3⟩ := new_row w2 F
       generalize (w2.alloc (.cells fr0 27)).setRow w2.heap.size F = w3 at b3 p3 z3 ⊢
       have s0 := (bcl b3 (show w.heap.size < _ by omega)).trans r0
       have s1 := (bcl b3 (show w.heap.size < _ by omega)).trans r1
       have c0 : w3.cell? ⟨w2.heap.size, 0, none⟩ = some (.int .i64 x) := by rw [cell_of_row _ _ _ _ _ _ p3]; exact F0.out
       have c1 : w3.cell? ⟨w2.heap.size, 1, none⟩ = some (.int .i64 z) := by rw [cell_of_row _ _ _ _ _ _ p3]; exact F1.out
       have c2 : w3.cell? ⟨w2.heap.size, 2, none⟩ = some (.int .u16 y) := by rw [cell_of_row _ _ _ _ _ _ p3]; exact F2.out
       have P3 := hide p3
       have hw3 : Below w.heap.size w w3 := hw2.trans (b3.mono (by omega))
       clear b3 p3 r0 r1))
  refine (hown _ hw3).mono ?_
  rintro e w4 ⟨rfl, hb4⟩
  have hz4 := hb4.size
  have hw4 : Below w.heap.size w w4 := hw3.trans (hb4.mono (by omega))
  have t0 := (bcl hb4 (show w.heap.size < _ by omega)).trans s0
  have t1 := (bcl hb4 (show w.heap.size < _ by omega)).trans s1
  have P4 := hide ((hb4.block w2.heap.size (by omega)).trans P3.out)
  clear hb4 s0 s1 hown c0 c1 c2
  have hq := HEQ.out
  go_wp2_with (first
    | (refine wpList_store_row rfl 27 (.tmp 10) (.tmp 37) rfl w4.heap.size F rfl rfl 27 _ (heap_alloc_new _ _) (fr_info S1.out) (by rw [HS.out, S1.out]) O1.out ?_
       obtain ⟨b5, p5, z5⟩ := new_row w4 F
       generalize (w4.alloc (.cells fr0 27)).setRow w4.heap.size F = w5 at b5 p5 z5 ⊢
       have hw5 : Below w.heap.size w w5 := hw4.trans (b5.mono (by omega))
       have u0 := (bcl b5 (show w.heap.size < _ by omega)).trans t0
       have u1 := (bcl b5 (show w.heap.size < _ by omega)).trans t1
       have P5 := hide ((b5.block w2.heap.size (by omega)).trans P4.out)
       have Q5 := hide p5
       clear b5 p5 t0 t1)
    | (refine wpList_load_g rfl (.tmp 10) rfl w4.heap.size rfl F Q5.out S1.out ?_)
    | (refine wpList_load_g rfl (.tmp 8) rfl w2.heap.size rfl F P5.out S1.out ?_))
  refine (hacc _ hw5).mono ?_
  rintro e w6 ⟨rfl, hb6⟩
  have hz6 := hb6.size
  have hw6 : Below w.heap.size w w6 := hw5.trans (hb6.mono (by omega))
  have v0 := (bcl hb6 (show w.heap.size < _ by omega)).trans u0
  have v1 := (bcl hb6 (show w.heap.size < _ by omega)).trans u1
  have P6 := hide ((hb6.block w2.heap.size (by omega)).trans P5.out)
  clear hb6 u0 u1 hacc
  rcases HM2.out with hae | ⟨rfl, rfl, rfl, rfl, rfl⟩
  · have a0 : (ae != 0) = true := by simpa using hae
    have a1 : (ae == 0) = false := by simpa using hae
    clear hae
    go_wp2_with (first
      | (refine wpList_store_row rfl 27 (.tmp 12) (.tmp 51) rfl w6.heap.size AF rfl rfl 27 _ (heap_alloc_new _ _) (fr_info S2.out) (by rw [HS.out, S2.out]) O2.out ?_
         obtain ⟨b7, p7, z7⟩ := new_row w6 AF
         generalize (w6.alloc (.cells fr0 27)).setRow w6.heap.size AF = w7 at b7 p7 z7 ⊢
         have hw7 : Below w.heap.size w w7 := hw6.trans (b7.mono (by omega))
         clear b7 p7))
    go_ret
    exact ⟨rfl, hw7⟩
  · go_wp2_with (first
      | (refine wpList_store_row rfl 27 (.tmp 12) (.tmp 51) rfl w6.heap.size AF rfl rfl 27 _ (heap_alloc_new _ _) (fr_info S1.out) (by rw [HS.out, S1.out]) O1.out ?_
         obtain ⟨b7, p7, z7⟩ := new_row w6 AF
         generalize (w6.alloc (.cells fr0 27)).setRow w6.heap.size AF = w7 at b7 p7 z7 ⊢
         have hw7 : Below w.heap.size w w7 := hw6.trans (b7.mono (by omega))
         have x0 := (bcl b7 (show w.heap.size < _ by omega)).trans v0
         have x1 := (bcl b7 (show w.heap.size < _ by omega)).trans v1
         have P7 := hide ((b7.block w2.heap.size (by omega)).trans P6.out)
         have Q7 := hide p7
         have c0 : w7.cell? ⟨w6.heap.size, 0, none⟩ = some (.int .i64 x) := by rw [cell_of_row _ _ _ _ _ _ p7]; exact F0.out
         have c1 : w7.cell? ⟨w6.heap.size, 1, none⟩ = some (.int .i64 z) := by rw [cell_of_row _ _ _ _ _ _ p7]; exact F1.out
         have c2 : w7.cell? ⟨w6.heap.size, 2, none⟩ = some (.int .u16 y) := by rw [cell_of_row _ _ _ _ _ _ p7]; exact F2.out
         clear b7 p7 v0 v1)
      | (refine wpList_load_g rfl (.tmp 12) rfl w6.heap.size rfl AF Q7.out S1.out ?_)
      | (refine wpList_load_g rfl (.tmp 8) rfl w2.heap.size rfl AF P7.out S1.out ?_))
    go_ret
    exact ⟨rfl, hw7⟩

theorem own_any (b : List Nat) (n : Nat) (A : Option Addr) (cap : Nat) (o s m : Int) (w : World) (hn : b.length = n) (hcap : n ≤ cap) (hm : cap ≤ maxLen) (hB : Bytes w A b) (hs : (Lit.int .i64 s).wf = true) (hmm : (Lit.int .u16 m).wf = true) :
    Calls Try.prog 11 #[.slice A n cap, .int .i64 o, .agg #[.int .i64 s, .int .u16 m]] w fun e w' => e = .returned (.bool true) ∧ Below w.heap.size w w' := by
  by_cases h1 : 1000 < n
  · exact own_long n A cap o s m w h1
  · by_cases hd : decE b = 0
    · obtain rfl : n = 75 := by have := (isFr_iff.1 (dec_ok hd).1).1; omega
      exact own_yes b A cap o s m w hn hcap hm hB hs hmm hd
    · exact own_no b n A cap o s m w hn hcap hm hB hs hmm (by omega) hd
end Go.Proofs.Ytihldmcakcobaaa
