/-
  The chapter's first examples: alive() answers true in each memory.
-/
import Derived.Test.YtihldmcakcobaaaStr
namespace Go.Proofs.Ytihldmcakcobaaa
open Go.RowKit
set_option linter.unusedVariables false

def f0 : Array Value := frv 3 258 5 zeros64
def eb : List Nat := enc 3 258 5 zeros64
theorem eb_len : eb.length = 75 := by decide +kernel
theorem eb_lt : ∀ c ∈ eb, c < 256 := by decide +kernel
theorem eb_1 : accE eb 3 258 5 = 0 := by decide +kernel
theorem eb_2 : accE eb 2 258 5 = 30 := by decide +kernel
theorem eb_3 : accE eb 3 259 5 = 31 := by decide +kernel
theorem eb_4 : payB eb = zeros64 := by decide +kernel
theorem eb_5 : slotB eb = 258 ∧ memB eb = 5 ∧ eb.getD 6 0 = 3 := by decide +kernel
theorem eb_6 : eb.take 7 = [0, 0, 1, 2, 0, 5, 3] := by decide +kernel
theorem acc_1 : accF eb 3 258 5 = f0 := by
  unfold accF
  rw [if_pos eb_1, frB, eb_4, eb_5.1, eb_5.2.1, eb_5.2.2]; rfl
theorem acc_2 : accF eb 2 258 5 = fr0 := by unfold accF; rw [eb_2]; rfl
theorem acc_3 : accF eb 3 259 5 = fr0 := by unfold accF; rw [eb_3]; rfl
theorem str_7 : (str [0, 0, 1, 2, 0, 5, 3]).toList = [0, 0, 1, 2, 0, 5, 3] := by rw [str_list]; rfl

set_option maxRecDepth 100000 in
set_option maxHeartbeats 2000000 in
theorem alive_any (w : World) :
    Calls Try.prog 20 #[] w fun e w' => e = .returned (.bool true) ∧ Below w.heap.size w w' := by
  have hz := (zero_of_info info_fr).1
  have hF : f0.size = 67 := frv_size _ _ _ _
  have HF := hide hF; have H1 := hide (show f0.all (·.oneCell') = true from frv_one _ _ _ _)
  have HS := hide fr0_size; have H10 := hide (show fr0.all (·.oneCell') = true from frv_one _ _ _ _)
  have henc : ∀ W, Calls Try.prog 13 #[.agg f0] W fun e w' => ∃ g, e = .returned (.tuple #[.slice (some ⟨g, 0, none⟩) 75 75, .int .i64 0]) ∧ Buf w' g 75 eb ∧ W.heap.size ≤ g ∧ Below W.heap.size W w' :=
    fun W => enc_ok 3 258 5 zeros64 W (by decide) (by decide) (by decide) (by decide) (by decide) (by decide)
  have ha1 : ∀ W g, Buf W g 75 eb → Calls Try.prog 15 #[.slice (some ⟨g, 0, none⟩) 75 75, .int .i64 3, .agg #[.int .i64 258, .int .u16 5]] W fun e w' => e = .returned (.tuple #[.agg f0, .int .i64 0]) ∧ Below W.heap.size W w' := by
    intro W g h
    have h1 := accept_any eb 75 _ 75 3 258 5 W eb_len (by omega) (by unfold maxLen; omega) (h.bytes (by rw [eb_len]; omega) eb_lt) (by decide) (by decide)
    rw [acc_1, eb_1] at h1; exact h1
  have ha2 : ∀ W g, Buf W g 75 eb → Calls Try.prog 15 #[.slice (some ⟨g, 0, none⟩) 75 75, .int .i64 2, .agg #[.int .i64 258, .int .u16 5]] W fun e w' => e = .returned (.tuple #[.agg fr0, .int .i64 30]) ∧ Below W.heap.size W w' := by
    intro W g h
    have h1 := accept_any eb 75 _ 75 2 258 5 W eb_len (by omega) (by unfold maxLen; omega) (h.bytes (by rw [eb_len]; omega) eb_lt) (by decide) (by decide)
    rw [acc_2, eb_2] at h1; exact h1
  have ha3 : ∀ W g, Buf W g 75 eb → Calls Try.prog 15 #[.slice (some ⟨g, 0, none⟩) 75 75, .int .i64 3, .agg #[.int .i64 259, .int .u16 5]] W fun e w' => e = .returned (.tuple #[.agg fr0, .int .i64 31]) ∧ Below W.heap.size W w' := by
    intro W g h
    have h1 := accept_any eb 75 _ 75 3 259 5 W eb_len (by omega) (by unfold maxLen; omega) (h.bytes (by rw [eb_len]; omega) eb_lt) (by decide) (by decide)
    rw [acc_3, eb_3] at h1; exact h1
  have heq : ∀ W, (Op.equalIn 10000 27 (.agg f0) (.agg f0)).run Try.prog W = .ok true W := by
    intro W
    have h := eq_fr 3 258 5 3 258 5 zeros64 zeros64 W (by decide) (by decide) (by decide) (by decide)
    exact h
  have heg : Try.prog.eqGuardType Try.prog.depth 27 = false := by kernel_rfl
  have hst : ∀ W g, Buf W g 75 eb → (convert 28 9 (.slice (some ⟨g, 0, none⟩) 7 75)).run Try.prog W = .ok (.string (str [0, 0, 1, 2, 0, 5, 3])) W := by
    intro W g h
    have h1 := str_of W (some ⟨g, 0, none⟩) 7 75 (eb.take 7) ((h.bytes (by rw [eb_len]; omega) eb_lt).take 7) (by rw [List.length_take, eb_len]; rfl)
    rw [eb_6] at h1; exact h1
  have f1 : f0[1]? = some (.int .i64 258) := frv_1 _ _ _ _
  have f2 : f0[2]? = some (.int .u16 5) := frv_2 _ _ _ _
  have F1 := hide f1; have F2 := hide f2; have HEQ := hide heq; have HST := hide hst
  clear hF f1 f2 heq hst
  go_enter Try.func20, Try.ntmps20
  go_wp2_with (first
    | (refine wpList_store_row rfl 27 (.tmp 1) (.tmp 11) rfl w.heap.size f0 rfl rfl 27 _ (heap_alloc_new _ _) (fr_info HF.out) (by rw [HS.out, HF.out]) H1.out ?_
       obtain ⟨b1, r1, z1⟩ := new_row w f0
       generalize (w.alloc (.cells fr0 27)).setRow w.heap.size f0 = w1 at b1 r1 z1 ⊢
       have R1 := hide r1; clear r1)
    | (refine wpList_load_row rfl 27 (.tmp 1) rfl w.heap.size rfl 27 f0 (0, 0) _ R1.out Try.underlying27 rfl (fr_info HF.out) ?_))
  refine (henc _).mono ?_
  rintro e w2 ⟨g, rfl, hbuf, hg, hb2⟩
  clear henc
  have hrow2 := (hb2.block w.heap.size (by omega)).trans R1.out
  have c1 : w2.cell? ⟨w.heap.size, 1, none⟩ = some (.int .i64 258) := by rw [cell_of_row _ _ _ _ _ _ hrow2]; exact F1.out
  have c2 : w2.cell? ⟨w.heap.size, 2, none⟩ = some (.int .u16 5) := by rw [cell_of_row _ _ _ _ _ _ hrow2]; exact F2.out
  have hw2 : Below w.heap.size w w2 := b1.trans (hb2.mono (by omega))
  have R2 := hide hrow2; have BUF2 := hide hbuf
  have hgs := hbuf.1
  clear hrow2 hbuf hb2 b1
  go_wp2_with fail
  refine (ha1 _ _ BUF2.out).mono ?_
  rintro e w3 ⟨rfl, hb3⟩
  have d1 := (bcl hb3 (show w.heap.size < _ by omega)).trans c1
  have d2 := (bcl hb3 (show w.heap.size < _ by omega)).trans c2
  have R3 := hide ((hb3.block w.heap.size (by omega)).trans R2.out)
  have BUF3 := hide (BUF2.out.of_block (hb3.block g hgs))
  have hz3 := hb3.size
  have hw3 : Below w.heap.size w w3 := hw2.trans (hb3.mono (by omega))
  clear hb3 c1 c2 ha1
  go_wp2_with (first
    | (refine wpList_store_row rfl 27 (.tmp 4) (.tmp 22) rfl w3.heap.size f0 rfl rfl 27 _ (heap_alloc_new _ _) (fr_info HF.out) (by rw [HS.out, HF.out]) H1.out ?_
       obtain ⟨b4, r4, z4⟩ := new_row w3 f0
       generalize (w3.alloc (.cells fr0 27)).setRow w3.heap.size f0 = w4 at b4 r4 z4 ⊢
       have e1 := (bcl b4 (show w.heap.size < _ by omega)).trans d1
       have e2 := (bcl b4 (show w.heap.size < _ by omega)).trans d2
       have R4 := hide ((b4.block w.heap.size (by omega)).trans R3.out)
       have Q4 := hide r4
       have BUF4 := hide (BUF3.out.of_block (b4.block g (by omega)))
       have hw4 : Below w.heap.size w w4 := hw3.trans (b4.mono (by omega))
       clear b4 r4 d1 d2))
  refine (ha2 _ _ BUF4.out).mono ?_
  rintro e w5 ⟨rfl, hb5⟩
  have R5 := hide ((hb5.block w.heap.size (by omega)).trans R4.out)
  have Q5 := hide ((hb5.block w3.heap.size (by omega)).trans Q4.out)
  have BUF5 := hide (BUF4.out.of_block (hb5.block g (by omega)))
  have hz5 := hb5.size
  have hw5 : Below w.heap.size w w5 := hw4.trans (hb5.mono (by omega))
  clear hb5 e1 e2 ha2
  go_wp2_with (first
    | (refine wpList_store_row rfl 27 (.tmp 6) (.tmp 29) rfl w5.heap.size fr0 rfl rfl 27 _ (heap_alloc_new _ _) (fr_info HS.out) rfl H10.out ?_
       obtain ⟨b6, r6, z6⟩ := new_row w5 fr0
       generalize (w5.alloc (.cells fr0 27)).setRow w5.heap.size fr0 = w6 at b6 r6 z6 ⊢
       have R6 := hide ((b6.block w.heap.size (by omega)).trans R5.out)
       have Q6 := hide ((b6.block w3.heap.size (by omega)).trans Q5.out)
       have BUF6 := hide (BUF5.out.of_block (b6.block g (by omega)))
       have hw6 : Below w.heap.size w w6 := hw5.trans (b6.mono (by omega))
       clear b6 r6))
  refine (ha3 _ _ BUF6.out).mono ?_
  rintro e w7 ⟨rfl, hb7⟩
  have R7 := hide ((hb7.block w.heap.size (by omega)).trans R6.out)
  have Q7 := hide ((hb7.block w3.heap.size (by omega)).trans Q6.out)
  have BUF7 := hide (BUF6.out.of_block (hb7.block g (by omega)))
  have hz7 := hb7.size
  have hw7 : Below w.heap.size w w7 := hw6.trans (hb7.mono (by omega))
  clear hb7 ha3
  have hq := HEQ.out
  have hs7 := str_7
  go_wp2_with (first
    | (refine wpList_store_row rfl 27 (.tmp 8) (.tmp 35) rfl w7.heap.size fr0 rfl rfl 27 _ (heap_alloc_new _ _) (fr_info HS.out) rfl H10.out ?_
       obtain ⟨b8, r8, z8⟩ := new_row w7 fr0
       generalize (w7.alloc (.cells fr0 27)).setRow w7.heap.size fr0 = w8 at b8 r8 z8 ⊢
       have R8 := hide ((b8.block w.heap.size (by omega)).trans R7.out)
       have Q8 := hide ((b8.block w3.heap.size (by omega)).trans Q7.out)
       have st8 := HST.out w8 g (BUF7.out.of_block (b8.block g (by omega)))
       have hw8 : Below w.heap.size w w8 := hw7.trans (b8.mono (by omega))
       clear b8 r8)
    | (refine wpList_load_g rfl (.tmp 4) rfl w3.heap.size rfl f0 Q8.out HF.out ?_)
    | (refine wpList_load_g rfl (.tmp 1) rfl w.heap.size rfl f0 R8.out HF.out ?_))
  go_ret
  exact ⟨rfl, hw8⟩
end Go.Proofs.Ytihldmcakcobaaa
