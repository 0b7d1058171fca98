/-
  The walk of FrameNames: the examples of the chapter.
-/
import Derived.Test.YtecmpkbpngnpbaaBack
import Derived.Test.YtecmpkbpngnpbaaCorrupt
import Derived.ArgAppend
namespace Go.Proofs.Ytecmpkbpngnpbaa
open Go.RowKit
set_option linter.unusedVariables false

/-- one byte more behind a full slice -/
theorem wpList_more {ops : Array Oper} {rest : List Oper} {o : Oper} {a : Act} {Q : Exit → Act → World → Prop} (w : World) (hgd : o.guard = none) (s x : Operand)
    (ho : o.op = .call { callee := .builtin .append, args := #[s, x], argTypes := #[28, 28] })
    (g : Nat) (l : List Nat) (hl : l.length = 75) (hs : a.eval s = .slice (some ⟨g, 0, none⟩) 75 75) (hB : Bytes w (some ⟨g, 0, none⟩) l)
    (g2 c : Nat) (hx : a.eval x = .slice (some ⟨g2, 0, none⟩) 1 c) (hc : w.cell? ⟨g2, 0, none⟩ = some (.int .u8 0))
    (h : ∀ A c' w', 76 ≤ c' → c' ≤ maxLen → Bytes w' A (l ++ [0]) → Below w.heap.size w w' → wpList Try.prog ops Q rest (a.put o.dst (.slice A 76 c')) w') :
    wpList Try.prog ops Q (o :: rest) a w := by
  obtain ⟨i, hi, hz, hs1, hb⟩ := info_parts info_u8
  refine wpList_append_grows w hgd s x _ ho 5 i (.int .u8 0) 1 1 Try.underlying28 hi hz hs1 hb rfl (by omega) (some ⟨g, 0, none⟩) 75 75 (l.map fun u : Nat => Value.int .u8 (u : Int)) hs (fun h => by cases h) (by simp; exact hl) ?_
    ⟨g2, 0, none⟩ 1 c [.int .u8 0] hx rfl ?_ ?_ (by omega) (by simp only [maxLen]; omega) (by omega) ?_
  · intro b hb' j u hu
    injection hb' with hb'
    subst hb'
    rw [List.getElem?_map] at hu
    obtain ⟨e, he, rfl⟩ := Option.map_eq_some_iff.1 hu
    have hj : j < l.length := by
      rcases Nat.lt_or_ge j l.length with h1 | h1
      · exact h1
      · rw [List.getElem?_eq_none h1] at he; cases he
    obtain ⟨b, off, h1, _, hcc⟩ := hB.at hj
    injection h1 with h1
    injection h1 with h1 h1'
    subst h1 h1'
    have h2 := hcc j hj
    rw [List.getD_eq_getElem?_getD, he] at h2
    rw [show (⟨g, 0, none⟩ : Addr).add j = ⟨g, 0 + j, none⟩ by unfold Addr.add; split <;> simp_all]
    exact h2
  · intro j u hu
    rcases j with _ | j
    · injection hu with hu
      subst hu
      exact hc
    · cases hu
  · intro u hu
    rw [List.mem_singleton.1 hu]
    rfl
  · intro v' w' hown' hgrow
    have hbel : Below w.heap.size w w' := (Below.refl _ _).grown hgrow (Nat.le_refl _) (by intro r hr; cases hr)
    rcases hown'.2 with ⟨rfl, h0⟩ | ⟨g', cap, cur, rfl, hgg, hheap, hncap, hcapm, hcs, htake⟩
    · exact absurd h0 (by omega)
    · refine h _ cap w' hncap hcapm ⟨?_, .inr ⟨g', 0, rfl, ?_, ?_⟩⟩ hbel
      · intro c hc'
        rcases List.mem_append.1 hc' with h1 | h1
        · exact hB.1 c h1
        · rw [List.mem_singleton.1 h1]; omega
      · rcases Nat.lt_or_ge g' w'.heap.size with h1 | h1
        · exact h1
        · rw [Array.getElem?_eq_none h1] at hheap; cases hheap
      · intro j hj
        rw [List.length_append, hl] at hj
        rw [Nat.zero_add, hown'.cellAt j (by simp at hj; omega)]
        rw [show (l.map (fun u : Nat => Value.int .u8 (u : Int)) ++ [Value.int .u8 0]) = (l ++ [0]).map (fun u : Nat => Value.int .u8 (u : Int)) by simp]
        rw [List.getElem?_map, List.getD_eq_getElem?_getD, List.getElem?_eq_getElem (by simp; simp at hj; omega)]
        rfl

def n1 : Array Value := frv 16 0 0 zeros64
def n2 : Array Value := frv 0 (-1) 0 zeros64
def n3 : Array Value := frv 0 2147483648 0 zeros64
def n4 : Array Value := frv 15 2147483647 65535 zeros64
def en : List Nat := enc 15 2147483647 65535 zeros64
theorem en_len : en.length = 75 := by decide +kernel
theorem en_lt : ∀ c ∈ en, c < 256 := by decide +kernel
theorem en_74 : decE (en.take 74) = 30 := by decide +kernel
theorem en_76 : decE (en ++ [0]) = 30 := by decide +kernel
theorem en_0 : decE [] = 30 := by decide +kernel
theorem en_1 : decE en = 0 := by decide +kernel
theorem en_2 : accE en 15 (-2147483649) 65535 = 30 := by decide +kernel
theorem en_4 : payB en = zeros64 := by decide +kernel
theorem en_5 : slotB en = 2147483647 ∧ memB en = 65535 ∧ en.getD 6 0 = 15 := by decide +kernel
theorem decF_no {b : List Nat} (h : decE b = 30) : decF b = fr0 := by unfold decF; rw [h]; rfl
theorem en_f : decF en = n4 := by
  unfold decF
  rw [if_pos en_1, frB, en_4, en_5.1, en_5.2.1, en_5.2.2]; rfl
theorem en_f2 : accF en 15 (-2147483649) 65535 = fr0 := by unfold accF; rw [en_2]; rfl
theorem cc_1 : corr [0, 0] 4 17 = [16, 1] := by decide +kernel
theorem cc_2 : corr [0, 0] (-1) 3 = [1, 0] := by decide +kernel
theorem str_c : (str [16, 1]).toList = [16, 1] := by rw [str_list]; rfl
theorem str_d : (str [1, 0]).toList = [1, 0] := by rw [str_list]; rfl
theorem two_bytes (W : World) : Bytes (W.alloc (.cells #[.int .u8 0, .int .u8 0] 5)) (some ⟨W.heap.size, 0, none⟩) [0, 0] := by
  refine ⟨by intro c hc; simp at hc; omega, .inr ⟨W.heap.size, 0, rfl, by simp, fun j hj => ?_⟩⟩
  rw [cell_of_row _ _ _ _ _ _ (heap_alloc_new W _)]
  have hj2 : j < 2 := hj
  rcases (show j = 0 ∨ j = 1 by omega) with rfl | rfl <;> rfl
theorem mine_two {base : Nat} {W : World} {A : Option Addr} {l : List Nat} {f : Nat → Nat} (h : Mine base W A 2 f) (hf : f = fun t => l.getD t 0) (hl : l.length = 2) (hlt : ∀ c ∈ l, c < 256) : ∃ g, A = some ⟨g, 0, none⟩ ∧ g < W.heap.size ∧ base ≤ g ∧ Buf W g 2 l := by
  rcases h with h | ⟨g, h1, h2, h3⟩
  · omega
  · subst hf
    exact ⟨g, h1, h3.1, h2, h3⟩

set_option maxRecDepth 100000 in
set_option maxHeartbeats 4000000 in
theorem names_any (w : World) :
    Calls Try.prog 6 #[] w fun e w' => e = .returned (.bool true) ∧ Below w.heap.size w w' := by
  have hz := (zero_of_info info_fr).1
  have N4 := hide (show n4.size = 67 from frv_size _ _ _ _); have O4 := hide (show n4.all (·.oneCell') = true from frv_one _ _ _ _)
  have HS := hide fr0_size; have H10 := hide (show fr0.all (·.oneCell') = true from frv_one _ _ _ _)
  have he1 : ∀ W, Calls Try.prog 13 #[.agg n1] W fun e w' => e = .returned (.tuple #[.slice none 0 0, .int .i64 2]) ∧ Below W.heap.size W w' :=
    fun W => enc_no 16 0 0 zeros64 W (by decide) (by decide) (by decide) (by omega)
  have he2 : ∀ W, Calls Try.prog 13 #[.agg n2] W fun e w' => e = .returned (.tuple #[.slice none 0 0, .int .i64 2]) ∧ Below W.heap.size W w' :=
    fun W => enc_no 0 (-1) 0 zeros64 W (by decide) (by decide) (by decide) (by omega)
  have he3 : ∀ W, Calls Try.prog 13 #[.agg n3] W fun e w' => e = .returned (.tuple #[.slice none 0 0, .int .i64 2]) ∧ Below W.heap.size W w' :=
    fun W => enc_no 0 2147483648 0 zeros64 W (by decide) (by decide) (by decide) (by omega)
  have he4 : ∀ W, Calls Try.prog 13 #[.agg n4] W fun e w' => ∃ g, e = .returned (.tuple #[.slice (some ⟨g, 0, none⟩) 75 75, .int .i64 0]) ∧ Buf w' g 75 en ∧ W.heap.size ≤ g ∧ Below W.heap.size W w' :=
    fun W => enc_ok 15 2147483647 65535 zeros64 W (by decide) (by decide) (by decide) (by decide) (by decide) (by decide)
  have hd5 : ∀ W g, Buf W g 75 en → Calls Try.prog 14 #[.slice (some ⟨g, 0, none⟩) 74 75] W fun e w' => e = .returned (.tuple #[.agg fr0, .int .i64 30]) ∧ Below W.heap.size W w' := by
    intro W g h
    have h1 := decode_any (en.take 74) 74 (some ⟨g, 0, none⟩) 75 W (by rw [List.length_take, en_len]; rfl) (by omega) (by unfold maxLen; omega) ((h.bytes (by rw [en_len]; omega) en_lt).take 74)
    rw [decF_no en_74, en_74] at h1; exact h1
  have hd6 : ∀ W A c, 76 ≤ c → c ≤ maxLen → Bytes W A (en ++ [0]) → Calls Try.prog 14 #[.slice A 76 c] W fun e w' => e = .returned (.tuple #[.agg fr0, .int .i64 30]) ∧ Below W.heap.size W w' := by
    intro W A c h1 h2 h
    have h1 := decode_any (en ++ [0]) 76 A c W (by rw [List.length_append, en_len]; rfl) h1 h2 h
    rw [decF_no en_76, en_76] at h1; exact h1
  have hd7 : ∀ W, Calls Try.prog 14 #[.slice none 0 0] W fun e w' => e = .returned (.tuple #[.agg fr0, .int .i64 30]) ∧ Below W.heap.size W w' := by
    intro W
    have h1 := decode_any [] 0 none 0 W rfl (by omega) (by unfold maxLen; omega) ⟨by simp, .inl rfl⟩
    rw [decF_no en_0, en_0] at h1; exact h1
  have hc1 : ∀ W B, Bytes W (some ⟨B, 0, none⟩) [0, 0] → Calls Try.prog 19 #[.slice (some ⟨B, 0, none⟩) 2 2, .int .i64 4, .int .u32 17] W fun e w' => ∃ g c, e = .returned (.slice (some ⟨g, 0, none⟩) 2 c) ∧ g < w'.heap.size ∧ Buf w' g 2 [16, 1] ∧ Below W.heap.size W w' := by
    intro W B h
    refine (corr_any [0, 0] 2 ⟨B, 0, none⟩ 2 4 17 W rfl (by omega) h (by decide) (by omega)).mono ?_
    rintro e w' ⟨A, c, rfl, _, _, hM, hb⟩
    rw [cc_1] at hM
    obtain ⟨g, rfl, hg, _, hB⟩ := mine_two hM rfl rfl (by decide)
    exact ⟨g, c, rfl, hg, hB, hb⟩
  have hc2 : ∀ W B, Bytes W (some ⟨B, 0, none⟩) [0, 0] → Calls Try.prog 19 #[.slice (some ⟨B, 0, none⟩) 2 2, .int .i64 (-1), .int .u32 3] W fun e w' => ∃ g c, e = .returned (.slice (some ⟨g, 0, none⟩) 2 c) ∧ g < w'.heap.size ∧ Buf w' g 2 [1, 0] ∧ Below W.heap.size W w' := by
    intro W B h
    refine (corr_any [0, 0] 2 ⟨B, 0, none⟩ 2 (-1) 3 W rfl (by omega) h (by decide) (by omega)).mono ?_
    rintro e w' ⟨A, c, rfl, _, _, hM, hb⟩
    rw [cc_2] at hM
    obtain ⟨g, rfl, hg, _, hB⟩ := mine_two hM rfl rfl (by decide)
    exact ⟨g, c, rfl, hg, hB, hb⟩
  have hd8 : ∀ W g, Buf W g 75 en → Calls Try.prog 14 #[.slice (some ⟨g, 0, none⟩) 75 75] W fun e w' => e = .returned (.tuple #[.agg n4, .int .i64 0]) ∧ Below W.heap.size W w' := by
    intro W g h
    have h1 := decode_any en 75 (some ⟨g, 0, none⟩) 75 W en_len (by omega) (by unfold maxLen; omega) (h.bytes (by rw [en_len]; omega) en_lt)
    rw [en_f, en_1] at h1; exact h1
  have ha9 : ∀ W g, Buf W g 75 en → Calls Try.prog 15 #[.slice (some ⟨g, 0, none⟩) 75 75, .int .i64 15, .agg #[.int .i64 (-2147483649), .int .u16 65535]] W fun e w' => e = .returned (.tuple #[.agg fr0, .int .i64 30]) ∧ Below W.heap.size W w' := by
    intro W g h
    have h1 := accept_any en 75 (some ⟨g, 0, none⟩) 75 15 (-2147483649) 65535 W en_len (by omega) (by unfold maxLen; omega) (h.bytes (by rw [en_len]; omega) en_lt) (by decide) (by decide)
    rw [en_f2, en_2] at h1; exact h1
  have hst : ∀ W g c l, l.length = 2 → (∀ x ∈ l, x < 256) → Buf W g 2 l → (convert 28 9 (.slice (some ⟨g, 0, none⟩) 2 c)).run Try.prog W = .ok (.string (str l)) W :=
    fun W g c l h1 h2 h => str_of W (some ⟨g, 0, none⟩) 2 c l (h.bytes (by omega) h2) h1
  have HST := hide hst
  clear hst
  go_enter Try.func6, Try.ntmps6
  go_wp2_with (first
    | (refine wpList_built rfl 27 _ rfl n1 (by kernel_rfl) ?_))
  refine (he1 _).mono ?_
  rintro e w1 ⟨rfl, hb1⟩
  have hw1 : Below w.heap.size w w1 := hb1
  clear hb1 he1
  go_wp2_with (first
    | (refine wpList_built rfl 27 _ rfl n2 (by kernel_rfl) ?_))
  refine (he2 _).mono ?_
  rintro e w2 ⟨rfl, hb2⟩
  have hw2 : Below w.heap.size w w2 := hw1.trans (hb2.mono hw1.size)
  clear hb2 he2
  go_wp2_with (first
    | (refine wpList_built rfl 27 _ rfl n3 (by kernel_rfl) ?_))
  refine (he3 _).mono ?_
  rintro e w3 ⟨rfl, hb3⟩
  have hw3 : Below w.heap.size w w3 := hw2.trans (hb3.mono hw2.size)
  clear hb3 he3
  go_wp2_with (first
    | (refine wpList_built rfl 27 _ rfl n4 (by kernel_rfl) ?_))
  refine (he4 _).mono ?_
  rintro e w4 ⟨g, rfl, hbuf, hg, hb4⟩
  have hw4 : Below w.heap.size w w4 := hw3.trans (hb4.mono hw3.size)
  have hg0 : w.heap.size ≤ g := Nat.le_trans hw3.size hg
  have hgs := hbuf.1
  have BUF4 := hide hbuf
  clear hbuf hb4 he4 hg hw1 hw2 hw3
  go_wp2_with fail
  refine (hd5 _ _ BUF4.out).mono ?_
  rintro e w5 ⟨rfl, hb5⟩
  have BUF5 := hide (BUF4.out.of_block (hb5.block g hgs))
  have hz5 := hb5.size
  have hw5 : Below w.heap.size w w5 := hw4.trans (hb5.mono hw4.size)
  clear hb5 hd5 hw4
  go_wp2_with (first
    | (refine wpList_store_row rfl 27 (.tmp 9) (.tmp 51) rfl w5.heap.size fr0 rfl rfl 27 _ (heap_alloc_new _ _) (fr_info HS.out) rfl H10.out ?_
       obtain ⟨b6, r6, z6⟩ := new_row w5 fr0
       generalize (w5.alloc (.cells fr0 27)).setRow w5.heap.size fr0 = w6 at b6 r6 z6 ⊢
       have hz6 : w5.heap.size + 1 ≤ w6.heap.size := Nat.le_of_eq z6.symm
       have BUF6 := hide (BUF5.out.of_block (b6.block g (by omega)))
       have hw6 : Below w.heap.size w w6 := hw5.trans (b6.mono hw5.size)
       clear b6 r6 z6)
    | (refine wpList_more _ rfl (.tmp 54) (.tmp 55) rfl g en en_len rfl ((BUF6.out.bytes (by rw [en_len]; omega) en_lt).of_below (bal w6 _) (by omega)) w6.heap.size 1 rfl (by rw [cell_of_row _ _ _ _ _ _ (heap_alloc_new _ _)]; rfl) ?_
       intro A7 c7 w7 hc7 hm7 hB7 hb7
       have BY7 := hide hB7
       have hb67 : Below w6.heap.size w6 w7 := (bal w6 _).trans (hb7.mono (by simp))
       have BUF7 := hide (BUF6.out.of_block (hb67.block g (by omega)))
       have hz7 := hb67.size
       have hw7 : Below w.heap.size w w7 := hw6.trans (hb67.mono hw6.size)
       clear hB7 hb7 hb67))
  refine (hd6 _ _ _ hc7 hm7 BY7.out).mono ?_
  rintro e w8 ⟨rfl, hb8⟩
  have BUF8 := hide (BUF7.out.of_block (hb8.block g (by omega)))
  have hz8 := hb8.size
  have hw8 : Below w.heap.size w w8 := hw7.trans (hb8.mono hw7.size)
  clear hb8 hd6 BY7
  go_wp2_with (first
    | (refine wpList_store_row rfl 27 (.tmp 11) (.tmp 58) rfl w8.heap.size fr0 rfl rfl 27 _ (heap_alloc_new _ _) (fr_info HS.out) rfl H10.out ?_
       obtain ⟨b9, r9, z9⟩ := new_row w8 fr0
       generalize (w8.alloc (.cells fr0 27)).setRow w8.heap.size fr0 = w9 at b9 r9 z9 ⊢
       have hz9 : w8.heap.size + 1 ≤ w9.heap.size := Nat.le_of_eq z9.symm
       have BUF9 := hide (BUF8.out.of_block (b9.block g (by omega)))
       have hw9 : Below w.heap.size w w9 := hw8.trans (b9.mono hw8.size)
       clear b9 r9 z9))
  refine (hd7 _).mono ?_
  rintro e w10 ⟨rfl, hb10⟩
  have BUF10 := hide (BUF9.out.of_block (hb10.block g (by omega)))
  have hz10 := hb10.size
  have hw10 : Below w.heap.size w w10 := hw9.trans (hb10.mono hw9.size)
  clear hb10 hd7
  go_wp2_with (first
    | (refine wpList_store_row rfl 27 (.tmp 13) (.tmp 62) rfl w10.heap.size fr0 rfl rfl 27 _ (heap_alloc_new _ _) (fr_info HS.out) rfl H10.out ?_
       obtain ⟨b11, r11, z11⟩ := new_row w10 fr0
       generalize (w10.alloc (.cells fr0 27)).setRow w10.heap.size fr0 = w11 at b11 r11 z11 ⊢
       have hz11 : w10.heap.size + 1 ≤ w11.heap.size := Nat.le_of_eq z11.symm
       have BUF11 := hide (BUF10.out.of_block (b11.block g (by omega)))
       have hw11 : Below w.heap.size w w11 := hw10.trans (b11.mono hw10.size)
       clear b11 r11 z11))
  refine (hc1 _ _ (two_bytes w11)).mono ?_
  rintro e w12 ⟨gc, cc, rfl, hgc, hbc, hb12⟩
  have hb12' : Below w11.heap.size w11 w12 := (bal w11 _).trans (hb12.mono (by simp))
  have BUF12 := hide (BUF11.out.of_block (hb12'.block g (by omega)))
  have C12 := hide hbc
  have hz12 := hb12'.size
  have hw12 : Below w.heap.size w w12 := hw11.trans (hb12'.mono hw11.size)
  clear hb12 hb12' hbc hc1
  go_wp2_with fail
  refine (hc2 _ _ (two_bytes w12)).mono ?_
  rintro e w13 ⟨gd, cd, rfl, hgd, hbd, hb13⟩
  have hb13' : Below w12.heap.size w12 w13 := (bal w12 _).trans (hb13.mono (by simp))
  have BUF13 := hide (BUF12.out.of_block (hb13'.block g (by omega)))
  have C13 := hide (C12.out.of_block (hb13'.block gc (by omega)))
  have D13 := hide hbd
  have hz13 := hb13'.size
  have hw13 : Below w.heap.size w w13 := hw12.trans (hb13'.mono hw12.size)
  clear hb13 hb13' hbd hc2
  go_wp2_with fail
  refine (hd8 _ _ BUF13.out).mono ?_
  rintro e w14 ⟨rfl, hb14⟩
  have BUF14 := hide (BUF13.out.of_block (hb14.block g (by omega)))
  have C14 := hide (C13.out.of_block (hb14.block gc (by omega)))
  have D14 := hide (D13.out.of_block (hb14.block gd (by omega)))
  have hz14 := hb14.size
  have hw14 : Below w.heap.size w w14 := hw13.trans (hb14.mono hw13.size)
  clear hb14 hd8
  go_wp2_with (first
    | (refine wpList_store_row rfl 27 (.tmp 17) (.tmp 71) rfl w14.heap.size n4 rfl rfl 27 _ (heap_alloc_new _ _) (fr_info N4.out) (by rw [HS.out, N4.out]) O4.out ?_
       obtain ⟨b15, r15, z15⟩ := new_row w14 n4
       generalize (w14.alloc (.cells fr0 27)).setRow w14.heap.size n4 = w15 at b15 r15 z15 ⊢
       have hz15 : w14.heap.size + 1 ≤ w15.heap.size := Nat.le_of_eq z15.symm
       have BUF15 := hide (BUF14.out.of_block (b15.block g (by omega)))
       have hw15 : Below w.heap.size w w15 := hw14.trans (b15.mono hw14.size)
       have C15 := hide (C14.out.of_block (b15.block gc (by omega)))
       have D15 := hide (D14.out.of_block (b15.block gd (by omega)))
       have R15 := hide r15
       clear b15 r15 z15))
  refine (ha9 _ _ BUF15.out).mono ?_
  rintro e w16 ⟨rfl, hb16⟩
  have BUF16 := hide (BUF15.out.of_block (hb16.block g (by omega)))
  have C16 := hide (C15.out.of_block (hb16.block gc (by omega)))
  have D16 := hide (D15.out.of_block (hb16.block gd (by omega)))
  have R16 := hide ((hb16.block w14.heap.size (by omega)).trans R15.out)
  have hz16 := hb16.size
  have hw16 : Below w.heap.size w w16 := hw15.trans (hb16.mono hw15.size)
  clear hb16 ha9
  go_wp2_with (first
    | (refine wpList_store_row rfl 27 (.tmp 19) (.tmp 77) rfl w16.heap.size fr0 rfl rfl 27 _ (heap_alloc_new _ _) (fr_info HS.out) rfl H10.out ?_
       obtain ⟨b17, r17, z17⟩ := new_row w16 fr0
       generalize (w16.alloc (.cells fr0 27)).setRow w16.heap.size fr0 = w17 at b17 r17 z17 ⊢
       have hz17 : w16.heap.size + 1 ≤ w17.heap.size := Nat.le_of_eq z17.symm
       have BUF17 := hide (BUF16.out.of_block (b17.block g (by omega)))
       have hw17 : Below w.heap.size w w17 := hw16.trans (b17.mono hw16.size)
       have C17 := hide (C16.out.of_block (b17.block gc (by omega)))
       have D17 := hide (D16.out.of_block (b17.block gd (by omega)))
       have R17 := hide ((b17.block w14.heap.size (by omega)).trans R16.out)
       clear b17 r17 z17))
  refine (alive_any _).mono ?_
  rintro e w18 ⟨rfl, hb18⟩
  have stc := HST.out w18 gc cc [16, 1] rfl (by decide) (C17.out.of_block (hb18.block gc (by omega)))
  have std := HST.out w18 gd cd [1, 0] rfl (by decide) (D17.out.of_block (hb18.block gd (by omega)))
  have hr18 := (hb18.block w14.heap.size (by omega)).trans R17.out
  have u0 : w18.cell? ⟨w14.heap.size, 0, none⟩ = some (.int .i64 15) := by rw [cell_of_row _ _ _ _ _ _ hr18]; exact frv_0 _ _ _ _
  have u2 : w18.cell? ⟨w14.heap.size, 2, none⟩ = some (.int .u16 65535) := by rw [cell_of_row _ _ _ _ _ _ hr18]; exact frv_2 _ _ _ _
  have hw18 : Below w.heap.size w w18 := hw17.trans (hb18.mono hw17.size)
  have hsc := str_c
  have hsd := str_d
  clear hb18 hr18
  go_wp2_with fail
  go_ret
  exact ⟨rfl, hw18⟩
end Go.Proofs.Ytecmpkbpngnpbaa
