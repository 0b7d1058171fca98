/-
  LexNames: the chapter's examples.
-/
import Derived.Test.YtohmenghlboalaaDoorLxS
import Derived.Test.YtohmenghlboalaaDoorLxJ
namespace Go.Proofs.YtohmenghlboalaaDoor
open Go.RowKit Go.Shelf
attribute [local go_sem] Oper.semAt_some
set_option linter.unusedVariables false
set_option linter.unusedSimpArgs false
set_option maxRecDepth 100000

theorem flatW_at : ∀ (l : List Tv) (i j : Nat), i < l.length → j < 5 → (l.flatMap tvC)[i * 5 + j]? = (tvC (l.getD i default))[j]?
  | [], _, _, h, _ => by simp at h
  | t :: l, 0, j, _, hj => by
    rw [show (t :: l).flatMap tvC = tvC t ++ l.flatMap tvC from rfl, Nat.zero_mul, Nat.zero_add, List.getElem?_append_left (by show j < 5; exact hj)]; rfl
  | t :: l, i + 1, j, h, hj => by
    rw [show (t :: l).flatMap tvC = tvC t ++ l.flatMap tvC from rfl, List.getElem?_append_right (by show 5 ≤ _; omega), show (i + 1) * 5 + j - (tvC t).length = i * 5 + j by show _ - 5 = _; omega]
    exact flatW_at l i j (by simpa using h) hj
theorem row_tvs {W : World} {b : Nat} {l : List Tv} (h : W.heap[b]? = some (.cells (l.flatMap tvC).toArray 24 (0, 0))) : Tvs W (some ⟨b, 0, none⟩) l := by
  refine .inr ⟨b, 0, rfl, (Array.getElem?_eq_some_iff.1 h).1, fun i hi => ?_⟩
  have hc : ∀ j, j < 5 → W.cell? ⟨b, i * 5 + j, none⟩ = (tvC (l.getD i default))[j]? := fun j hj => by
    rw [cell_of_row _ _ _ _ _ _ h, ← flatW_at l i j hi hj]; simp
  rw [Nat.zero_add]
  exact ⟨hc 0 (by omega), hc 1 (by omega), hc 2 (by omega), hc 3 (by omega), hc 4 (by omega)⟩

set_option maxHeartbeats 2000000 in
theorem refused_at (s : ByteArray) (ln cl : Nat) (hs : s.size ≤ 100) (h : (lexL (byt s) 1 1 false).2 = some (ln, cl)) (h1 : ln ≤ 1000) (h2 : cl ≤ 1000) (w : World) (hE : Env w) :
    Calls Tryd.prog 13 #[.string s] w fun e w' => e = .returned (.int .i64 ((ln : Int) * 100 + cl)) ∧ Below w.heap.size w w' := by
  have HT := hide (toks_at s (by omega) (by have := yl_len s; omega) w hE)
  unfold TokR at HT
  have ho : outF (lexL (byt s) 1 1 false) = ([], ln, cl, 140) := by unfold outF; rw [h]
  rw [ho] at HT
  have hw1 : IntKind.i64.wrap ((ln : Int) * 100) = (ln : Int) * 100 := by rw [IntKind.wrap_i64]; omega
  have hw2 : IntKind.i64.wrap ((ln : Int) * 100 + cl) = (ln : Int) * 100 + cl := by rw [IntKind.wrap_i64]; omega
  clear ho h h1 h2
  go_enter Tryd.func13, Tryd.ntmps13
  go_wp2_with fail
  refine HT.out.mono ?_
  rintro e w1 ⟨v, rfl, hO, hb⟩
  obtain ⟨A, c, rfl, hT⟩ := own_tvs hO
  have HB := hide hb
  clear hO hT hb HT
  go_wp2_with fail
  go_ret
  exact ⟨by first | rfl | (congr 2), HB.out⟩

theorem n1_lex : lexL (byt ⟨#[45, 49, 50]⟩) 1 1 false = ([⟨2, [45, 49, 50], -12, 1, 1⟩], none) := by kernel_rfl
theorem n2_lex : lexL (byt ⟨#[45, 50, 49, 52, 55, 52, 56, 51, 54, 52, 56, 32, 50, 49, 52, 55, 52, 56, 51, 54, 52, 55, 32, 97, 95, 49]⟩) 1 1 false =
    ([⟨2, [45, 50, 49, 52, 55, 52, 56, 51, 54, 52, 56], -2147483648, 1, 1⟩, ⟨2, [50, 49, 52, 55, 52, 56, 51, 54, 52, 55], 2147483647, 1, 13⟩, ⟨1, [97, 95, 49], 0, 1, 24⟩], none) := by kernel_rfl
def n2L : List Tv := [⟨2, [45, 50, 49, 52, 55, 52, 56, 51, 54, 52, 56], -2147483648, 1, 1⟩, ⟨2, [50, 49, 52, 55, 52, 56, 51, 54, 52, 55], 2147483647, 1, 13⟩, ⟨1, [97, 95, 49], 0, 1, 24⟩]
theorem r1_lex : (lexL (byt ⟨#[45, 48]⟩) 1 1 false).2 = some (1, 1) := by kernel_rfl
theorem r2_lex : (lexL (byt ⟨#[48, 49]⟩) 1 1 false).2 = some (1, 1) := by kernel_rfl
theorem r3_lex : (lexL (byt ⟨#[50, 49, 52, 55, 52, 56, 51, 54, 52, 56]⟩) 1 1 false).2 = some (1, 1) := by kernel_rfl
theorem r4_lex : (lexL (byt ⟨#[52, 120]⟩) 1 1 false).2 = some (1, 2) := by kernel_rfl
theorem r5_lex : (lexL (byt ⟨#[45]⟩) 1 1 false).2 = some (1, 1) := by kernel_rfl
theorem r6_lex : (lexL (byt ⟨#[97, 10, 32, 63]⟩) 1 1 false).2 = some (2, 2) := by kernel_rfl
theorem r7_lex : (lexL (byt ⟨#[52, 95]⟩) 1 1 false).2 = some (1, 2) := by kernel_rfl
def p1L : List Tv := [⟨1, [52], 0, 0, 0⟩]
def p2L : List Tv := [⟨1, [97], 0, 0, 0⟩, ⟨3, [59], 0, 0, 0⟩, ⟨2, [55], 7, 0, 0⟩]
theorem p1_pr : prF p1L = (⟨#[]⟩, 140) := by kernel_rfl
theorem p2_pr : prF p2L = (⟨#[97, 32, 59, 10, 55, 32]⟩, 0) := by kernel_rfl
theorem p3_pr : prF [] = (⟨#[]⟩, 0) := by kernel_rfl

set_option maxHeartbeats 16000000 in
theorem names_walk (w : World) (hE : Env w) : Calls Tryd.prog 4 #[] w fun e w' => e = .returned (.bool true) ∧ Below w.heap.size w w' := by
  have HE := hide (fun (W : World) (h : Below w.heap.size w W) => hE.below h (Nat.le_refl _))
  have HT1 := hide (toks_at ⟨#[45, 49, 50]⟩ (by decide) (by unfold Yl ysF; rw [n1_lex]; decide) w hE)
  unfold TokR at HT1
  rw [n1_lex] at HT1
  clear hE
  go_enter Tryd.func4, Tryd.ntmps4
  go_wp2_with fail
  refine HT1.out.mono ?_
  rintro e w1 ⟨v, rfl, hO, hb1⟩
  obtain ⟨A1, c1, rfl, hT⟩ := own_tvs hO
  obtain ⟨lb, lo, rfl, hlb, T0⟩ := hT.at (k := 0) (by simp [outF])
  have x0 : w1.cell? ⟨lb, lo + 2, none⟩ = some (.int .i64 (-12)) := by have := T0.c2; simpa [outF, toV] using this
  have HB1 := hide hb1
  have HX1 := hide x0
  have HT2 := hide (toks_at ⟨#[45, 50, 49, 52, 55, 52, 56, 51, 54, 52, 56, 32, 50, 49, 52, 55, 52, 56, 51, 54, 52, 55, 32, 97, 95, 49]⟩ (by decide) (by unfold Yl ysF; rw [n2_lex]; decide) w1 (HE.out _ hb1))
  unfold TokR at HT2
  rw [n2_lex] at HT2
  simp only [outF, List.map_cons, List.map_nil, List.length_cons, List.length_nil, Nat.zero_add, Nat.reduceAdd] at HT2 ⊢
  clear hO hT T0 hb1 HT1 x0 hlb
  go_wp2_with fail
  refine HT2.out.mono ?_
  rintro e w2 ⟨v, rfl, hO, hb2⟩
  obtain ⟨A2, c2, rfl, hT⟩ := own_tvs hO
  obtain ⟨mb, mo, rfl, hmb, T0⟩ := hT.at (k := 0) (by simp)
  have hT2 : Tvs w2 (some ⟨mb, mo, none⟩) n2L := hT
  have HT2' := hide hT2
  have HX2 := hide (cell_below hb2 (Nat.le_refl _) (World.block_lt_of_cell? _ _ HX1.out) HX1.out)
  have HB2 := hide (HB1.out.trans (hb2.mono HB1.out.size))
  simp only [List.map_cons, List.map_nil, List.length_cons, List.length_nil, Nat.zero_add, Nat.reduceAdd]
  have HP1 := hide (print_at p1L _ 1 _ (HE.out _ (HB2.out.trans ((bal w2 (.cells #[.int .i64 1, .string ⟨#[52]⟩, .int .i64 0, .int .i64 0, .int .i64 0] 24)).mono HB2.out.size))) (row_tvs (l := p1L) (heap_alloc_new w2 _)) (by decide) (by decide))
  rw [p1_pr] at HP1
  clear hO hT T0 hb2 HT2 HX1 HB1 hmb hT2
  go_wp2_with fail
  refine HP1.out.mono ?_
  rintro e w3 ⟨rfl, hb3⟩
  have hb3' := (bal w2 (.cells #[.int .i64 1, .string ⟨#[52]⟩, .int .i64 0, .int .i64 0, .int .i64 0] 24)).trans (hb3.mono (by rw [World.size_alloc]; omega))
  have HT3 := hide (HT2'.out.below hb3' (Nat.le_refl _))
  have HX3 := hide (cell_below hb3' (Nat.le_refl _) (World.block_lt_of_cell? _ _ HX2.out) HX2.out)
  have HB3 := hide (HB2.out.trans (hb3'.mono HB2.out.size))
  have HP2 := hide (print_at p2L _ 3 _ (HE.out _ (HB3.out.trans ((bal w3 (.cells #[.int .i64 1, .string ⟨#[97]⟩, .int .i64 0, .int .i64 0, .int .i64 0, .int .i64 3, .string ⟨#[59]⟩, .int .i64 0, .int .i64 0, .int .i64 0, .int .i64 2, .string ⟨#[55]⟩, .int .i64 7, .int .i64 0, .int .i64 0] 24)).mono HB3.out.size))) (row_tvs (l := p2L) (heap_alloc_new w3 _)) (by decide) (by decide))
  rw [p2_pr] at HP2
  clear hb3 hb3' HP1 HB2 HX2 HT2'
  go_wp2_with fail
  refine HP2.out.mono ?_
  rintro e w4 ⟨rfl, hb4⟩
  have hb4' := (bal w3 (.cells #[.int .i64 1, .string ⟨#[97]⟩, .int .i64 0, .int .i64 0, .int .i64 0, .int .i64 3, .string ⟨#[59]⟩, .int .i64 0, .int .i64 0, .int .i64 0, .int .i64 2, .string ⟨#[55]⟩, .int .i64 7, .int .i64 0, .int .i64 0] 24)).trans (hb4.mono (by rw [World.size_alloc]; omega))
  have HT4 := hide (HT3.out.below hb4' (Nat.le_refl _))
  have HX4 := hide (cell_below hb4' (Nat.le_refl _) (World.block_lt_of_cell? _ _ HX3.out) HX3.out)
  have HB4 := hide (HB3.out.trans (hb4'.mono HB3.out.size))
  have HP3 := hide (print_at [] none 0 w4 (HE.out _ HB4.out) (.inl rfl) (by decide) (by decide))
  rw [p3_pr] at HP3
  clear hb4 hb4' HP2 HB3 HX3 HT3
  go_wp2_with fail
  refine HP3.out.mono ?_
  rintro e w5 ⟨rfl, hb5⟩
  have HT5 := hide (HT4.out.below hb5 (Nat.le_refl _))
  have hx5 := cell_below hb5 (Nat.le_refl _) (World.block_lt_of_cell? _ _ HX4.out) HX4.out
  have HB5 := hide (HB4.out.trans (hb5.mono HB4.out.size))
  obtain ⟨b', o', e', -, T0⟩ := HT5.out.at (k := 0) (by decide)
  cases e'
  have hy5 : w5.cell? ⟨mb, mo + 2, none⟩ = some (.int .i64 (-2147483648)) := by have := T0.c2; rwa [Nat.zero_mul, Nat.add_zero] at this
  have HX5 := hide hx5
  have HY5 := hide hy5
  have HC0 := hide (fun (W : World) (h : Below w.heap.size w W) => alive_at W (HE.out W h))
  have HC1 := hide (fun (W : World) (h : Below w.heap.size w W) => refused_at _ 1 1 (by decide) r1_lex (by decide) (by decide) W (HE.out W h))
  have HC2 := hide (fun (W : World) (h : Below w.heap.size w W) => refused_at _ 1 1 (by decide) r2_lex (by decide) (by decide) W (HE.out W h))
  have HC3 := hide (fun (W : World) (h : Below w.heap.size w W) => refused_at _ 1 1 (by decide) r3_lex (by decide) (by decide) W (HE.out W h))
  have HC4 := hide (fun (W : World) (h : Below w.heap.size w W) => refused_at _ 1 2 (by decide) r4_lex (by decide) (by decide) W (HE.out W h))
  have HC5 := hide (fun (W : World) (h : Below w.heap.size w W) => refused_at _ 1 1 (by decide) r5_lex (by decide) (by decide) W (HE.out W h))
  have HC6 := hide (fun (W : World) (h : Below w.heap.size w W) => refused_at _ 2 2 (by decide) r6_lex (by decide) (by decide) W (HE.out W h))
  have HC7 := hide (fun (W : World) (h : Below w.heap.size w W) => refused_at _ 1 2 (by decide) r7_lex (by decide) (by decide) W (HE.out W h))
  have HC8 := hide (fun (W : World) (h : Tvs W (some ⟨mb, mo, none⟩) n2L) => show Calls Tryd.prog 8 #[.slice (some ⟨mb, mo, none⟩) 3 c2, .int .i64 1, .int .i64 12] W fun e w' => e = .returned (.int .i64 0) ∧ Below W.heap.size W w' from find_at n2L _ c2 1 12 W h (by decide))
  have HC9 := hide (fun (W : World) (h : Tvs W (some ⟨mb, mo, none⟩) n2L) => show Calls Tryd.prog 8 #[.slice (some ⟨mb, mo, none⟩) 3 c2, .int .i64 1, .int .i64 13] W fun e w' => e = .returned (.int .i64 1) ∧ Below W.heap.size W w' from find_at n2L _ c2 1 13 W h (by decide))
  have HCa := hide (fun (W : World) => show Calls Tryd.prog 8 #[.slice none 0 0, .int .i64 1, .int .i64 1] W fun e w' => e = .returned (.int .i64 (-1)) ∧ Below W.heap.size W w' from find_at [] none 0 1 1 W (.inl rfl) (by decide))
  clear hb5 HP3 HB4 HX4 HT4 T0 hx5 hy5
  go_wp2_with fail
  refine (HC0.out _ HB5.out).mono ?_
  rintro e v0 ⟨rfl, hb⟩
  have HB6 := hide (HB5.out.trans (hb.mono HB5.out.size))
  have HT6 := hide (HT5.out.below hb (Nat.le_refl _))
  have hx6 := cell_below hb (Nat.le_refl _) (World.block_lt_of_cell? _ _ HX5.out) HX5.out
  have hy6 := cell_below hb (Nat.le_refl _) (World.block_lt_of_cell? _ _ HY5.out) HY5.out
  clear hb HB5 HT5 HX5 HY5 HC0
  go_wp2_with fail
  refine (HC1.out _ HB6.out).mono ?_
  rintro e v1 ⟨rfl, hb⟩
  have HB7 := hide (HB6.out.trans (hb.mono HB6.out.size))
  have HT7 := hide (HT6.out.below hb (Nat.le_refl _))
  clear hb HB6 HT6 HC1 hx6 hy6
  go_wp2_with fail
  refine (HC2.out _ HB7.out).mono ?_
  rintro e v2 ⟨rfl, hb⟩
  have HB8 := hide (HB7.out.trans (hb.mono HB7.out.size))
  have HT8 := hide (HT7.out.below hb (Nat.le_refl _))
  clear hb HB7 HT7 HC2
  go_wp2_with fail
  refine (HC3.out _ HB8.out).mono ?_
  rintro e v3 ⟨rfl, hb⟩
  have HB9 := hide (HB8.out.trans (hb.mono HB8.out.size))
  have HT9 := hide (HT8.out.below hb (Nat.le_refl _))
  clear hb HB8 HT8 HC3
  go_wp2_with fail
  refine (HC4.out _ HB9.out).mono ?_
  rintro e v4 ⟨rfl, hb⟩
  have HB10 := hide (HB9.out.trans (hb.mono HB9.out.size))
  have HT10 := hide (HT9.out.below hb (Nat.le_refl _))
  clear hb HB9 HT9 HC4
  go_wp2_with fail
  refine (HC5.out _ HB10.out).mono ?_
  rintro e v5 ⟨rfl, hb⟩
  have HB11 := hide (HB10.out.trans (hb.mono HB10.out.size))
  have HT11 := hide (HT10.out.below hb (Nat.le_refl _))
  clear hb HB10 HT10 HC5
  go_wp2_with fail
  refine (HC6.out _ HB11.out).mono ?_
  rintro e v6 ⟨rfl, hb⟩
  have HB12 := hide (HB11.out.trans (hb.mono HB11.out.size))
  have HT12 := hide (HT11.out.below hb (Nat.le_refl _))
  clear hb HB11 HT11 HC6
  go_wp2_with fail
  refine (HC7.out _ HB12.out).mono ?_
  rintro e v7 ⟨rfl, hb⟩
  have HB13 := hide (HB12.out.trans (hb.mono HB12.out.size))
  have HT13 := hide (HT12.out.below hb (Nat.le_refl _))
  clear hb HB12 HT12 HC7
  go_wp2_with fail
  refine (HC8.out _ HT13.out).mono ?_
  rintro e v8 ⟨rfl, hb⟩
  have HB14 := hide (HB13.out.trans (hb.mono HB13.out.size))
  have HT14 := hide (HT13.out.below hb (Nat.le_refl _))
  clear hb HB13 HT13 HC8
  go_wp2_with fail
  refine (HC9.out _ HT14.out).mono ?_
  rintro e v9 ⟨rfl, hb⟩
  have HB15 := hide (HB14.out.trans (hb.mono HB14.out.size))
  have HT15 := hide (HT14.out.below hb (Nat.le_refl _))
  clear hb HB14 HT14 HC9
  go_wp2_with fail
  refine (HCa.out _).mono ?_
  rintro e va ⟨rfl, hb⟩
  have HB16 := hide (HB15.out.trans (hb.mono HB15.out.size))
  have HT16 := hide (HT15.out.below hb (Nat.le_refl _))
  clear hb HB15 HT15 HCa
  go_wp2_with fail
  go_ret
  exact ⟨rfl, HB16.out⟩
end Go.Proofs.YtohmenghlboalaaDoor
