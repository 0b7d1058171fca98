/-
  What Encode answers of any frame.
-/
import Derived.Test.YtihldmcakcobaaaBuf
namespace Go.Proofs.Ytihldmcakcobaaa
open Go.RowKit Go.Shelf
attribute [local go_sem] Oper.semAt_some
set_option linter.unusedVariables false

/-- a frame's bytes ahead of the sum -/
def enc0 (o s m : Int) (p : List Nat) : List Nat := (st s m ++ [o.toNat]) ++ p
/-- a frame's bytes -/
def enc (o s m : Int) (p : List Nat) : List Nat := enc0 o s m p ++ SumMath.four (SumMath.more 0 (enc0 o s m p))

set_option maxRecDepth 100000 in
set_option maxHeartbeats 1000000 in
theorem enc_no (o s m : Int) (p : List Nat) (w : World) (hp : p.length = 64) (ho : (Lit.int .i64 o).wf = true) (hs : (Lit.int .i64 s).wf = true) (hbad : ¬ (0 ≤ o ∧ o < 16 ∧ 0 ≤ s ∧ s ≤ 2147483647)) :
    Calls Try.prog 13 #[.agg (frv o s m p)] w fun e w' => e = .returned (.tuple #[.slice none 0 0, .int .i64 2]) ∧ Below w.heap.size w w' := by
  have a0 : (w.alloc (.cells (frv o s m p) 27)).cell? ⟨w.heap.size, 0, none⟩ = some (.int .i64 o) := by rw [cell_of_row _ _ _ _ _ _ (heap_alloc_new w _)]; exact frv_0 _ _ _ _
  have a1 : (w.alloc (.cells (frv o s m p) 27)).cell? ⟨w.heap.size, 1, none⟩ = some (.int .i64 s) := by rw [cell_of_row _ _ _ _ _ _ (heap_alloc_new w _)]; exact frv_1 _ _ _ _
  have hb := bal w (.cells (frv o s m p) 27)
  generalize frv o s m p = F at a0 a1 hb
  obtain ⟨w1, hw1⟩ : ∃ w1, w.alloc (.cells F 27) = w1 := ⟨_, rfl⟩
  rw [hw1] at a0 a1 hb
  go_enter Try.func13, Try.ntmps13
  go_wp2
  all_goals
    go_ret2
    exact ⟨rfl, hb⟩

theorem frv_pay (o s m : Int) (p : List Nat) (i : Nat) (h : i < p.length) : (frv o s m p)[3 + i]? = some (.int .u8 ((p.getD i 0 : Nat) : Int)) := by
  rw [frv, Array.getElem?_append_right (by simp), ← bys_get p i h]
  simp
/-- where the walk stands: the slice's box, its buffer, and what is older than that -/
structure ES (W0 : World) (g B : Nat) (l : List Nat) (k : Nat) (W : World) : Prop where
  box : W.cell? ⟨B, 0, none⟩ = some (.slice (some ⟨g, 0, none⟩) k 75)
  free : W.frozen? ⟨B, 0, none⟩ = false
  buf : Buf W g 75 l
  bel : Below g W0 W
  len : l.length = k
theorem ES.app {W0 W W' : World} {g B k : Nat} {l r : List Nat} (h : ES W0 g B l k W) (hgB : g < B) (hB : Buf W' g 75 (l ++ r)) (hg : W.grownBy W' (some g)) :
    W'.cell? ⟨B, 0, none⟩ = some (.slice (some ⟨g, 0, none⟩) k 75) ∧ W'.frozen? ⟨B, 0, none⟩ = false ∧ Below g W0 W' ∧ B < W.heap.size := by
  have hlt : B < W.heap.size := World.block_lt_of_cell? W _ h.box
  have hb := hg.block B hlt (by simp; omega)
  exact ⟨(World.cell?_of_block (a := ⟨B, 0, none⟩) hb).trans h.box, (World.frozen?_of_block (a := ⟨B, 0, none⟩) hb).trans h.free,
    h.bel.grown hg (by have := h.buf.1; omega) (fun k e => by cases e; exact Nat.le_refl _), hlt⟩
theorem ES.store {W0 W W' : World} {g B k m : Nat} {l r : List Nat} (h : ES W0 g B l k W) (hgB : g < B) (hB : Buf W' g 75 (l ++ r)) (hg : W.grownBy W' (some g)) (hm : r.length = m) :
    ES W0 g B (l ++ r) (k + m) (W'.setCell ⟨B, 0, none⟩ (.slice (some ⟨g, 0, none⟩) (k + m) 75)) := by
  obtain ⟨h1, h2, h3, _⟩ := h.app hgB hB hg
  refine ⟨World.cell?_setCell_same' _ _ _ (by rw [h1]; rfl), by rw [World.frozen?_setCell]; exact h2, hB.of_block (heap_setCell_other _ _ _ _ (show g ≠ B by omega)), h3.setCell (p := ⟨B, 0, none⟩) (show g ≤ B by omega) _, by rw [List.length_append, h.len, hm]⟩
theorem ES.drewN {W0 W : World} {g B k : Nat} {l : List Nat} (h : ES W0 g B l k W) (n : Nat) : ES W0 g B l k (W.drewN n) := ⟨h.box, h.free, h.buf, below_drewN h.bel n, h.len⟩
theorem ES.drew {W0 W : World} {g B k : Nat} {l : List Nat} (h : ES W0 g B l k W) : ES W0 g B l k W.drew := ⟨h.box, h.free, h.buf, below_drewN h.bel 1, h.len⟩
theorem Bytes.of_below_at {w w' : World} {l : List Nat} {B b off : Nat} (h : Bytes w (some ⟨b, off, none⟩) l) (hb : Below B w w') (hB : b < B) : Bytes w' (some ⟨b, off, none⟩) l := by
  refine ⟨h.1, ?_⟩
  rcases h.2 with rfl | ⟨b', off', h1, hlt, hc⟩
  · exact .inl rfl
  · injection h1 with h1; injection h1 with h2 h3; subst h2; subst h3
    exact .inr ⟨b, off, rfl, by have := hb.size; omega, fun i hi => by rw [bcl hb hB]; exact hc i hi⟩
theorem ES.later {W0 W W' : World} {g B k : Nat} {l : List Nat} (h : ES W0 g B l k W) (hb : Below W.heap.size W W') : ES W0 g B l k W' := by
  have hlt : B < W.heap.size := World.block_lt_of_cell? W _ h.box
  exact ⟨(bcl hb hlt).trans h.box, (bfr hb hlt).trans h.free, h.buf.of_block (hb.block _ h.buf.1), h.bel.trans (hb.mono (by have := h.buf.1; omega)), h.len⟩

theorem ES.kept {W0 W W' : World} {g B k : Nat} {l : List Nat} {row : Option Nat} (h : ES W0 g B l k W) (hgB : g < B) (hg : W.grownBy W' row) (hr : ∀ r, row = some r → B < r) : ES W0 g B l k W' := by
  have hlt : B < W.heap.size := World.block_lt_of_cell? W _ h.box
  have hb := hg.block B hlt (fun e => by have := hr B e.symm; omega)
  exact ⟨(World.cell?_of_block (a := ⟨B, 0, none⟩) hb).trans h.box, (World.frozen?_of_block (a := ⟨B, 0, none⟩) hb).trans h.free, h.buf.of_block (hg.block g h.buf.1 (fun e => by have := hr g e.symm; omega)),
    h.bel.grown hg (by have := h.buf.1; omega) (fun k e => by have := hr k e; omega), h.len⟩
/-- a byte made, appended and stored back: what lies elsewhere is as it was -/
theorem others_of {W W' : World} {g B : Nat} {o : Obj} {v : Value} {x : Value} (hG : (W.alloc o).grownBy W' (some g)) (hBx : W.cell? ⟨B, 0, none⟩ = some x) (k : Nat) (hk : k < W.heap.size) (h1 : k ≠ g) (h2 : k ≠ B) :
    (W'.setCell ⟨B, 0, none⟩ v).heap[k]? = W.heap[k]? :=
  (heap_setCell_other _ _ _ _ h2).trans ((hG.block k (by simp; omega) (by simp; omega)).trans (heap_alloc_old W o hk))
theorem keeps_of {W W' : World} {g B : Nat} {o : Obj} {v : Value} {x : Value} (hG : (W.alloc o).grownBy W' (some g)) (hgc : W.cell? ⟨g, 0, none⟩ = some x) : KeepsOthers W (W'.setCell ⟨B, 0, none⟩ v) := by
  refine ((KeepsOthers.alloc W o).trans (KeepsOthers.of_grownBy hG (fun j ob e hj => ?_))).trans (KeepsOthers.setCell _ _ _)
  cases e
  have hlt : g < W.heap.size := World.block_lt_of_cell? W _ hgc
  rw [heap_alloc_old W o hlt] at hj
  unfold World.cell? at hgc
  rw [hj] at hgc
  cases ob <;> first | rfl | simp at hgc
theorem upto_four {v : Nat} (hv : v < 4294967296) : (upto (pbOf 3 v) (3 + 1)).map (fun x => x.1.2) = SumMath.four v := by
  simp only [upto, List.range, List.range.loop, List.map_cons, List.map_nil, pbOf, SumMath.four, Nat.reduceMul, Nat.reducePow, Nat.div_one, List.cons.injEq, and_true, true_and]
  omega

set_option maxRecDepth 100000 in
set_option maxHeartbeats 2000000 in
theorem enc_ok (o : Nat) (s m : Int) (p : List Nat) (w : World) (hp : p.length = 64) (hpl : ∀ c ∈ p, c < 256) (ho : o < 16) (hs0 : 0 ≤ s) (hs1 : s ≤ 2147483647) (hm : (Lit.int .u16 m).wf = true) :
    Calls Try.prog 13 #[.agg (frv (o : Int) s m p)] w fun e w' => ∃ g, e = .returned (.tuple #[.slice (some ⟨g, 0, none⟩) 75 75, .int .i64 0]) ∧ Buf w' g 75 (enc (o : Int) s m p) ∧ w.heap.size ≤ g ∧ Below w.heap.size w w' := by
  have hs : (Lit.int .i64 s).wf = true := WalkArith.wf_i64 (by omega)
  obtain ⟨c0, c1, c2, c3, c4, c5, hst, hlt⟩ := st_split s m hm
  have hcall : ∀ W, Calls Try.prog 24 #[.agg #[.int .i64 s, .int .u16 m]] W fun e w' => e = .returned (.agg #[.int .u8 c0, .int .u8 c1, .int .u8 c2, .int .u8 c3, .int .u8 c4, .int .u8 c5]) ∧ Below W.heap.size W w' := by
    intro W
    have h := state_any s m W hs hm
    rw [hst] at h
    exact h
  have a0 : (w.alloc (.cells (frv o s m p) 27)).cell? ⟨w.heap.size, 0, none⟩ = some (.int .i64 o) := by rw [cell_of_row _ _ _ _ _ _ (heap_alloc_new w _)]; exact frv_0 _ _ _ _
  have a1 : (w.alloc (.cells (frv o s m p) 27)).cell? ⟨w.heap.size, 1, none⟩ = some (.int .i64 s) := by rw [cell_of_row _ _ _ _ _ _ (heap_alloc_new w _)]; exact frv_1 _ _ _ _
  have a2 : (w.alloc (.cells (frv o s m p) 27)).cell? ⟨w.heap.size, 2, none⟩ = some (.int .u16 m) := by rw [cell_of_row _ _ _ _ _ _ (heap_alloc_new w _)]; exact frv_2 _ _ _ _
  have aP : Bytes (w.alloc (.cells (frv o s m p) 27)) (some ⟨w.heap.size, 3, none⟩) p := ⟨hpl, .inr ⟨_, _, rfl, by simp, fun i hi => by rw [cell_of_row _ _ _ _ _ _ (heap_alloc_new w _)]; exact frv_pay o s m p i hi⟩⟩
  have hb := bal w (.cells (frv o s m p) 27)
  have hsz : (w.alloc (.cells (frv o s m p) 27)).heap.size = w.heap.size + 1 := by simp
  have HE := hide (show enc (o : Int) s m p = ([c0, c1, c2, c3, c4, c5] ++ [o] ++ p) ++ SumMath.four (SumMath.more 0 ([c0, c1, c2, c3, c4, c5] ++ [o] ++ p)) by unfold enc enc0; rw [hst]; rfl)
  generalize frv (o : Int) s m p = F at a0 a1 a2 aP hb hsz
  obtain ⟨w1, hw1⟩ : ∃ w1, w.alloc (.cells F 27) = w1 := ⟨_, rfl⟩
  rw [hw1] at a0 a1 a2 aP hb hsz
  have HP := hide aP; have HB := hide hb; have HZ := hide hsz; have HPL := hide hpl; have Hp := hide hp; have HT := hide hlt; have Hm := hide hm; have Hs := hide hs
  clear aP hb hsz hpl hp hlt hm hs hst
  refine calls_of_wp_marks Try.func13 rfl ?_
  simp only [Try.ntmps13, List.size_toArray, List.length_cons, List.length_nil, Nat.reduceAdd, Nat.reduceSub, Array.replicate_succ, Array.replicate_zero, List.push_toArray, List.append_toArray, List.nil_append, List.cons_append]
  go_wp2_with fail
  refine (hcall _).mono ?_
  rintro e w2 ⟨rfl, hb2⟩
  clear hcall
  have hmk : ∀ W : World, (Instr.makeSlice 28 (.int .i64 0) (.int .i64 75)).run Try.prog W = .ok (.slice (some ⟨W.heap.size, 0, none⟩) 0 75) (W.alloc (.cells (zrow 75) 5)) := make_room 75 (by omega)
  have k0 := (bcl hb2 (show w.heap.size < _ by have := HZ.out; omega)).trans a0
  have hz2 := hb2.size
  have hw2 : Below w.heap.size w w2 := HB.out.trans (hb2.mono (by have := HZ.out; omega))
  have hP2 := HP.out.of_below hb2 (Nat.le_refl _)
  have HP2 := hide hP2
  clear a0 a1 a2 hP2
  go_wp2_with fail
  obtain ⟨W0, hW0⟩ : ∃ W0, ((w2.alloc (.cells #[.int .u8 c0, .int .u8 c1, .int .u8 c2, .int .u8 c3, .int .u8 c4, .int .u8 c5] 57)).alloc (.cells (zrow 75) 5)).alloc (.cells #[.slice (some ⟨w2.heap.size + 1, 0, none⟩) 0 75] 28) = W0 := ⟨_, rfl⟩
  have hA1 : Bytes (w2.alloc (.cells #[.int .u8 c0, .int .u8 c1, .int .u8 c2, .int .u8 c3, .int .u8 c4, .int .u8 c5] 57)) (some ⟨w2.heap.size, 0, none⟩) [c0, c1, c2, c3, c4, c5] := Bytes.new w2 [c0, c1, c2, c3, c4, c5] HT.out _ rfl _ _ _ rfl
  have hB0 : Below (w2.heap.size + 1) (w2.alloc (.cells #[.int .u8 c0, .int .u8 c1, .int .u8 c2, .int .u8 c3, .int .u8 c4, .int .u8 c5] 57)) W0 := by
    rw [← hW0]
    exact ((Below.refl _ _).alloc (by simp) _).alloc (by simp) _
  have hA0 := hA1.of_below hB0 (by simp)
  have hB1 : Below w2.heap.size w2 W0 := (bal w2 _).trans (hB0.mono (by omega))
  have hP0 := HP2.out.of_below hB1 (Nat.le_refl _)
  have hw0 := hw2.trans (hB1.mono (by have := HZ.out; omega))
  have q0 := (bcl hB1 (show w.heap.size < _ by have := HZ.out; omega)).trans k0
  have hbuf : Buf W0 (w2.heap.size + 1) 75 [] := by
    have h := Buf.made (w2.alloc (.cells #[.int .u8 c0, .int .u8 c1, .int .u8 c2, .int .u8 c3, .int .u8 c4, .int .u8 c5] 57)) 75
    rw [World.size_alloc] at h
    rw [← hW0]
    exact h.of_block (heap_alloc_old _ _ (by simp))
  have hbox : W0.cell? ⟨w2.heap.size + 1 + 1, 0, none⟩ = some (.slice (some ⟨w2.heap.size + 1, 0, none⟩) 0 75) := by rw [← hW0]; simp [go_sem]
  have hfr : W0.frozen? ⟨w2.heap.size + 1 + 1, 0, none⟩ = false := by rw [← hW0]; simp [go_sem]
  have E0 : ES W0 (w2.heap.size + 1) (w2.heap.size + 1 + 1) [] 0 W0 := ⟨hbox, hfr, hbuf, Below.refl _ _, rfl⟩
  rw [hW0]
  have HA := hide hA0; have HP0 := hide hP0; have HW := hide hw0; have HE0 := hide E0
  clear hW0 hA1 hB0 hA0 hB1 hP0 hw0 hbuf hw1 k0 hb2 hw2 hmk E0
  have hg1 : w2.heap.size + 1 < w2.heap.size + 1 + 1 := by omega
  go_region_law (refine step_app rfl (.tmp 32) (.tmp 33) rfl (w2.heap.size + 1) 75 [] [c0, c1, c2, c3, c4, c5] _ 0 6 6 rfl rfl HE0.out.buf HA.out rfl rfl (by omega) (by omega) ?_; intro w5 hR5 hG5; have h5 := HE0.out.drew.app hg1 hR5 hG5; have x5 := h5.1; have f5 := h5.2.1; clear h5)
  have E5 := HE0.out.drew.store hg1 hR5 hG5 (r := [c0, c1, c2, c3, c4, c5]) (m := 6) rfl
  simp only [List.nil_append, Nat.zero_add] at E5
  obtain ⟨w6, hw6⟩ : ∃ w6, w5.setCell ⟨w2.heap.size + 1 + 1, 0, none⟩ (.slice (some ⟨w2.heap.size + 1, 0, none⟩) 6 75) = w6 := ⟨_, rfl⟩
  rw [hw6] at E5 ⊢
  clear hw6 x5 f5 hR5 hG5 hbox hfr
  have hx6 := E5.box; have hf6 := E5.free
  have q6 := (bcl E5.bel (show w.heap.size < _ by have := HZ.out; omega)).trans q0
  have HE5 := hide E5; clear E5
  have hor : ((o : Int) % 256) = (o : Int) := by omega
  go_wp2_with (refine wpList_app _ rfl (.tmp 35) (.tmp 39) rfl (w2.heap.size + 1) 75 [c0, c1, c2, c3, c4, c5] [o] _ 6 1 1 rfl rfl (HE5.out.later (bal _ _)).buf (Bytes.new _ [o] (by intro c hc; have := List.mem_singleton.1 hc; omega) _ rfl _ _ _ rfl) rfl rfl (by omega) (by omega) ?_; intro w7 hR7 hG7; have h7 := (HE5.out.later (bal _ _)).app hg1 hR7 hG7; have x7 := h7.1; have f7 := h7.2.1; clear h7)
  have E7 := (HE5.out.later (bal w6 (.cells #[.int .u8 o] 5))).store hg1 hR7 hG7 (r := [o]) (m := 1) rfl
  simp only [List.cons_append, List.nil_append, Nat.reduceAdd] at E7
  obtain ⟨w8, hw8⟩ : ∃ w8, w7.setCell ⟨w2.heap.size + 1 + 1, 0, none⟩ (.slice (some ⟨w2.heap.size + 1, 0, none⟩) 7 75) = w8 := ⟨_, rfl⟩
  rw [hw8] at E7 ⊢
  clear hw8 x7 f7 hR7 hG7 hx6 hf6 q6 hor q0
  have hx8 := E7.box; have hf8 := E7.free
  have hP8 := HP0.out.of_below_at E7.bel (by have := HZ.out; omega)
  have HE7 := hide E7; have HP8 := hide hP8; clear E7 hP8
  go_region_law (refine step_app rfl (.tmp 41) (.tmp 43) rfl (w2.heap.size + 1) 75 [c0, c1, c2, c3, c4, c5, o] p _ 7 64 64 rfl rfl HE7.out.buf HP8.out rfl Hp.out (by omega) (by omega) ?_; intro w9 hR9 hG9; have h9 := HE7.out.drew.app hg1 hR9 hG9; have x9 := h9.1; have f9 := h9.2.1; clear h9)
  have E9 := HE7.out.drew.store hg1 hR9 hG9 (r := p) (m := 64) Hp.out
  simp only [Nat.reduceAdd] at E9
  obtain ⟨w10, hw10⟩ : ∃ w10, w9.setCell ⟨w2.heap.size + 1 + 1, 0, none⟩ (.slice (some ⟨w2.heap.size + 1, 0, none⟩) 71 75) = w10 := ⟨_, rfl⟩
  rw [hw10] at E9 ⊢
  clear hw10 x9 f9 hR9 hG9 hx8 hf8
  obtain ⟨L, hL⟩ : ∃ L, [c0, c1, c2, c3, c4, c5, o] ++ p = L := ⟨_, rfl⟩
  rw [hL] at E9
  have hx10 := E9.box; have hf10 := E9.free
  have hLlt : ∀ c ∈ L, c < 256 := by
    rw [← hL]
    intro c hc
    rcases List.mem_append.1 hc with h | h
    · have h1 := HT.out c
      simp only [List.mem_cons, List.not_mem_nil, or_false] at h h1
      rcases h with h | h | h | h | h | h | h
      · exact h1 (.inl h)
      · exact h1 (.inr (.inl h))
      · exact h1 (.inr (.inr (.inl h)))
      · exact h1 (.inr (.inr (.inr (.inl h))))
      · exact h1 (.inr (.inr (.inr (.inr (.inl h)))))
      · exact h1 (.inr (.inr (.inr (.inr (.inr h)))))
      · omega
    · exact HPL.out c h
  have HL := hide hL; have HE9 := hide E9; have HLT := hide hLlt; have HLen := hide E9.len
  obtain ⟨v, hv⟩ : ∃ v, SumMath.more 0 L = v := ⟨_, rfl⟩
  have hvlt : v < 4294967296 := by rw [← hv]; exact SumMath.more_lt _ _
  have hsum : ∀ W, ES W0 (w2.heap.size + 1) (w2.heap.size + 1 + 1) L 71 W → Calls Try.prog 26 #[.slice (some ⟨w2.heap.size + 1, 0, none⟩) 71 75] W fun e w' => e = .returned (.int .u32 v) ∧ W = w' := by
    intro W hW
    rw [← hv]
    exact sum_at L 71 _ _ W HLen.out (hW.buf.bytes (by rw [HLen.out]; omega) HLT.out) (by omega)
  have HV := hide hv
  clear hL hLlt E9 hv
  go_wp2_with (first
    | (go_at_call 26; refine (hsum _ HE9.out).mono ?_; rintro e w' ⟨rfl, rfl⟩)
    | (go_at_call 25; refine (low_any v 4 _).mono ?_; rintro e w' ⟨rfl, rfl⟩))
  have hEs := HE9.out.later ((bal w10 (.cells #[.int .u64 v] 62)).alloc (by simp) (.cells #[.int .i64 4] 3))
  have hn3 : ((w10.alloc (.cells #[.int .u64 v] 62)).alloc (.cells #[.int .i64 4] 3)).cell? ⟨w10.heap.size, 0, none⟩ = some (.int .u64 v) := by
    rw [bcl (bal _ _) (by simp)]; exact cell_of_row _ _ 0 _ _ _ (heap_alloc_new w10 _)
  have hc3 : ((w10.alloc (.cells #[.int .u64 v] 62)).alloc (.cells #[.int .i64 4] 3)).cell? ⟨w10.heap.size + 1, 0, none⟩ = some (.int .i64 ((3 + 1 : Nat) : Int)) := cell_of_row _ _ 0 _ _ _ (heap_alloc2_new w10 _ _)
  have hz3 : ((w10.alloc (.cells #[.int .u64 v] 62)).alloc (.cells #[.int .i64 4] 3)).heap.size = w10.heap.size + 1 + 1 := by simp
  have hB10 : w2.heap.size + 1 + 1 < w10.heap.size := World.block_lt_of_cell? w10 _ hx10
  generalize ((w10.alloc (.cells #[.int .u64 v] 62)).alloc (.cells #[.int .i64 4] 3)) = ws at hEs hn3 hc3 hz3 ⊢
  clear hx10 hf10 hsum
  refine' wp_low v 3 w10.heap.size (w10.heap.size + 1) (by omega) (by omega) rfl (by omega) (by omega) hn3 hc3 rfl
    (fun pre W => w10.heap.size + 1 < W.heap.size ∧ ES W0 (w2.heap.size + 1) (w2.heap.size + 1 + 1) (L ++ pre.map (fun x => x.1.2)) (71 + pre.length) W)
    (fun _ _ _ => False)
    (fun s A B row hs hg hr => ⟨by have := hg.size; have := hs.1; omega, hs.2.kept hg1 hg (fun r e => by have := (hr r e).1; omega)⟩)
    (fun _ _ _ _ _ hs _ _ => hs)
    ⟨by omega, by simpa using hEs⟩
    _ ?assign ?body ?done ?stop
  case assign =>
    intro l x W K hK
    gi_wp2
    exact hK
  case body =>
    rintro l pre ⟨⟨i, c⟩, hi, hc⟩ W ⟨hWz, hE⟩ hlen
    dsimp only at hi hc ⊢
    have hx := hE.box; have hf := hE.free
    have hlen2 : (L ++ pre.map (fun x => x.1.2)).length = 71 + pre.length := hE.len
    have hgc := (hE.buf.2 0 (by omega)).1
    have hln : pre.length < 4 := hlen
    have HEW := hide hE; have HGC := hide hgc; have HX := hide hx
    clear hE hgc hn3 hc3 hlen2 hlen
    gi_wp2_with (refine wpListIn_app _ rfl (.tmp 51) (.tmp 53) rfl (w2.heap.size + 1) 75 (L ++ pre.map (fun x => x.1.2)) [c] _ (71 + pre.length) 1 1 rfl rfl (HEW.out.later (bal _ _)).buf (Bytes.new _ [c] (by intro c' hc'; have := List.mem_singleton.1 hc'; omega) _ rfl _ _ _ rfl) HEW.out.len rfl (by omega) (by omega) ?_; intro w7 hR7 hG7; have h7 := (HEW.out.later (bal _ _)).app hg1 hR7 hG7; have x7 := h7.1; have f7 := h7.2.1; clear h7)
    have hk := keeps_of (v := .slice (some ⟨w2.heap.size + 1, 0, none⟩) (71 + pre.length + 1) 75) (B := w2.heap.size + 1 + 1) hG7 HGC.out
    have hE2 := (HEW.out.later (bal W (.cells #[.int .u8 c] 5))).store hg1 hR7 hG7 (r := [c]) (m := 1) rfl
    refine ⟨hk, ⟨World.cell?_of_block (a := ⟨w10.heap.size, 0, none⟩) (others_of hG7 HX.out w10.heap.size (by omega) (by omega) (by omega)), World.cell?_of_block (a := ⟨w10.heap.size + 1, 0, none⟩) (others_of hG7 HX.out (w10.heap.size + 1) (by omega) (by omega) (by omega))⟩, Nat.lt_of_lt_of_le hWz hk.size, ?_⟩
    rw [List.map_append, ← List.append_assoc, List.length_append]
    exact hE2
  case done =>
    rintro D W hD ⟨hWz, hE⟩ hK
    rw [upto_four hvlt, upto_length] at hE
    have hx := hE.box
    have HEW := hide hE
    clear hE hn3 hc3
    go_wp2
    have hE2 := HEW.out.kept hg1 (grownBy_putObj' W D (.deferred none)) (fun r e => by cases e; omega)
    refine marks_done hK (v := .tuple #[.slice (some ⟨w2.heap.size + 1, 0, none⟩) 75 75, .int .i64 0]) (by simp [results, Try.results13, go_sem]) ⟨w2.heap.size + 1, rfl, ?_, ?_, HW.out.trans (hE2.bel.mono ?_)⟩
    · have hbuf := hE2.buf
      rw [HE.out, show [c0, c1, c2, c3, c4, c5] ++ [o] ++ p = L from HL.out, HV.out]
      exact hbuf
    · have := HZ.out; omega
    · have := HZ.out; omega
  case stop => exact fun _ _ _ _ _ _ h _ => h.elim
end Go.Proofs.Ytihldmcakcobaaa
