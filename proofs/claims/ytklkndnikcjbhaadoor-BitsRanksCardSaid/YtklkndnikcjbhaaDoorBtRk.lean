/-
  BitsRanks' walk.
-/
import Derived.Test.YtklkndnikcjbhaaDoorBtZ
namespace Go.Proofs.YtklkndnikcjbhaaDoor
open Go.RowKit Go.Shelf Go.ChangeShapes Go.WideShapes
set_option linter.unusedVariables false
set_option linter.unusedSimpArgs false

section
variable {H : Type} {enc : TypeId × Value → H} {w : World} {base : Nat} {spare : Nat → Bool} {held : Bool}
theorem okWide_array {P : Program} {r : Reach} {b : Nat} {t e : TypeId} {v : Value} {n : Nat} (ht : P.underlying t = some (.array n e)) (h : Value.okWide P w r b t v) : ∃ cs, v = .agg cs := by
  simp only [Value.okWide, ht] at h
  obtain ⟨cs, h1, _⟩ := h
  exact ⟨cs, h1⟩
/-- two numbers that came in -/
theorem twoint_of {r : Reach} {b : Nat} {v : Value} {d : DataW H} {q : List MemPlace} (hv : Value.okWide Tryd.prog w r b 35 v) (h : DataW.Trod enc Tryd.prog w base spare held 35 v d q) :
    ∃ (x y : Int), v = .agg #[.int .i64 x, .int .i64 y] ∧ (Lit.int .i64 x).wf = true ∧ (Lit.int .i64 y).wf = true := by
  obtain ⟨cs, rfl⟩ := okWide_array Tryd.underlying35 hv
  obtain ⟨fuel, ht⟩ := h
  obtain ⟨xs, n, _, _, hl, hlen, hfs⟩ := DataW.trod_array Tryd.underlying35 (show DataW.trod enc Tryd.prog w base spare held fuel 35 cs.toList = some (d, q) by simpa [Value.cells] using ht)
  rw [show Tryd.prog.cellsOf 35 = 2 by kernel_rfl] at hl
  have h0 := hfs 0 (by omega)
  have h1 := hfs 1 (by omega)
  obtain ⟨l, hcs⟩ : ∃ l, cs.toList = l := ⟨_, rfl⟩
  rw [hcs] at hl h0 h1
  match l, hl with
  | [a, c], _ =>
    simp only [show Tryd.prog.cellsOf 3 = 1 by kernel_rfl, Nat.zero_mul, Nat.one_mul, List.drop_zero, List.drop_succ_cons, List.take_succ_cons, List.take_zero] at h0 h1
    rw [List.getElem?_eq_getElem (by omega)] at h0 h1
    obtain ⟨x, e0, _, i0⟩ := DataW.trod_int Tryd.underlying3 h0
    obtain ⟨y, e1, _, i1⟩ := DataW.trod_int Tryd.underlying3 h1
    simp at e0 e1
    subst e0 e1
    exact ⟨x, y, by rw [← Array.toArray_toList (xs := cs), hcs], i0, i1⟩
end

theorem subV_shape (n k : Int) : ∃ a e : Int, subV n k = .tuple #[.int .u64 a, .int .i64 e] := by
  unfold subV
  split
  · exact ⟨_, _, rfl⟩
  · split <;> exact ⟨_, _, rfl⟩
theorem rankV_shape (s : Nat) : ∃ a e : Int, rankV s = .tuple #[.int .u64 a, .int .i64 e] := by
  unfold rankV
  split <;> exact ⟨_, _, rfl⟩
theorem unV_shape (k : Int) (r : Nat) : ∃ a e : Int, unV k r = .tuple #[.int .u64 a, .int .i64 e] := by
  unfold unV
  split <;> exact ⟨_, _, rfl⟩
theorem nextV_shape (s : Nat) (n : Int) : ∃ (a : Int) (b : Bool), nextV s n = .tuple #[.int .u64 a, .bool b] := by
  unfold nextV
  split
  · exact ⟨_, _, rfl⟩
  · split <;> exact ⟨_, _, rfl⟩

set_option maxRecDepth 100000 in
set_option maxHeartbeats 8000000 in
theorem ranks_walk (s r : Nat) (n k : Int) (hs : s < 18446744073709551616) (hr : r < 18446744073709551616) (w : World) (hT : Tz w) :
    Calls Tryd.prog 4 #[.int .u64 s, .int .u64 r, .agg #[.int .i64 n, .int .i64 k]] w fun e w' => e = .returned (.bool true) ∧ Below w.heap.size w w' := by
  have HT := hide hT
  have HS := hide (fun W => sub_at n k W)
  have HRS := hide (fun W => rsub_at n k W)
  have HR := hide (fun W (h : Tz W) => rank_at s hs W h)
  have HRR := hide (fun W => rrank_at s hs W)
  have HU := hide (fun W => unrank_at k r hr W)
  have HRU := hide (fun W => runrank_at k r hr W)
  have HN := hide (fun W => next_at s hs n W)
  have HRN := hide (fun W => rnext_at s hs n W)
  obtain ⟨a1, a2, h1⟩ := subV_shape n k
  obtain ⟨b1, b2, h2⟩ := rankV_shape s
  obtain ⟨c1, c2, h3⟩ := unV_shape k r
  obtain ⟨d1, d2, h4⟩ := nextV_shape s n
  rw [h1] at HS HRS
  rw [h2] at HR HRR
  rw [h3] at HU HRU
  rw [h4] at HN HRN
  clear h1 h2 h3 h4 hT
  go_enter Tryd.func4, Tryd.ntmps4
  go_wp2_with fail
  have x0 : (w.alloc (.cells #[.int .i64 n, .int .i64 k] 35)).cell? ⟨w.heap.size, 0, none⟩ = some (.int .i64 n) := by rw [cell_of_row _ _ _ _ _ _ (heap_alloc_new w _)]; rfl
  have x1 : (w.alloc (.cells #[.int .i64 n, .int .i64 k] 35)).cell? ⟨w.heap.size, 1, none⟩ = some (.int .i64 k) := by rw [cell_of_row _ _ _ _ _ _ (heap_alloc_new w _)]; rfl
  have HB0 := hide (bal w (.cells #[.int .i64 n, .int .i64 k] 35))
  have HT0 := hide (HT.out.below (bal w (.cells #[.int .i64 n, .int .i64 k] 35)) HT.out.lt)
  generalize w.alloc (.cells #[.int .i64 n, .int .i64 k] 35) = w0 at *
  go_region
  have HB1 := hide (below_drewN HB0.out 1)
  have HT1 := hide (show Tz w0.drew from ⟨HT0.out.lt, HT0.out.tab⟩)
  change Hid (Below w.heap.size w w0.drew) at HB1
  generalize w0.drew = w1 at *
  clear HB0 HT0 x0 x1 HT
  go_wp2_with fail
  refine (HS.out _).mono ?_
  rintro e w2 ⟨rfl, hb⟩
  have HT2 := hide (HT1.out.below hb HT1.out.lt)
  have HB2 := hide (HB1.out.trans (hb.mono HB1.out.size))
  clear hb HT1 HB1
  go_wp2_with fail
  refine (HRS.out _).mono ?_
  rintro e w' ⟨rfl, rfl⟩
  go_wp2_with fail
  refine (HR.out _ HT2.out).mono ?_
  rintro e w3 ⟨rfl, hb⟩
  have HT3 := hide (HT2.out.below hb HT2.out.lt)
  have HB3 := hide (HB2.out.trans (hb.mono HB2.out.size))
  clear hb HT2 HB2
  go_wp2_with fail
  refine (HRR.out _).mono ?_
  rintro e w4 ⟨rfl, hb⟩
  have HT4 := hide (HT3.out.below hb HT3.out.lt)
  have HB4 := hide (HB3.out.trans (hb.mono HB3.out.size))
  clear hb HT3 HB3
  go_wp2_with fail
  refine (HU.out _).mono ?_
  rintro e w5 ⟨rfl, hb⟩
  have HT5 := hide (HT4.out.below hb HT4.out.lt)
  have HB5 := hide (HB4.out.trans (hb.mono HB4.out.size))
  clear hb HT4 HB4
  go_wp2_with fail
  refine (HRU.out _).mono ?_
  rintro e w6 ⟨rfl, hb⟩
  have HT6 := hide (HT5.out.below hb HT5.out.lt)
  have HB6 := hide (HB5.out.trans (hb.mono HB5.out.size))
  clear hb HT5 HB5
  go_wp2_with fail
  refine (HN.out _).mono ?_
  rintro e w' ⟨rfl, rfl⟩
  go_wp2_with fail
  refine (HRN.out _).mono ?_
  rintro e w7 ⟨rfl, hb⟩
  have HT7 := hide (HT6.out.below hb HT6.out.lt)
  have HB7 := hide (HB6.out.trans (hb.mono HB6.out.size))
  clear hb HT6 HB6
  go_wp2_with fail
  go_ret
  exact ⟨by simp, HB7.out⟩
end Go.Proofs.YtklkndnikcjbhaaDoor
