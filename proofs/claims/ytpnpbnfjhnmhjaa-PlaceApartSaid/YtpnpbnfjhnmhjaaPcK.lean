/-
  The program's first place.
-/
import Derived.Test.YtpnpbnfjhnmhjaaPcJ
import Derived.RangeFuncNested
namespace Go.Proofs.Ytpnpbnfjhnmhjaa
open Go.RowKit Go.Shelf
attribute [local go_sem] Oper.semAt_some
set_option linter.unusedVariables false
set_option linter.unusedSimpArgs false
set_option maxRecDepth 100000

/-- five boxes, one behind the other -/
theorem five_boxes (w : World) (a0 a1 a2 a3 a4 : Value) (t0 t1 t2 t3 t4 : TypeId) (W0 : World) (h : W0 = ((((w.alloc (.cells #[a0] t0)).alloc (.cells #[a1] t1)).alloc (.cells #[a2] t2)).alloc (.cells #[a3] t3)).alloc (.cells #[a4] t4)) :
    Below w.heap.size w W0 ∧ W0.heap.size = w.heap.size + 5 ∧ W0.heap[w.heap.size]? = some (.cells #[a0] t0 (0, 0)) ∧ W0.heap[w.heap.size + 1]? = some (.cells #[a1] t1 (0, 0)) ∧ W0.heap[w.heap.size + 1 + 1]? = some (.cells #[a2] t2 (0, 0)) ∧
      W0.heap[w.heap.size + 1 + 1 + 1]? = some (.cells #[a3] t3 (0, 0)) ∧ W0.heap[w.heap.size + 1 + 1 + 1 + 1]? = some (.cells #[a4] t4 (0, 0)) := by
  subst h
  have n0 := heap_alloc_new w (.cells #[a0] t0)
  have n1 := heap_alloc_new (w.alloc (.cells #[a0] t0)) (.cells #[a1] t1)
  have n2 := heap_alloc_new ((w.alloc (.cells #[a0] t0)).alloc (.cells #[a1] t1)) (.cells #[a2] t2)
  have n3 := heap_alloc_new (((w.alloc (.cells #[a0] t0)).alloc (.cells #[a1] t1)).alloc (.cells #[a2] t2)) (.cells #[a3] t3)
  have n4 := heap_alloc_new ((((w.alloc (.cells #[a0] t0)).alloc (.cells #[a1] t1)).alloc (.cells #[a2] t2)).alloc (.cells #[a3] t3)) (.cells #[a4] t4)
  simp only [World.size_alloc] at n1 n2 n3 n4
  refine ⟨((((bal w _).alloc (by simp) _).alloc (by simp; omega) _).alloc (by simp; omega) _).alloc (by simp; omega) _, by simp, ?_, ?_, ?_, ?_, n4⟩
  · exact (heap_alloc_old _ _ (by simp only [World.size_alloc]; omega)).trans ((heap_alloc_old _ _ (by simp only [World.size_alloc]; omega)).trans ((heap_alloc_old _ _ (by simp only [World.size_alloc]; omega)).trans ((heap_alloc_old _ _ (by simp only [World.size_alloc]; omega)).trans n0)))
  · exact (heap_alloc_old _ _ (by simp only [World.size_alloc]; omega)).trans ((heap_alloc_old _ _ (by simp only [World.size_alloc]; omega)).trans ((heap_alloc_old _ _ (by simp only [World.size_alloc]; omega)).trans n1))
  · exact (heap_alloc_old _ _ (by simp only [World.size_alloc]; omega)).trans ((heap_alloc_old _ _ (by simp only [World.size_alloc]; omega)).trans n2)
  · exact (heap_alloc_old _ _ (by simp only [World.size_alloc]; omega)).trans n3
/-- an early answer, in the two cells of the results -/
theorem cells_end {fn : Func} {tm : Array Value} {W : World} {w : World} {V a0 a1 : Value} {b : Nat} {t0 t1 : TypeId} {Ds : List Nat} {B : Nat} (hm : Mk B W Ds) (hb : Below w.heap.size w W) (hw : w.heap.size ≤ B) (h0 : W.heap[b]? = some (.cells #[a0] t0 (0, 0))) (h1 : W.heap[b + 1]? = some (.cells #[a1] t1 (0, 0)))
    (hr : ∀ W', W'.cell? ⟨b, 0, none⟩ = some a0 → W'.cell? ⟨b + 1, 0, none⟩ = some a1 → (results fn tm).run Try.prog W' = .ok (.tuple #[a0, a1]) W') (hV : V = .tuple #[a0, a1]) :
    postM fn (fun e w' => e = .returned V ∧ Below w.heap.size w w') .ret { tmps := tm, defers := marked Ds } W := by
  refine leave_ret hm fun W' hb' hk' => ⟨_, hr W' ?_ ?_, by rw [hV], hb.trans (hb'.mono (by omega))⟩
  · rw [cell_of_row _ _ _ _ _ _ (hk'.same _ _ h0 rfl)]; rfl
  · rw [cell_of_row _ _ _ _ _ _ (hk'.same _ _ h1 rfl)]; rfl

/-- what stands while it is looked for -/
structure Fb (w : World) (z a L : Nat) (pre : List PG) (W : World) : Prop where
  bel : Below w.heap.size w W
  sz : w.heap.size + 7 ≤ W.heap.size
  c0 : W.heap[w.heap.size]? = some (.cells #[.int .i64 (z : Nat)] 3 (0, 0))
  c1 : W.heap[w.heap.size + 1]? = some (.cells #[.int .i64 (a : Nat)] 3 (0, 0))
  c2 : W.heap[w.heap.size + 1 + 1]? = some (.cells #[.int .i64 (L : Nat)] 3 (0, 0))
  c3 : W.heap[w.heap.size + 1 + 1 + 1]? = some (.cells #[.int .i64 0] 3 (0, 0))
  c4 : W.heap[w.heap.size + 1 + 1 + 1 + 1]? = some (.cells #[.bool false] 4 (0, 0))
  ok : ∀ x ∈ pre, holdB z a x.1 = false
/-- how it is left -/
structure Fx (w : World) (z a L : Nat) (c : Code) (pre : List PG) (W : World) : Prop where
  bel : Below w.heap.size w W
  sz : w.heap.size + 7 ≤ W.heap.size
  out : ∃ p x, pre = p ++ [x] ∧ (∀ y ∈ p, holdB z a y.1 = false) ∧
    ((c = .ret ∧ holdB z a x.1 = true ∧ W.heap[w.heap.size + 1 + 1 + 1]? = some (.cells #[.int .i64 (upF x.1.1 a : Nat)] 3 (0, 0)) ∧ W.heap[w.heap.size + 1 + 1 + 1 + 1]? = some (.cells #[.bool true] 4 (0, 0))) ∨
     (c = .exit 0 ∧ L < upF x.1.1 a + z ∧ W.heap[w.heap.size + 1 + 1 + 1]? = some (.cells #[.int .i64 0] 3 (0, 0)) ∧ W.heap[w.heap.size + 1 + 1 + 1 + 1]? = some (.cells #[.bool false] 4 (0, 0))))
theorem Fb.from {w A B : World} {z a L : Nat} {pre : List PG} {C : Nat} {row : Option Nat} (hs : Fb w z a L pre A) (hg : A.grownBy B row) (hr : ∀ r, row = some r → C ≤ r ∧ ∃ o : Obj, A.heap[r]? = some o ∧ o.isCells = false) (hC : w.heap.size + 7 ≤ C) : Fb w z a L pre B := by
  have := hs.sz
  exact ⟨hs.bel.grown hg (by omega) (fun k e => by have := (hr k e).1; omega), Nat.le_trans hs.sz hg.size, row_kept hs.c0 hg hr, row_kept hs.c1 hg hr, row_kept hs.c2 hg hr, row_kept hs.c3 hg hr, row_kept hs.c4 hg hr, hs.ok⟩
theorem Fx.from {w A B : World} {z a L : Nat} {c : Code} {pre : List PG} {C : Nat} {row : Option Nat} (hs : Fx w z a L c pre A) (hg : A.grownBy B row) (hr : ∀ r, row = some r → C ≤ r ∧ ∃ o : Obj, A.heap[r]? = some o ∧ o.isCells = false) (hC : w.heap.size + 7 ≤ C) : Fx w z a L c pre B := by
  have := hs.sz
  refine ⟨hs.bel.grown hg (by omega) (fun k e => by have := (hr k e).1; omega), Nat.le_trans hs.sz hg.size, ?_⟩
  obtain ⟨p, x, h1, h2, h3⟩ := hs.out
  refine ⟨p, x, h1, h2, ?_⟩
  rcases h3 with ⟨e, h4, h5, h6⟩ | ⟨e, h4, h5, h6⟩
  · exact .inl ⟨e, h4, row_kept h5 hg hr, row_kept h6 hg hr⟩
  · exact .inr ⟨e, h4, row_kept h5 hg hr, row_kept h6 hg hr⟩
/-- the loop's own variable, in a box -/
def AxS (B : Nat) (tm : Value → Value → Array Value) (x : PG) (a : Act) (W : World) : Prop :=
  ∃ Bx, B ≤ Bx ∧ W.heap[Bx]? = some (.cells #[.int .i64 (x.1.1 : Nat), .int .i64 (x.1.2 : Nat)] 37 (0, 0)) ∧ a = { tmps := tm (.pointer (some ⟨Bx, 0, none⟩)) (.agg #[.int .i64 (x.1.1 : Nat), .int .i64 (x.1.2 : Nat)]), defers := [] }
theorem pg_part {pre p : List PG} {x : PG} {Y : List (Nat × Nat)} {k : Nat} (h1 : pre = p ++ [x]) (h2 : pg pre = Y.take k) : ∃ post, Y = pg p ++ x.1 :: post := by
  subst h1
  rw [pg_snoc] at h2
  have h := List.take_append_drop k Y
  rw [← h2, List.append_assoc] at h
  exact ⟨Y.drop k, h.symm⟩
theorem pg_all {pre : List PG} {P : Nat × Nat → Prop} (h : ∀ x ∈ pre, P x.1) : ∀ x ∈ pg pre, P x := by
  intro x hx
  obtain ⟨y, hy, rfl⟩ := List.mem_map.1 hx
  exact h y hy

set_option maxHeartbeats 8000000 in
theorem First_at (l : List Ai) (A : Option Addr) (c : Nat) (size align limit : Int) (w : World) (hI : Sps w A l) (hl : l.length ≤ 1000) :
    Calls Try.prog 10 #[.slice A l.length c, .int .i64 size, .int .i64 align, .int .i64 limit] w fun e w' => e = .returned (firstV l size align limit) ∧ Below w.heap.size w w' := by
  have HZ := hide (isSize_at size)
  have HA := hide (isAlign_at align)
  have HL := hide (isSize_at limit)
  have HM := hide (may_split size align limit)
  have HI := hide hI
  have HLe := hide hl
  obtain ⟨N, hN⟩ : ∃ N, N = l.length := ⟨_, rfl⟩
  have HN := hide hN
  rw [← hN] at hl ⊢
  clear hI hN
  refine calls_of_wp_marks Try.func10 rfl ?_
  simp only [Try.ntmps10, List.size_toArray, List.length_cons, List.length_nil, Nat.reduceAdd, Nat.reduceSub, Array.replicate_succ, Array.replicate_zero, List.push_toArray, List.append_toArray, List.nil_append, List.cons_append]
  have HW0 := hide (five_boxes w (.int .i64 size) (.int .i64 align) (.int .i64 limit) (.int .i64 0) (.bool false) 3 3 3 3 4 _ rfl)
  go_wp2_with fail
  go_step3
  generalize ((((w.alloc (.cells #[.int .i64 size] 3)).alloc (.cells #[.int .i64 align] 3)).alloc (.cells #[.int .i64 limit] 3)).alloc (.cells #[.int .i64 0] 3)).alloc (.cells #[.bool false] 4) = W0 at *
  obtain ⟨hB0, hS0, b0, b1, b2, b3, b4⟩ := HW0.out
  have k0 : W0.cell? ⟨w.heap.size, 0, none⟩ = some (.int .i64 size) := by rw [cell_of_row _ _ _ _ _ _ b0]; rfl
  have k1 : W0.cell? ⟨w.heap.size + 1, 0, none⟩ = some (.int .i64 align) := by rw [cell_of_row _ _ _ _ _ _ b1]; rfl
  have k2 : W0.cell? ⟨w.heap.size + 1 + 1, 0, none⟩ = some (.int .i64 limit) := by rw [cell_of_row _ _ _ _ _ _ b2]; rfl
  have k3 : W0.cell? ⟨w.heap.size + 1 + 1 + 1, 0, none⟩ = some (.int .i64 0) := by rw [cell_of_row _ _ _ _ _ _ b3]; rfl
  have k4 : W0.cell? ⟨w.heap.size + 1 + 1 + 1 + 1, 0, none⟩ = some (.bool false) := by rw [cell_of_row _ _ _ _ _ _ b4]; rfl
  have f3 : W0.frozen? ⟨w.heap.size + 1 + 1 + 1, 0, none⟩ = false := by simp [World.frozen?, b3]
  have f4 : W0.frozen? ⟨w.heap.size + 1 + 1 + 1 + 1, 0, none⟩ = false := by simp [World.frozen?, b4]
  have s0 : w.heap.size < W0.heap.size := by omega
  have s1 : w.heap.size + 1 < W0.heap.size := by omega
  have s2 : w.heap.size + 1 + 1 < W0.heap.size := by omega
  have s3 : w.heap.size + 1 + 1 + 1 < W0.heap.size := by omega
  have s4 : w.heap.size + 1 + 1 + 1 + 1 < W0.heap.size := by omega
  have HS0 := hide hS0
  have HB0 := hide hB0
  have Hb0 := hide b0
  have Hb1 := hide b1
  have Hb2 := hide b2
  have Hb3 := hide b3
  have Hb4 := hide b4
  clear HW0 hS0 hB0 b0 b1 b2 b3 b4
  have HBad := hide (fun (hm : mayB size align limit = false) => show firstV l size align limit = .tuple #[.int .i64 (-1), .bool false] from if_neg (by rw [hm]; decide))
  cases h1 : sizeB size with
  | false =>
    have HV := hide (HBad.out (by rw [HM.out, h1]; rfl))
    rw [h1] at HZ
    clear h1
    go_wp2_with fail
    refine (HZ.out _).mono ?_
    rintro e w1 ⟨rfl, rfl⟩
    go_wp2_with fail
    rw [Exit.noGoto_ret]
    exact cells_end (Ds := []) (b := w.heap.size + 1 + 1 + 1) (Mk.nil w.heap.size _) ((HB0.out.setCell (p := ⟨w.heap.size + 1 + 1 + 1, 0, none⟩) (by show w.heap.size ≤ w.heap.size + 1 + 1 + 1; omega) _).setCell (p := ⟨w.heap.size + 1 + 1 + 1 + 1, 0, none⟩) (by show w.heap.size ≤ w.heap.size + 1 + 1 + 1 + 1; omega) _) (Nat.le_refl _) (st_miss (by omega) (st_hit Hb3.out)) (st_hit (st_miss (by omega) Hb4.out)) (fun W' q0 q1 => by simp [results, Try.results10, go_sem, q0, q1]) HV.out
  | true =>
    cases h2 : alignB align with
    | false =>
      have HV := hide (HBad.out (by rw [HM.out, h1, h2]; rfl))
      rw [h1] at HZ
      rw [h2] at HA
      clear h1 h2
      go_wp2_with fail
      refine (HZ.out _).mono ?_
      rintro e w1 ⟨rfl, rfl⟩
      go_wp2_with fail
      refine (HA.out _).mono ?_
      rintro e w1 ⟨rfl, rfl⟩
      go_wp2_with fail
      rw [Exit.noGoto_ret]
      exact cells_end (Ds := []) (b := w.heap.size + 1 + 1 + 1) (Mk.nil w.heap.size _) ((HB0.out.setCell (p := ⟨w.heap.size + 1 + 1 + 1, 0, none⟩) (by show w.heap.size ≤ w.heap.size + 1 + 1 + 1; omega) _).setCell (p := ⟨w.heap.size + 1 + 1 + 1 + 1, 0, none⟩) (by show w.heap.size ≤ w.heap.size + 1 + 1 + 1 + 1; omega) _) (Nat.le_refl _) (st_miss (by omega) (st_hit Hb3.out)) (st_hit (st_miss (by omega) Hb4.out)) (fun W' q0 q1 => by simp [results, Try.results10, go_sem, q0, q1]) HV.out
    | true =>
      cases h3 : sizeB limit with
      | false =>
        have HV := hide (HBad.out (by rw [HM.out, h1, h2, h3]; rfl))
        rw [h1] at HZ
        rw [h2] at HA
        rw [h3] at HL
        clear h1 h2 h3
        go_wp2_with fail
        refine (HZ.out _).mono ?_
        rintro e w1 ⟨rfl, rfl⟩
        go_wp2_with fail
        refine (HA.out _).mono ?_
        rintro e w1 ⟨rfl, rfl⟩
        go_wp2_with fail
        refine (HL.out _).mono ?_
        rintro e w1 ⟨rfl, rfl⟩
        go_wp2_with fail
        rw [Exit.noGoto_ret]
        exact cells_end (Ds := []) (b := w.heap.size + 1 + 1 + 1) (Mk.nil w.heap.size _) ((HB0.out.setCell (p := ⟨w.heap.size + 1 + 1 + 1, 0, none⟩) (by show w.heap.size ≤ w.heap.size + 1 + 1 + 1; omega) _).setCell (p := ⟨w.heap.size + 1 + 1 + 1 + 1, 0, none⟩) (by show w.heap.size ≤ w.heap.size + 1 + 1 + 1 + 1; omega) _) (Nat.le_refl _) (st_miss (by omega) (st_hit Hb3.out)) (st_hit (st_miss (by omega) Hb4.out)) (fun W' q0 q1 => by simp [results, Try.results10, go_sem, q0, q1]) HV.out
      | true =>
        have hm : mayB size align limit = true := by rw [HM.out, h1, h2, h3]; rfl
        have hV : firstV l size align limit = match firstF (tkn l) size.toNat align.toNat limit.toNat with
          | some p => .tuple #[.int .i64 (p : Nat), .bool true]
          | none => .tuple #[.int .i64 (-1), .bool false] := if_pos hm
        obtain ⟨g1, g2, g3, g4, g5, g6⟩ := mayB_t hm
        obtain ⟨z, rfl⟩ := Int.eq_ofNat_of_zero_le g1
        obtain ⟨a, rfl⟩ := Int.eq_ofNat_of_zero_le (show 0 ≤ align by omega)
        obtain ⟨L, rfl⟩ := Int.eq_ofNat_of_zero_le g5
        simp only [Int.toNat_natCast] at hV
        rw [h1] at HZ
        rw [h2] at HA
        rw [h3] at HL
        clear h1 h2 h3 hm HBad HM g1 g5
        by_cases h0 : z = 0
        · have HV := hide (show firstV l z a L = .tuple #[.int .i64 0, .bool true] from by rw [hV, h0, firstF_zero]; rfl)
          subst h0
          clear hV
          go_wp2_with fail
          refine (HZ.out _).mono ?_
          rintro e w1 ⟨rfl, rfl⟩
          go_wp2_with fail
          refine (HA.out _).mono ?_
          rintro e w1 ⟨rfl, rfl⟩
          go_wp2_with fail
          refine (HL.out _).mono ?_
          rintro e w1 ⟨rfl, rfl⟩
          go_wp2_with fail
          rw [Exit.noGoto_ret]
          exact cells_end (Ds := []) (b := w.heap.size + 1 + 1 + 1) (Mk.nil w.heap.size _) ((HB0.out.setCell (p := ⟨w.heap.size + 1 + 1 + 1, 0, none⟩) (by show w.heap.size ≤ w.heap.size + 1 + 1 + 1; omega) _).setCell (p := ⟨w.heap.size + 1 + 1 + 1 + 1, 0, none⟩) (by show w.heap.size ≤ w.heap.size + 1 + 1 + 1 + 1; omega) _) (Nat.le_refl _) (st_miss (by omega) (st_hit Hb3.out)) (st_hit (st_miss (by omega) Hb4.out)) (fun W' q0 q1 => by simp [results, Try.results10, go_sem, q0, q1]) HV.out
        · have hz0 : (((z : Nat) : Int) == 0) = false := beq_eq_false_iff_ne.2 (by omega)
          have HVal := hide hV
          clear hV
          go_wp2_with fail
          refine (HZ.out _).mono ?_
          rintro e w1 ⟨rfl, rfl⟩
          go_wp2_with fail
          refine (HA.out _).mono ?_
          rintro e w1 ⟨rfl, rfl⟩
          go_wp2_with fail
          refine (HL.out _).mono ?_
          rintro e w1 ⟨rfl, rfl⟩
          go_wp2_with fail
          go_step3
          go_wp2_with fail
          refine (free_mk A N c (L : Nat) _).mono ?_
          rintro e w1 ⟨rfl, rfl⟩
          go_wp2_with fail
          have hT5 := heap_alloc2_old W0 (.cells #[.slice A N c] 22) (.cells #[.int .i64 (L : Nat)] 3)
          have hL5 := heap_alloc2_new W0 (.cells #[.slice A N c] 22) (.cells #[.int .i64 (L : Nat)] 3)
          have hb5 : Below W0.heap.size W0 ((W0.alloc (.cells #[.slice A N c] 22)).alloc (.cells #[.int .i64 (L : Nat)] 3)) := (bal W0 _).alloc (by simp) _
          have hs5 : ((W0.alloc (.cells #[.slice A N c] 22)).alloc (.cells #[.int .i64 (L : Nat)] 3)).heap.size = W0.heap.size + 2 := by simp
          generalize (W0.alloc (.cells #[.slice A N c] 22)).alloc (.cells #[.int .i64 (L : Nat)] 3) = W5 at *
          have hq : W0.heap.size = w.heap.size + 5 := HS0.out
          have HF0 := hide (show Fb w z a L [] W5 from ⟨HB0.out.trans (hb5.mono (by omega)), by omega, (hb5.block _ s0).trans Hb0.out, (hb5.block _ s1).trans Hb1.out, (hb5.block _ s2).trans Hb2.out, (hb5.block _ s3).trans Hb3.out, (hb5.block _ s4).trans Hb4.out, fun x h => by cases h⟩)
          have hlq : lbQ w.heap.size 0 W5 = none := lbQ_int (z := z) (k := .i64) (by rw [cell_of_row _ _ _ _ _ _ HF0.out.c0]; rfl)
          have HLb := hide (show Lb w.heap.size 5 w.heap.size 0 W5 from ⟨by omega, by omega, fun x h => by rw [hlq] at h; cases h⟩)
          have HAp := hide (show Ap w.heap.size 5 w.heap.size 0 (W0.heap.size + 1) W5 from ⟨by omega, by rw [hlq]; intro h; cases h⟩)
          have HI5 := hide (HI.out.of_below HF0.out.bel (Nat.le_refl _))
          have ha0 : 0 < a := by omega
          have hzp : 0 < z := by omega
          have hw5 : w.heap.size + 7 ≤ W5.heap.size := by omega
          clear hq hs5 k0 k1 k2 k3 k4 f3 f4 s0 s1 s2 s3 s4 hb5 hlq HZ HA HL Hb0 Hb1 Hb2 Hb3 Hb4 HB0 HI
          refine (wpIn_wide (n := 2)).1 ?_
          refine wpIn_rangeFunc_ownH rfl (by omega) rfl trivial (enters_of Try.func31 (by kernel_rfl) rfl) (free_stops (2 - 1) w.heap.size 5 w.heap.size 0 W0.heap.size (W0.heap.size + 1) l A c L HLe.out (by omega) W5 HLb.out (by rw [← HN.out]; exact hT5) hL5 HAp.out HI5.out)
            (fun h k => h.trans k) (fun W l o o' hl hlo ho _ => Kz.put (by omega) hlo ho) (Below.refl _ _) (fun _ => rfl) (Fb w z a L) (Fx w z a L) (fun p A B row hs hg hr => hs.from hg hr hw5) (fun c p A B row hs hg hr => hs.from hg hr hw5) HF0.out
            (AxS (w.heap.size + 7) (fun p v => #[.slice A N c, .int .i64 (z : Nat), .int .i64 (a : Nat), .int .i64 (L : Nat), undef, .pointer (some ⟨w.heap.size, 0, none⟩), .pointer (some ⟨w.heap.size + 1, 0, none⟩), .pointer (some ⟨w.heap.size + 1 + 1, 0, none⟩), .pointer (some ⟨w.heap.size + 1 + 1 + 1, 0, none⟩), .pointer (some ⟨w.heap.size + 1 + 1 + 1 + 1, 0, none⟩), p, undef,
              .int .i64 (z : Nat), .bool true, .bool false, .bool false, .int .i64 (a : Nat), .bool true, .bool false, .bool false, .bool false, .int .i64 (L : Nat), .bool true, .bool false, .bool false, .int .i64 (z : Nat), .bool false, .slice A N c, .int .i64 (L : Nat),
              .func (.func 31) #[] #[.pointer (some ⟨W0.heap.size, 0, none⟩), .pointer (some ⟨W0.heap.size + 1, 0, none⟩)], v, undef, undef, undef, undef, undef, undef, undef, undef, undef, undef, undef, undef, undef, undef, undef, undef, undef, undef])) (fun x a' u A B row hs hg hr => ?ax) ?assign ?body ?done ?stop
          case ax =>
            obtain ⟨Bx, h1, h3, h4⟩ := hs
            exact ⟨Bx, h1, row_kept h3 hg hr, h4⟩
          case assign =>
            intro ly pre x W K hT hK
            have HT := hide hT
            have HK := hide hK
            have hWs := hT.sz
            clear hT hK
            obtain ⟨⟨f, g⟩, hx⟩ := x
            simp only [pgEnc]
            gi_wp2
            refine HK.out _ _ ((KeepsOthers.alloc _ _).from _) (Kq.new (bal W _) (by omega)).toZ (HT.out.from (World.grownBy_alloc W _ none) (C := w.heap.size + 7) (fun r e => by cases e) (Nat.le_refl _)) ⟨W.heap.size, by omega, heap_alloc_new W _, rfl⟩
          case body =>
            rintro ly pre x a' W hl ⟨r, hr⟩ hT ⟨Bx, hB, hrow, rfl⟩ hlen
            obtain ⟨⟨f, g⟩, hx⟩ := x
            dsimp only at hx hrow ⊢
            have d0 : W.cell? ⟨Bx, 0, none⟩ = some (.int .i64 (f : Nat)) := by rw [cell_of_row _ _ _ _ _ _ hrow]; rfl
            have d1 : W.cell? ⟨Bx, 1, none⟩ = some (.int .i64 (g : Nat)) := by rw [cell_of_row _ _ _ _ _ _ hrow]; rfl
            have hBl : Bx < W.heap.size := (Array.getElem?_eq_some_iff.1 hrow).1
            have HT := hide hT
            have k0 : W.cell? ⟨w.heap.size, 0, none⟩ = some (.int .i64 (z : Nat)) := by rw [cell_of_row _ _ _ _ _ _ hT.c0]; rfl
            have k1 : W.cell? ⟨w.heap.size + 1, 0, none⟩ = some (.int .i64 (a : Nat)) := by rw [cell_of_row _ _ _ _ _ _ hT.c1]; rfl
            have k2 : W.cell? ⟨w.heap.size + 1 + 1, 0, none⟩ = some (.int .i64 (L : Nat)) := by rw [cell_of_row _ _ _ _ _ _ hT.c2]; rfl
            have k3 : W.cell? ⟨w.heap.size + 1 + 1 + 1, 0, none⟩ = some (.int .i64 0) := by rw [cell_of_row _ _ _ _ _ _ hT.c3]; rfl
            have k4 : W.cell? ⟨w.heap.size + 1 + 1 + 1 + 1, 0, none⟩ = some (.bool false) := by rw [cell_of_row _ _ _ _ _ _ hT.c4]; rfl
            have f3 : W.frozen? ⟨w.heap.size + 1 + 1 + 1, 0, none⟩ = false := by simp [World.frozen?, hT.c3]
            have f4 : W.frozen? ⟨w.heap.size + 1 + 1 + 1 + 1, 0, none⟩ = false := by simp [World.frozen?, hT.c4]
            have hs7 := hT.sz
            have s0 : w.heap.size < W.heap.size := by omega
            have s1 : w.heap.size + 1 < W.heap.size := by omega
            have s2 : w.heap.size + 1 + 1 < W.heap.size := by omega
            have s3 : w.heap.size + 1 + 1 + 1 < W.heap.size := by omega
            have s4 : w.heap.size + 1 + 1 + 1 + 1 < W.heap.size := by omega
            have HUp := hide (up_at f a ha0 (by omega) (by omega) W)
            have hub := upF_lt (n := f) ha0
            have HHold := hide (show holdB z a (f, g) = decide (upF f a + z ≤ g) from rfl)
            clear hT hrow hr hl hlen
            generalize hu : upF f a = u at *
            have HU := hide hu
            clear hu
            gi_wp2
            refine ⟨trivial, rfl, (CallsIn.inRound ly (callsIn_wide.2 HUp.out)).mono ?_⟩
            rintro e W1 ⟨rfl, rfl⟩
            by_cases hh : (u : Int) + (z : Int) ≤ (g : Int)
            · have HH := hide (show holdB z a (f, g) = true by rw [HHold.out]; exact decide_eq_true (by omega))
              gi_wp2
              refine ⟨((KeepsOthers.setCell _ _ _).trans (KeepsOthers.setCell _ _ _)).from _, (HT.out.bel.setCell (p := ⟨w.heap.size + 1 + 1 + 1, 0, none⟩) (by show w.heap.size ≤ w.heap.size + 1 + 1 + 1; omega) _).setCell (p := ⟨w.heap.size + 1 + 1 + 1 + 1, 0, none⟩) (by show w.heap.size ≤ w.heap.size + 1 + 1 + 1 + 1; omega) _, by simpa using HT.out.sz, pre, ⟨(f, g), hx⟩, rfl, HT.out.ok, .inl ⟨rfl, HH.out, ?_, ?_⟩⟩
              · rw [HU.out]
                exact st_miss (by omega) (st_hit HT.out.c3)
              · exact st_hit (st_miss (by omega) HT.out.c4)
            · have HH := hide (show holdB z a (f, g) = false by rw [HHold.out]; exact decide_eq_false (by omega))
              by_cases hg : (L : Int) < (u : Int) + (z : Int)
              · gi_wp2
                refine ⟨(KeepsOthers.refl _).from _, HT.out.bel, HT.out.sz, pre, ⟨(f, g), hx⟩, rfl, HT.out.ok, .inr ⟨rfl, by dsimp only; rw [HU.out]; omega, HT.out.c3, HT.out.c4⟩⟩
              · gi_wp2
                refine ⟨(KeepsOthers.refl _).from _, (Kq.refl _ _ _ _ _).toZ, { HT.out with ok := fun y hy => ?_ }⟩
                rcases List.mem_append.1 hy with h6 | h6
                · exact HT.out.ok y h6
                · obtain rfl := List.mem_singleton.1 h6; exact HH.out
          case done =>
            rintro D xs W hD hxs hT hK
            have HV := hide (show firstV l z a L = .tuple #[.int .i64 (-1), .bool false] from by rw [HVal.out, first_miss ha0 hzp (by rw [← hxs]; exact pg_all hT.ok)])
            have HT := hide hT
            have k3 : W.cell? ⟨w.heap.size + 1 + 1 + 1, 0, none⟩ = some (.int .i64 0) := by rw [cell_of_row _ _ _ _ _ _ hT.c3]; rfl
            have k4 : W.cell? ⟨w.heap.size + 1 + 1 + 1 + 1, 0, none⟩ = some (.bool false) := by rw [cell_of_row _ _ _ _ _ _ hT.c4]; rfl
            have f3 : W.frozen? ⟨w.heap.size + 1 + 1 + 1, 0, none⟩ = false := by simp [World.frozen?, hT.c3]
            have f4 : W.frozen? ⟨w.heap.size + 1 + 1 + 1 + 1, 0, none⟩ = false := by simp [World.frozen?, hT.c4]
            have hs7 := hT.sz
            have s3 : w.heap.size + 1 + 1 + 1 < W.heap.size := by omega
            have s4 : w.heap.size + 1 + 1 + 1 + 1 < W.heap.size := by omega
            have HMk := hide ((Mk.nil (w.heap.size + 7) W).more (D := D) (by omega) hK (by simp))
            clear hT hxs hK
            go_wp2_with fail
            rw [Exit.noGoto_ret]
            exact cells_end (Ds := [D]) (b := w.heap.size + 1 + 1 + 1) (HMk.out.on ((KeepsOthers.setCell _ _ _).trans (KeepsOthers.setCell _ _ _))) ((HT.out.bel.setCell (p := ⟨w.heap.size + 1 + 1 + 1, 0, none⟩) (by show w.heap.size ≤ w.heap.size + 1 + 1 + 1; omega) _).setCell (p := ⟨w.heap.size + 1 + 1 + 1 + 1, 0, none⟩) (by show w.heap.size ≤ w.heap.size + 1 + 1 + 1 + 1; omega) _) (by omega) (st_miss (by omega) (st_hit HT.out.c3)) (st_hit (st_miss (by omega) HT.out.c4)) (fun W' q0 q1 => by simp [results, Try.results10, go_sem, q0, q1]) HV.out
          case stop =>
            rintro D c pre W hD ⟨n, hn1, hn2⟩ hX hK
            obtain ⟨p, x, hp, hpn, hcase⟩ := hX.out
            obtain ⟨post, hpost⟩ := pg_part hp hn2
            have HMk := hide ((Mk.nil (w.heap.size + 7) W).more (D := D) (by omega) hK (by simp))
            have HX := hide hX
            have hs7 := hX.sz
            rcases hcase with ⟨rfl, h4, h5, h6⟩ | ⟨rfl, h4, h5, h6⟩
            · have HV := hide (show firstV l z a L = .tuple #[.int .i64 (upF x.1.1 a : Nat), .bool true] from by rw [HVal.out, first_hit ha0 hzp hpost (pg_all hpn) h4])
              have H5 := hide h5
              have H6 := hide h6
              clear hX hn2 hn1 hK h5 h6 hpost
              refine wpIn_wide.2 ?_
              go_wp2_with fail
              rw [Exit.noGoto_ret]
              exact cells_end (Ds := [D]) (b := w.heap.size + 1 + 1 + 1) HMk.out HX.out.bel (by omega) H5.out H6.out (fun W' q0 q1 => by simp [results, Try.results10, go_sem, q0, q1]) HV.out
            · have HV := hide (show firstV l z a L = .tuple #[.int .i64 (-1), .bool false] from by rw [HVal.out, first_stop ha0 hzp hpost (pg_all hpn) h4])
              have H5 := hide h5
              have H6 := hide h6
              have k3 : W.cell? ⟨w.heap.size + 1 + 1 + 1, 0, none⟩ = some (.int .i64 0) := by rw [cell_of_row _ _ _ _ _ _ h5]; rfl
              have k4 : W.cell? ⟨w.heap.size + 1 + 1 + 1 + 1, 0, none⟩ = some (.bool false) := by rw [cell_of_row _ _ _ _ _ _ h6]; rfl
              have f3 : W.frozen? ⟨w.heap.size + 1 + 1 + 1, 0, none⟩ = false := by simp [World.frozen?, h5]
              have f4 : W.frozen? ⟨w.heap.size + 1 + 1 + 1 + 1, 0, none⟩ = false := by simp [World.frozen?, h6]
              have s3 : w.heap.size + 1 + 1 + 1 < W.heap.size := by omega
              have s4 : w.heap.size + 1 + 1 + 1 + 1 < W.heap.size := by omega
              clear hX hn2 hn1 hK h5 h6 hpost
              refine wpIn_wide.2 ?_
              go_wp2_with fail
              rw [Exit.noGoto_ret]
              exact cells_end (Ds := [D]) (b := w.heap.size + 1 + 1 + 1) (HMk.out.on ((KeepsOthers.setCell _ _ _).trans (KeepsOthers.setCell _ _ _))) ((HX.out.bel.setCell (p := ⟨w.heap.size + 1 + 1 + 1, 0, none⟩) (by show w.heap.size ≤ w.heap.size + 1 + 1 + 1; omega) _).setCell (p := ⟨w.heap.size + 1 + 1 + 1 + 1, 0, none⟩) (by show w.heap.size ≤ w.heap.size + 1 + 1 + 1 + 1; omega) _) (by omega) (st_miss (by omega) (st_hit H5.out)) (st_hit (st_miss (by omega) H6.out)) (fun W' q0 q1 => by simp [results, Try.results10, go_sem, q0, q1]) HV.out
end Go.Proofs.Ytpnpbnfjhnmhjaa
