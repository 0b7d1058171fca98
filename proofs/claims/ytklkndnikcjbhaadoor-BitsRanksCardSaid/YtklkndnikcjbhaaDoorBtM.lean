/-
  Rank: how many of its size are less.
-/
import Derived.Test.YtklkndnikcjbhaaDoorBtL
import Derived.Test.YtklkndnikcjbhaaDoorBtH
namespace Go.Proofs.YtklkndnikcjbhaaDoor
open Go.RowKit Go.Shelf
attribute [local go_sem] Oper.semAt_some
set_option linter.unusedVariables false
set_option linter.unusedSimpArgs false

noncomputable def rankV (s : Nat) : Value := if s < 2 ^ 60 then .tuple #[.int .u64 (rk 60 s : Nat), .int .i64 0] else .tuple #[.int .u64 0, .int .i64 120]
theorem rkL_snoc (l : List Nat) (i : Nat) : rkL 0 (l ++ [i]) = rkL 0 l + ch i (l.length + 1) := by
  rw [rkL_append]; simp [rkL]
theorem rk_mem {s : Nat} (hs : s < 2 ^ 60) : rkL 0 (mem s) = rk 60 s := by
  unfold rk
  rw [mem_low hs (by decide)]
theorem rk_small {s : Nat} : rk 60 s < 18446744073709551616 := by
  have h1 := rk_lt 60 s
  have h2 := ch_64 (n := 60) (by decide) (num 60 s)
  omega

structure RkI (tb : Array Value) (w w1 W : World) (r k : Nat) : Prop where
  bel : Below w.heap.size w W
  tb : W.heap[w1.heap.size]? = some (.cells tb 64 (0, 0))
  rc : W.heap[w1.heap.size + 1]? = some (.cells #[.int .u64 (r : Nat)] 22 (0, 0))
  kc : W.heap[w1.heap.size + 1 + 1]? = some (.cells #[.int .i64 (k : Nat)] 3 (0, 0))
theorem RkI.from {tb : Array Value} {w w1 A B : World} {r k : Nat} {C : Nat} {row : Option Nat} (hs : RkI tb w w1 A r k) (hg : A.grownBy B row) (hr : ∀ r, row = some r → C ≤ r ∧ ∃ o : Obj, A.heap[r]? = some o ∧ o.isCells = false) (hC : w.heap.size ≤ C) : RkI tb w w1 B r k :=
  ⟨hs.bel.grown hg hs.bel.size fun k hk => by have := (hr k hk).1; omega, row_kept hs.tb hg hr, row_kept hs.rc hg hr, row_kept hs.kc hg hr⟩

set_option maxRecDepth 100000 in
set_option maxHeartbeats 4000000 in
theorem rank_at (s : Nat) (hs : s < 18446744073709551616) (w : World) (hT : Tz w) :
    Calls Tryd.prog 24 #[.int .u64 s] w fun e w' => e = .returned (rankV s) ∧ Below w.heap.size w w' := by
  have HT := hide hT
  by_cases hlo : s < 2 ^ 60
  · have H := hide (show rankV s = .tuple #[.int .u64 (rk 60 s : Nat), .int .i64 0] from if_pos hlo)
    have HB := hide (show belowB s 60 = true from decide_eq_true hlo)
    have HM := hide (fun m (hm : m ∈ mem s) => show m < 60 from by
      rw [mem_low hlo (by decide)] at hm; exact (memn_mem.1 hm).1)
    have HLn := hide (show (mem s).length ≤ 60 by rw [mem_low hlo (by decide)]; exact num_le 60 s)
    have HRk := hide (rk_mem hlo)
    have hz := (zero_of_info info_tab).1
    refine calls_of_wp_marks Tryd.func24 rfl ?_
    simp only [Tryd.ntmps24, List.size_toArray, List.length_cons, List.length_nil, Nat.reduceAdd, Nat.reduceSub, Array.replicate_succ, Array.replicate_zero, List.push_toArray, List.append_toArray, List.nil_append, List.cons_append]
    go_wp2_with fail
    refine (isBelow_at s hs 60 (by decide) _).mono ?_
    rintro e w' ⟨rfl, rfl⟩
    rw [HB.out]
    go_wp2_with fail
    refine (subsets_at _).mono ?_
    rintro e w1 ⟨rfl, hb1⟩
    have HB1 := hide hb1
    clear hb1 hlo
    go_wp2_with (refine wpList_store_row rfl 64 (.tmp 4) (.tmp 11) rfl w1.heap.size tab rfl rfl 64 _ (heap_alloc_new w1 _) tab_info (by rw [cells_size, tab_size]) (cells_one _ _) ?_; rw [World.setRow_alloc_new])
    have hI : RkI tab w w1 (((w1.alloc (.cells tab 64)).alloc (.cells #[.int .u64 0] 22)).alloc (.cells #[.int .i64 0] 3)) 0 0 :=
      ⟨HB1.out.trans ((((bal w1 _).alloc (by simp) _).alloc (by simp; omega) _).mono HB1.out.size), (heap_alloc_old _ _ (by simp; omega)).trans (heap_alloc2_old w1 _ _), (heap_alloc_old _ _ (by simp)).trans (heap_alloc2_new w1 _ _), by have := heap_alloc_new ((w1.alloc (.cells tab 64)).alloc (.cells #[.int .u64 0] 22)) (.cells #[.int .i64 0] 3); simpa using this⟩
    have hz1 : w1.heap.size + 3 ≤ (((w1.alloc (.cells tab 64)).alloc (.cells #[.int .u64 0] 22)).alloc (.cells #[.int .i64 0] 3)).heap.size := by simp
    have hzw := HB1.out.size
    clear hz
    generalize ((w1.alloc (.cells tab 64)).alloc (.cells #[.int .u64 0] 22)).alloc (.cells #[.int .i64 0] 3) = w2 at hI hz1 ⊢
    refine (members_at s _).mono ?_
    rintro e w3 ⟨rfl, rfl⟩
    have hT2 : Tz (w2.alloc (.cells #[.int .u64 s] 22)) := hT.below (hI.bel.alloc hI.bel.size _) hT.lt
    have hS2 : (w2.alloc (.cells #[.int .u64 s] 22)).cell? ⟨w2.heap.size, 0, none⟩ = some (.int .u64 s) := by rw [cell_of_row _ _ _ _ _ _ (heap_alloc_new w2 _)]; rfl
    have hz2 : w2.heap.size + 1 ≤ (w2.alloc (.cells #[.int .u64 s] 22)).heap.size := by simp
    have hI2 : RkI tab w w1 (w2.alloc (.cells #[.int .u64 s] 22)) 0 0 :=
      ⟨hI.bel.alloc hI.bel.size _, (heap_alloc_old _ _ (by omega)).trans hI.tb, (heap_alloc_old _ _ (by omega)).trans hI.rc, (heap_alloc_old _ _ (by omega)).trans hI.kc⟩
    clear hI
    go_wp2_with fail
    generalize w2.alloc (.cells #[.int .u64 s] 22) = w3 at hT2 hS2 hz2 hI2 ⊢
    have htb : ∀ n k, n ≤ 60 → k ≤ 60 → tab[n * 61 + k]? = some (.int .u64 (ch n k : Nat)) := fun n k hn hk => tab_get hn hk
    have HTB := hide htb
    clear htb
    generalize tab = tb at *
    refine' wp_mem s w2.heap.size hs rfl (by omega) hS2 hT2 rfl
      (fun pre W => RkI tb w w1 W (rkL 0 (valsN pre) % 18446744073709551616) pre.length)
      (fun j pre W => False)
      (fun s A B row hs hg hr => hs.from hg hr (by omega))
      (fun j s A B row hs hg hr => hs)
      hI2 _ ?assign ?body ?done ?stop
    case assign =>
      intro l x W K hK
      gi_wp2
      exact hK
    case body =>
      rintro l pre ⟨m, hm⟩ W hI hlen
      dsimp only at hm ⊢
      have hm60 := HM.out m hm
      have hl60 := HLn.out
      have hk : pre.length + 1 ≤ 60 := by omega
      have hv : (valsN pre).length = pre.length := by simp [valsN]
      have HSn := hide (show rkL 0 (valsN (pre ++ [⟨m, hm⟩])) % 18446744073709551616 = (rkL 0 (valsN pre) % 18446744073709551616 + ch m (pre.length + 1)) % 18446744073709551616 from by
        rw [valsN_snoc, rkL_snoc, hv]
        show (rkL 0 (valsN pre) + ch m (pre.length + 1)) % 18446744073709551616 = _
        omega)
      have HLs := hide (show (pre ++ [(⟨m, hm⟩ : ME s)]).length = pre.length + 1 from by simp)
      generalize hr : rkL 0 (valsN pre) % 18446744073709551616 = r at *
      have hr2 : r < 18446744073709551616 := by omega
      have ct : W.cell? ⟨w1.heap.size, m * 61 + (pre.length + 1), none⟩ = some (.int .u64 (ch m (pre.length + 1) : Nat)) := by rw [cell_of_row _ _ _ _ _ _ hI.tb]; exact HTB.out m _ (by omega) hk
      have cr : W.cell? ⟨w1.heap.size + 1, 0, none⟩ = some (.int .u64 (r : Nat)) := by rw [cell_of_row _ _ _ _ _ _ hI.rc]; rfl
      have ck : W.cell? ⟨w1.heap.size + 1 + 1, 0, none⟩ = some (.int .i64 (pre.length : Nat)) := by rw [cell_of_row _ _ _ _ _ _ hI.kc]; rfl
      have fr : W.frozen? ⟨w1.heap.size + 1, 0, none⟩ = false := by simp [World.frozen?, hI.rc]
      have fk : W.frozen? ⟨w1.heap.size + 1 + 1, 0, none⟩ = false := by simp [World.frozen?, hI.kc]
      have HI := hide hI
      have hch := ch_64 (n := m) (by omega) (pre.length + 1)
      generalize hc : ch m (pre.length + 1) = c at *
      have s1 : IntKind.u64.wrap ((r : Int) + (c : Int)) = (((r + c) % 18446744073709551616 : Nat) : Int) := by rw [IntKind.wrap_u64]; omega
      have HT5 := hT2
      clear hI hc hr hv hS2 hI2 hlen hT2 hT HM HLn HRk HTB
      generalize pre.length = k at *
      gi_wp2_with fail
      gi_region
      all_goals
        gi_wp2_with fail
        have hb : Below w.heap.size w (((W.setCell ⟨w1.heap.size + 1 + 1, 0, none⟩ (.int .i64 ((k : Int) + 1))).setCell ⟨w1.heap.size + 1, 0, none⟩ (.int .u64 (((r : Int) + (c : Int)) % 18446744073709551616))).drew) :=
          below_drewN ((HI.out.bel.setCell (p := ⟨w1.heap.size + 1 + 1, 0, none⟩) (by show w.heap.size ≤ w1.heap.size + 1 + 1; omega) _).setCell (p := ⟨w1.heap.size + 1, 0, none⟩) (by show w.heap.size ≤ w1.heap.size + 1; omega) _) 1
        refine ⟨((KeepsOthers.setCell _ _ _).trans (KeepsOthers.setCell _ _ _)).trans (KeepsOthers.drew _), fun _ => HT.out.below hb HT.out.lt, hb, ?_, ?_, ?_⟩
        · exact (setCell_other (by omega)).trans ((setCell_other (by omega)).trans HI.out.tb)
        · refine (set_cells ((setCell_other (by omega)).trans HI.out.rc)).trans ?_
          rw [HSn.out]
          rfl
        · refine (setCell_other (by omega)).trans ((set_cells HI.out.kc).trans ?_)
          rw [HLs.out]
          rfl
    case done =>
      rintro D W hD hI hK
      have e1 : rkL 0 (valsN (meL s)) % 18446744073709551616 = rk 60 s := by rw [valsN_all, HRk.out]; exact Nat.mod_eq_of_lt rk_small
      rw [e1] at hI
      have cr : W.cell? ⟨w1.heap.size + 1, 0, none⟩ = some (.int .u64 (rk 60 s : Nat)) := by rw [cell_of_row _ _ _ _ _ _ hI.rc]; rfl
      have HI := hide hI
      have hzw2 := hI.bel.size
      clear hI hT2 hS2 hI2 hT e1 HM HLn HRk HTB
      generalize rk 60 s = rr at *
      go_wp2
      refine marks_done hK (v := .tuple #[.int .u64 (rr : Nat), .int .i64 0]) (by simp [results, Tryd.results24, go_sem]) ⟨by rw [H.out], below_put HI.out.bel (by omega) hK _⟩
    case stop => exact fun _ _ _ _ _ _ h _ => h.elim
  · have H := hide (show rankV s = .tuple #[.int .u64 0, .int .i64 120] from if_neg hlo)
    have HB := hide (show belowB s 60 = false from decide_eq_false hlo)
    clear hlo
    go_enter Tryd.func24, Tryd.ntmps24
    go_wp2_with fail
    refine (isBelow_at s hs 60 (by decide) _).mono ?_
    rintro e w' ⟨rfl, rfl⟩
    rw [HB.out]
    go_wp2_with fail
    go_ret2
    exact ⟨by rw [H.out]; rfl, Below.refl _ _⟩
end Go.Proofs.YtklkndnikcjbhaaDoor
