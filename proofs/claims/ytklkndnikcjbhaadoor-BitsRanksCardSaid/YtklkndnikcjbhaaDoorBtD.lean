/-
  Members: what a set has, in a new list.
-/
import Derived.Test.YtklkndnikcjbhaaDoorBtC
namespace Go.Proofs.YtklkndnikcjbhaaDoor
open Go.RowKit Go.Shelf
attribute [local go_sem] Oper.semAt_some
set_option linter.unusedVariables false
set_option linter.unusedSimpArgs false

theorem info_int : (Tryd.prog.info? 3).map (fun i => (i.zero, i.size, i.bytes)) = some (some (.int .i64 0), 1, 8) := by kernel_rfl
theorem under_ints : Tryd.prog.underlying 25 = some (.slice 3) := Tryd.underlying25
/-- numbers of one's own -/
abbrev OwnL (W : World) (B : Nat) (h : Value) (l : List Int) : Prop := W.ownsRow B 3 1 h l.length (l.map (Value.int .i64))
def valsL {s : Nat} (pre : List (ME s)) : List Int := pre.map fun x => (x.1 : Int)
theorem valsL_snoc {s : Nat} (pre : List (ME s)) (x : ME s) : valsL (pre ++ [x]) = valsL pre ++ [(x.1 : Int)] := by simp [valsL]
theorem valsL_len {s : Nat} (pre : List (ME s)) : (valsL pre).length = pre.length := by simp [valsL]
def memI (s : Nat) : List Int := (mem s).map fun (x : Nat) => (x : Int)
theorem valsL_all (s : Nat) : valsL (meL s) = memI s := by
  have h := congrArg (List.map fun x : Nat => (x : Int)) (meL_val s)
  rw [List.map_map] at h
  exact h
theorem mem_len (s : Nat) : (mem s).length ≤ 64 := pc_le s

/-- a list that grows in a cell of the call's own -/
structure GrI (w W : World) (l : List Int) : Prop where
  bel : Below w.heap.size w W
  row : ∃ h, W.heap[w.heap.size]? = some (.cells #[h] 25 (0, 0)) ∧ OwnL W (w.heap.size + 1) h l
theorem GrI.from {w A B : World} {l : List Int} {C : Nat} {row : Option Nat} (hs : GrI w A l) (hg : A.grownBy B row) (hr : ∀ r, row = some r → C ≤ r ∧ ∃ o : Obj, A.heap[r]? = some o ∧ o.isCells = false) (hC : w.heap.size ≤ C) : GrI w B l := by
  obtain ⟨h, h1, h2⟩ := hs.row
  exact ⟨hs.bel.grown hg hs.bel.size fun k hk => by have := (hr k hk).1; omega, h, row_kept h1 hg hr, own_kept h2 hg hr⟩

set_option maxRecDepth 100000 in
set_option maxHeartbeats 2000000 in
theorem members_any (s : Nat) (hs : s < 18446744073709551616) (w : World) (hT : Tz w) :
    Calls Tryd.prog 13 #[.int .u64 s] w fun e w' => ∃ h, e = .returned h ∧ OwnL w' w.heap.size h (memI s) ∧ Below w.heap.size w w' := by
  have HT := hide hT
  refine calls_of_wp_marks Tryd.func13 rfl ?_
  simp only [Tryd.ntmps13, List.size_toArray, List.length_cons, List.length_nil, Nat.reduceAdd, Nat.reduceSub, Array.replicate_succ, Array.replicate_zero, List.push_toArray, List.append_toArray, List.nil_append, List.cons_append]
  go_wp2_with fail
  have hI : GrI w (w.alloc (.cells #[.slice none 0 0] 25)) [] := ⟨bal w _, .slice none 0 0, heap_alloc_new w _, World.ownsRow_nil _ _ _ _⟩
  have hz : w.heap.size + 1 ≤ (w.alloc (.cells #[.slice none 0 0] 25)).heap.size := by simp
  generalize w.alloc (.cells #[.slice none 0 0] 25) = w1 at hI hz ⊢
  refine (members_at s _).mono ?_
  rintro e w2 ⟨rfl, rfl⟩
  have hT2 : Tz (w1.alloc (.cells #[.int .u64 s] 22)) := hT.below (hI.bel.alloc hI.bel.size _) hT.lt
  have hS2 : (w1.alloc (.cells #[.int .u64 s] 22)).cell? ⟨w1.heap.size, 0, none⟩ = some (.int .u64 s) := by rw [cell_of_row _ _ _ _ _ _ (heap_alloc_new w1 _)]; rfl
  have hz2 : w1.heap.size + 1 ≤ (w1.alloc (.cells #[.int .u64 s] 22)).heap.size := by simp
  have hI2 : GrI w (w1.alloc (.cells #[.int .u64 s] 22)) [] := by
    obtain ⟨h, h1, h2⟩ := hI.row
    exact ⟨hI.bel.alloc hI.bel.size _, h, (heap_alloc_old _ _ (by omega)).trans h1, own_below h2 (bal _ _) (Nat.le_refl _)⟩
  clear hI
  go_wp2_with fail
  generalize w1.alloc (.cells #[.int .u64 s] 22) = w2 at hT2 hS2 hz2 hI2 ⊢
  refine' wp_mem s w1.heap.size hs rfl (by omega) hS2 hT2 rfl
    (fun pre W => GrI w W (valsL pre))
    (fun j pre W => False)
    (fun s A B row hs hg hr => hs.from hg hr (by omega))
    (fun j s A B row hs hg hr => hs)
    hI2 _ ?assign ?body ?done ?stop
  case assign =>
    intro l x W K hK
    gi_wp2
    exact hK
  case body =>
    rintro l pre ⟨m, hm⟩ W hG hlen
    dsimp only at hm ⊢
    obtain ⟨h, h1, h2⟩ := hG.row
    obtain ⟨A, c, rfl⟩ := own_slice h2
    have hbox : W.cell? ⟨w.heap.size, 0, none⟩ = some (.slice A (valsL pre).length c) := by rw [cell_of_row _ _ _ _ _ _ h1]; rfl
    have hlen2 : (valsL pre).length ≤ 64 := by rw [valsL_len]; have := mem_len s; omega
    have HB := hide hG.bel
    have H1 := hide h1
    have H2 := hide h2
    have HSn := hide (valsL_snoc pre ⟨m, hm⟩)
    have hzw := hG.bel.size
    generalize hV : valsL (pre ++ [⟨m, hm⟩]) = L' at *
    have HV := hide hV
    clear hV
    generalize valsL pre = L at *
    clear hG h1 h2 hT2 hS2 hI2 hlen hT
    have hlo : w.heap.size < W.heap.size := (Array.getElem?_eq_some_iff.1 H1.out).1
    gi_wp2_with (first
      | (gi_at_builtin
         refine wpListIn_one _ rfl _ _ 25 rfl 3 (.int .i64 0) 1 8 under_ints info_int rfl (by decide) (by decide) (w.heap.size + 1) _ _ _ rfl (own_below H2.out (bal W _) (Nat.le_refl _)) _ _ [.int .i64 (m : Int)] rfl (heap_alloc_new W _) rfl (by simp [Value.oneCell']) (by omega) (by simp; omega) ?_
         intro v' w4 hown4 hgr4 hwh
         obtain ⟨A4, c4, rfl⟩ := own_slice hown4
         have HO4 := hide hown4
         have HG4 := hide hgr4
         have hb4 : w4.heap[w.heap.size]? = some (.cells #[.slice A L.length c] 25 (0, 0)) := by
           refine (hgr4.block _ (by simp; omega) (fun e => ?_)).trans ((heap_alloc_old W _ hlo).trans H1.out)
           have := (own_block H2.out e.symm).2.1
           omega
         have HB4 := hide hb4
         have cs4 : w4.cell? ⟨w.heap.size, 0, none⟩ = some (.slice A L.length c) := by rw [cell_of_row _ _ _ _ _ _ hb4]; rfl
         have fs4 : w4.frozen? ⟨w.heap.size, 0, none⟩ = false := by simp [World.frozen?, hb4]
         clear hown4 hgr4 hwh hb4))
    have hb5 : Below w.heap.size w w4 := below_own (HB.out.alloc hzw _) (own_below H2.out (bal W (.cells #[.int .i64 (m : Int)] 3)) (Nat.le_refl _)) HG4.out (by omega) (by simp; omega)
    have hb6 : Below w.heap.size w (w4.setCell ⟨w.heap.size, 0, none⟩ (.slice A4 (L.length + 1) c4)) := hb5.setCell (p := ⟨w.heap.size, 0, none⟩) (Nat.le_refl _) _
    refine ⟨((KeepsOthers.alloc W _).trans (keeps_own (own_below H2.out (bal W (.cells #[.int .i64 (m : Int)] 3)) (Nat.le_refl _)) HG4.out)).trans (KeepsOthers.setCell _ _ _), fun _ => HT.out.below hb6 HT.out.lt, hb6, .slice A4 (L.length + 1) c4, set_cells HB4.out, ?_⟩
    have hV : valsL (pre ++ [⟨m, hm⟩]) = L ++ [(m : Int)] := by rw [HV.out, HSn.out]
    rw [hV]
    have hO := own_stands HO4.out (W' := w4.setCell ⟨w.heap.size, 0, none⟩ (.slice A4 (L.length + 1) c4)) fun k hk => setCell_other (by have := (own_block HO4.out hk).2.1; omega)
    show World.ownsRow _ _ _ _ _ _ _
    rw [List.map_append, List.length_append]
    exact hO
  case done =>
    rintro D W hD hG hK
    obtain ⟨h, h1, h2⟩ := hG.row
    rw [valsL_all] at h2
    obtain ⟨A, c, rfl⟩ := own_slice h2
    have hbox : W.cell? ⟨w.heap.size, 0, none⟩ = some (.slice A (memI s).length c) := by rw [cell_of_row _ _ _ _ _ _ h1]; rfl
    have H2 := hide h2
    have HB := hide hG.bel
    have hz3 := hG.bel.size
    clear hG h1 h2 hT2 hS2 hI2 hT
    go_wp2
    refine marks_done hK (v := .slice A (memI s).length c) (by simp [results, Tryd.results13, go_sem]) ⟨_, rfl, ?_, below_put HB.out (by omega) hK _⟩
    have := own_kept (C := 0) H2.out (grownBy_putObj' W D (.deferred none)) (fun r e => by cases e; exact ⟨Nat.zero_le _, _, hK, rfl⟩)
    refine ⟨this.1, ?_⟩
    rcases this.2 with h | ⟨g, cap, cur, a, b, d⟩
    · exact .inl h
    · exact .inr ⟨g, cap, cur, a, by omega, d⟩
  case stop => exact fun _ _ _ _ _ _ h _ => h.elim
end Go.Proofs.YtklkndnikcjbhaaDoor
