/-
  Whether a token may be printed, and the byte behind it: the program's own.
-/
import Derived.Test.YtohmenghlboalaaDoorLxI0
import Derived.Laws.StructEq
namespace Go.Proofs.YtohmenghlboalaaDoor
open Go.RowKit Go.Shelf
attribute [local go_sem] Oper.semAt_some
set_option linter.unusedVariables false
set_option linter.unusedSimpArgs false
set_option maxRecDepth 100000

/-- a token whose text is just one token, and it is the one told -/
def okV (t : Tv) : Bool := match t.t with
  | [] => false
  | c :: r => match fstF (c :: r) with
    | none => false
    | some x => decide ((x.1 : Int) = t.k) && (decide (x.2.1 = r.length) && decide (x.2.2 = t.n))
def tvV (t : Tv) : Value := .agg #[.int .i64 t.k, .string (str t.t), .int .i64 t.n, .int .i64 t.ln, .int .i64 t.cl]
theorem fields_of_tok : Tryd.prog.underlying 24 = some (.struct (Tryd.prog.fieldsOf 24)) := by kernel_rfl
theorem eq_tok (a c d e a' c' d' e' : Int) (b b' : ByteArray) (w : World) : (Op.equalIn 10000 24 (tokV a b c d e) (tokV a' b' c' d' e')).run Tryd.prog w = .ok (decide (a = a' ∧ b = b' ∧ c = c' ∧ d = d' ∧ e = e')) w := by
  unfold tokV
  rw [run_equalIn_struct w 9999 24 _ _ fields_of_tok (by kernel_rfl)]
  simp [Program.fieldsOf, Tryd.underlying24, Op.eqFields, part, isAgg, go_sem, seq]
  by_cases h1 : a = a' <;> by_cases h2 : b = b' <;> by_cases h3 : c = c' <;> by_cases h4 : d = d' <;> by_cases h5 : e = e' <;> simp [h1, h2, h3, h4, h5]
theorem ext_all {s : ByteArray} {c : UInt8} {r : List UInt8} (hs : byt s = c :: r) {m : Nat} (hm : m ≤ r.length) : (s.extract 0 (m + 1) = s) ↔ m = r.length := by
  have h1 : byt (s.extract 0 (m + 1)) = (c :: r).take (m + 1) := by rw [sub_to, hs]
  constructor
  · intro h
    rw [h, hs] at h1
    have := congrArg List.length h1
    simp only [List.length_take, List.length_cons] at this
    omega
  · intro h
    refine byt_inj ?_
    rw [h1, hs, h, List.take_of_length_le (by simp)]
/-- what the comparison of the token told with the token given is -/
theorem ok_cmp (t : Tv) (c : UInt8) (r : List UInt8) (ht : t.t = c :: r) (w : World) :
    (Op.equalIn 10000 24 (fstV (str t.t) (fstF (c :: r))) (tokV t.k (str t.t) t.n 0 0)).run Tryd.prog w = .ok (okV t) w := by
  have hok : okV t = match fstF (c :: r) with
    | none => false
    | some x => decide ((x.1 : Int) = t.k) && (decide (x.2.1 = r.length) && decide (x.2.2 = t.n)) := by unfold okV; rw [ht]
  rw [hok]
  cases h : fstF (c :: r) with
  | none =>
    show (Op.equalIn 10000 _ nilT _).run _ _ = _
    unfold nilT
    rw [eq_tok]
    have : ¬ (0 = t.k ∧ ByteArray.empty = str t.t ∧ 0 = t.n ∧ (0 : Int) = 0 ∧ (0 : Int) = 0) := by
      rintro ⟨_, h2, _⟩
      have := congrArg byt h2
      rw [byt_str, ht] at this
      cases this
    rw [decide_eq_false this]
  | some x =>
    show (Op.equalIn 10000 _ (tokV x.1 ((str t.t).extract 0 (x.2.1 + 1)) x.2.2 0 0) _).run _ _ = _
    rw [eq_tok]
    have he := ext_all (s := str t.t) (c := c) (r := r) (by rw [byt_str, ht]) (fst_le h)
    congr 1
    rw [Bool.eq_iff_iff]
    simp [he]

theorem str_isE (l : List UInt8) : (str l).toList.isEmpty = l.isEmpty := by rw [ByteArray.toList_eq]; simp [str]

set_option maxHeartbeats 2000000 in
theorem istok_at (t : Tv) (hz : t.t.length ≤ 140737488355328) (w : World) (hE : Env w) :
    Calls Tryd.prog 14 #[tvV t] w fun e w' => e = .returned (.bool (okV t)) ∧ Below w.heap.size w w' := by
  show Calls Tryd.prog _ #[.agg #[.int .i64 t.k, .string (str t.t), .int .i64 t.n, .int .i64 t.ln, .int .i64 t.cl]] w _
  have heg : Tryd.prog.eqGuardType Tryd.prog.depth 24 = false := by kernel_rfl
  rcases ht : t.t with _ | ⟨c, r⟩
  · have HV := hide (show okV t = false by unfold okV; rw [ht])
    have hq : (str ([] : List UInt8)).toList.isEmpty = true := str_isE []
    have c0 : (w.alloc (.cells #[.int .i64 t.k, .string (str []), .int .i64 t.n, .int .i64 t.ln, .int .i64 t.cl] 24)).cell? ⟨w.heap.size, 1, none⟩ = some (.string (str [])) := by rw [cell_of_row _ _ _ _ _ _ (heap_alloc_new w _)]; rfl
    have HB := hide (bal w (.cells #[.int .i64 t.k, .string (str []), .int .i64 t.n, .int .i64 t.ln, .int .i64 t.cl] 24))
    go_enter Tryd.func14, Tryd.ntmps14
    go_wp2_with fail
    generalize w.alloc (.cells #[.int .i64 t.k, .string (str []), .int .i64 t.n, .int .i64 t.ln, .int .i64 t.cl] 24) = wa at *
    have HS0 := hide (show wa.drew.cell? ⟨w.heap.size, 1, none⟩ = some (.string (str [])) ∧ Below w.heap.size w wa.drew from ⟨c0, HB.out.drew⟩)
    have HKp := hide (fun (V V' : World) (h : V.cell? ⟨w.heap.size, 1, none⟩ = some (.string (str [])) ∧ Below w.heap.size w V) (e : V = V') => show V'.cell? ⟨w.heap.size, 1, none⟩ = some (.string (str [])) ∧ Below w.heap.size w V' from e ▸ h)
    refine wp_region_held_drew (S := fun w' => w'.cell? ⟨w.heap.size, 1, none⟩ = some (.string (str [])) ∧ Below w.heap.size w w') (by kernel_rfl) (HS0.out) (fun hHeld => ?_)
    refine wpAnyH_take (i := 0) (v := ?v1_0) rfl (by kernel_rfl) (by kernel_rfl) (by kernel_rfl) (fun _ _ _ h => h) (Or.inl ⟨by kernel_rfl, ?y1_0⟩) (by assumption) ?r1_0
    case y1_0 => (intro W hSW; (try dsimp only at hSW); go_simp; (try with_reducible rfl))
    change wpAnyH _ _ _ _ _ _ _ (Act.put _ (some 3) _) _
    (try simp only [Act.put, List.setIfInBounds_toArray, List.set_cons_zero, List.set_cons_succ])
    refine wpAnyH_take (i := 1) (v := ?v1_1) rfl (by kernel_rfl) (by kernel_rfl) (by kernel_rfl) (fun _ _ _ h => h) (Or.inl ⟨by kernel_rfl, ?y1_1⟩) (by assumption) ?r1_1
    case y1_1 => (intro W hSW; (try dsimp only at hSW); go_simp; (try with_reducible rfl))
    change wpAnyH _ _ _ _ _ _ _ (Act.put _ (some 4) _) _
    (try simp only [Act.put, List.setIfInBounds_toArray, List.set_cons_zero, List.set_cons_succ])
    refine wpAnyH_take (i := 2) (v := ?v1_2) rfl (by kernel_rfl) (by kernel_rfl) (by kernel_rfl) (fun _ _ _ h => h) (Or.inl ⟨by kernel_rfl, ?y1_2⟩) (by assumption) ?r1_2
    case y1_2 => (intro W hSW; (try dsimp only at hSW); go_simp; (try with_reducible rfl))
    change wpAnyH _ _ _ _ _ _ _ (Act.put _ (some 5) _) _
    (try simp only [Act.put, List.setIfInBounds_toArray, List.set_cons_zero, List.set_cons_succ])
    refine wpAnyH_take (i := 3) (v := ?v1_3) rfl (by kernel_rfl) (by kernel_rfl) (by kernel_rfl) (fun _ _ _ h => h) (Or.inl ⟨by kernel_rfl, ?y1_3⟩) (by assumption) ?r1_3
    case y1_3 => (intro W hSW; (try dsimp only at hSW); go_simp; (try with_reducible rfl))
    change wpAnyH _ _ _ _ _ _ _ (Act.put _ (some 6) _) _
    (try simp only [Act.put, List.setIfInBounds_toArray, List.set_cons_zero, List.set_cons_succ])
    refine wpAnyH_take (i := 4) (v := undef) rfl (by kernel_rfl) (by kernel_rfl) (by kernel_rfl) (fun _ _ _ h => h) (Or.inr ⟨by kernel_rfl, rfl⟩) (by assumption) ?_
    change wpAnyH _ _ _ _ _ _ _ (Act.put _ (some 7) _) _
    (try simp only [Act.put, List.setIfInBounds_toArray, List.set_cons_zero, List.set_cons_succ])
    refine wpAnyH_take (i := 5) (v := undef) rfl (by kernel_rfl) (by kernel_rfl) (by kernel_rfl) (fun _ _ _ h => h) (Or.inr ⟨by kernel_rfl, rfl⟩) (by assumption) ?_
    change wpAnyH _ _ _ _ _ _ _ (Act.put _ (some 8) _) _
    (try simp only [Act.put, List.setIfInBounds_toArray, List.set_cons_zero, List.set_cons_succ])
    refine wpAnyH_take (i := 6) (v := undef) rfl (by kernel_rfl) (by kernel_rfl) (by kernel_rfl) (fun _ _ _ h => h) (Or.inr ⟨by kernel_rfl, rfl⟩) (by assumption) ?_
    change wpAnyH _ _ _ _ _ _ _ (Act.put _ (some 9) _) _
    (try simp only [Act.put, List.setIfInBounds_toArray, List.set_cons_zero, List.set_cons_succ])
    refine wpAnyH_take (i := 7) (v := undef) rfl (by kernel_rfl) (by kernel_rfl) (by kernel_rfl) (fun _ _ _ h => h) (Or.inr ⟨by kernel_rfl, rfl⟩) (by assumption) ?_
    change wpAnyH _ _ _ _ _ _ _ (Act.put _ (some 10) _) _
    (try simp only [Act.put, List.setIfInBounds_toArray, List.set_cons_zero, List.set_cons_succ])
    refine wpAnyH_take (i := 8) (v := undef) rfl (by kernel_rfl) (by kernel_rfl) (by kernel_rfl) (fun _ _ _ h => h) (Or.inr ⟨by kernel_rfl, rfl⟩) (by assumption) ?_
    change wpAnyH _ _ _ _ _ _ _ (Act.put _ (some 11) _) _
    (try simp only [Act.put, List.setIfInBounds_toArray, List.set_cons_zero, List.set_cons_succ])
    refine wpAnyH_take (i := 9) (v := undef) rfl (by kernel_rfl) (by kernel_rfl) (by kernel_rfl) (fun _ _ _ h => h) (Or.inr ⟨by kernel_rfl, rfl⟩) (by assumption) ?_
    change wpAnyH _ _ _ _ _ _ _ (Act.put _ (some 12) _) _
    (try simp only [Act.put, List.setIfInBounds_toArray, List.set_cons_zero, List.set_cons_succ])
    refine wpAnyH_take (i := 10) (v := undef) rfl (by kernel_rfl) (by kernel_rfl) (by kernel_rfl) (fun _ _ _ h => h) (Or.inr ⟨by kernel_rfl, rfl⟩) (by assumption) ?_
    change wpAnyH _ _ _ _ _ _ _ (Act.put _ (some 13) _) _
    (try simp only [Act.put, List.setIfInBounds_toArray, List.set_cons_zero, List.set_cons_succ])
    refine wpAnyH_take (i := 11) (v := undef) rfl (by kernel_rfl) (by kernel_rfl) (by kernel_rfl) (fun _ _ _ h => h) (Or.inr ⟨by kernel_rfl, rfl⟩) (by assumption) ?_
    change wpAnyH _ _ _ _ _ _ _ (Act.put _ (some 14) _) _
    (try simp only [Act.put, List.setIfInBounds_toArray, List.set_cons_zero, List.set_cons_succ])
    refine wpAnyH_take (i := 12) (v := undef) rfl (by kernel_rfl) (by kernel_rfl) (by kernel_rfl) (fun _ _ _ h => h) (Or.inr ⟨by kernel_rfl, rfl⟩) (by assumption) ?_
    change wpAnyH _ _ _ _ _ _ _ (Act.put _ (some 15) _) _
    (try simp only [Act.put, List.setIfInBounds_toArray, List.set_cons_zero, List.set_cons_succ])
    refine wpAnyH_take (i := 13) (v := undef) rfl (by kernel_rfl) (by kernel_rfl) (by kernel_rfl) (fun _ _ _ h => h) (Or.inr ⟨by kernel_rfl, rfl⟩) (by assumption) ?_
    change wpAnyH _ _ _ _ _ _ _ (Act.put _ (some 16) _) _
    (try simp only [Act.put, List.setIfInBounds_toArray, List.set_cons_zero, List.set_cons_succ])
    refine wpAnyH_take (i := 14) (v := undef) rfl (by kernel_rfl) (by kernel_rfl) (by kernel_rfl) (fun _ _ _ h => h) (Or.inr ⟨by kernel_rfl, rfl⟩) (by assumption) ?_
    change wpAnyH _ _ _ _ _ _ _ (Act.put _ (some 17) _) _
    (try simp only [Act.put, List.setIfInBounds_toArray, List.set_cons_zero, List.set_cons_succ])
    refine wpAnyH_take (i := 15) (v := ?v1_15) rfl (by kernel_rfl) (by kernel_rfl) (by kernel_rfl) (fun _ _ _ h => h) (Or.inl ⟨by kernel_rfl, ?y1_15⟩) (by assumption) ?r1_15
    case y1_15 => (intro W hSW; (try dsimp only at hSW); go_simp; (try with_reducible rfl))
    change wpAnyH _ _ _ _ _ _ _ (Act.put _ (some 18) _) _
    (try simp only [Act.put, List.setIfInBounds_toArray, List.set_cons_zero, List.set_cons_succ])
    refine wpAnyH_take (i := 16) (v := ?v1_16) rfl (by kernel_rfl) (by kernel_rfl) (by kernel_rfl) (fun _ _ _ h => h) (Or.inl ⟨by kernel_rfl, ?y1_16⟩) (by assumption) ?r1_16
    case y1_16 => (intro W hSW; (try dsimp only at hSW); go_simp; (try with_reducible rfl))
    change wpAnyH _ _ _ _ _ _ _ (Act.put _ (some 2) _) _
    (try simp only [Act.put, List.setIfInBounds_toArray, List.set_cons_zero, List.set_cons_succ])
    refine wpAnyH_done (by kernel_rfl) ?_ _
    go_wp2_with fail
    go_ret
    exact ⟨by rw [HV.out]; rfl, hHeld.2⟩
  · have HC := hide (fun W => ok_cmp t c r ht W)
    have HF := hide (fun (W : World) (h : Below w.heap.size w W) => first_at (str t.t) c r (by rw [byt_str, ht]) (by rw [str_size]; exact hz) W (hE.below h (Nat.le_refl _)))
    rw [byt_str, ht] at HF
    rw [ht] at HC
    generalize okV t = V at *
    have hq : (str (c :: r)).toList.isEmpty = false := str_isE (c :: r)
    generalize str (c :: r) = s at *
    obtain ⟨k, l, n, ln, cl⟩ := t
    dsimp only at HC ⊢
    clear ht hz hE
    have c0 : (w.alloc (.cells #[.int .i64 k, .string s, .int .i64 n, .int .i64 ln, .int .i64 cl] 24)).cell? ⟨w.heap.size, 0, none⟩ = some (.int .i64 k) := by rw [cell_of_row _ _ _ _ _ _ (heap_alloc_new w _)]; rfl
    have c1 : (w.alloc (.cells #[.int .i64 k, .string s, .int .i64 n, .int .i64 ln, .int .i64 cl] 24)).cell? ⟨w.heap.size, 1, none⟩ = some (.string s) := by rw [cell_of_row _ _ _ _ _ _ (heap_alloc_new w _)]; rfl
    have c2 : (w.alloc (.cells #[.int .i64 k, .string s, .int .i64 n, .int .i64 ln, .int .i64 cl] 24)).cell? ⟨w.heap.size, 2, none⟩ = some (.int .i64 n) := by rw [cell_of_row _ _ _ _ _ _ (heap_alloc_new w _)]; rfl
    have HB := hide (bal w (.cells #[.int .i64 k, .string s, .int .i64 n, .int .i64 ln, .int .i64 cl] 24))
    go_enter Tryd.func14, Tryd.ntmps14
    go_wp2_with fail
    generalize w.alloc (.cells #[.int .i64 k, .string s, .int .i64 n, .int .i64 ln, .int .i64 cl] 24) = wa at *
    have HS0 := hide (show wa.drew.cell? ⟨w.heap.size, 0, none⟩ = some (.int .i64 k) ∧ wa.drew.cell? ⟨w.heap.size, 1, none⟩ = some (.string s) ∧ wa.drew.cell? ⟨w.heap.size, 2, none⟩ = some (.int .i64 n) ∧ Below w.heap.size w wa.drew from ⟨c0, c1, c2, HB.out.drew⟩)
    have HKp := hide (fun (w1 w5 : World) (h : w1.cell? ⟨w.heap.size, 0, none⟩ = some (.int .i64 k) ∧ w1.cell? ⟨w.heap.size, 1, none⟩ = some (.string s) ∧ w1.cell? ⟨w.heap.size, 2, none⟩ = some (.int .i64 n) ∧ Below w.heap.size w w1) (hb1 : Below w1.heap.size w1 w5) => show w5.cell? ⟨w.heap.size, 0, none⟩ = some (.int .i64 k) ∧ w5.cell? ⟨w.heap.size, 1, none⟩ = some (.string s) ∧ w5.cell? ⟨w.heap.size, 2, none⟩ = some (.int .i64 n) ∧ Below w.heap.size w w5 from ⟨cell_below hb1 (Nat.le_refl _) (World.block_lt_of_cell? _ _ h.1) h.1, cell_below hb1 (Nat.le_refl _) (World.block_lt_of_cell? _ _ h.2.1) h.2.1, cell_below hb1 (Nat.le_refl _) (World.block_lt_of_cell? _ _ h.2.2.1) h.2.2.1, h.2.2.2.trans (hb1.mono h.2.2.2.size)⟩)
    unfold tokV at HC
    generalize hfv : fstV s (fstF (c :: r)) = fv at *
    obtain ⟨p, rfl⟩ : ∃ p, fv = .agg p := by
      rw [← hfv]; cases fstF (c :: r) with
      | none => exact ⟨_, rfl⟩
      | some x => exact ⟨_, rfl⟩
    clear hfv
    have hc2 := HC.out
    refine wp_region_held_drew (S := fun w' => w'.cell? ⟨w.heap.size, 0, none⟩ = some (.int .i64 k) ∧ w'.cell? ⟨w.heap.size, 1, none⟩ = some (.string s) ∧ w'.cell? ⟨w.heap.size, 2, none⟩ = some (.int .i64 n) ∧ Below w.heap.size w w') (by kernel_rfl) (by (first | exact HKp.out _ _ hHeld hb1 | exact HS0.out)) (fun hHeld => ?_)
    refine wpAnyH_take (i := 0) (v := ?v2_0) rfl (by kernel_rfl) (by kernel_rfl) (by kernel_rfl) (fun _ _ _ h => h) (Or.inl ⟨by kernel_rfl, ?y2_0⟩) (by assumption) ?r2_0
    case y2_0 => (intro W hSW; (try dsimp only at hSW); go_simp; (try with_reducible rfl))
    change wpAnyH _ _ _ _ _ _ _ (Act.put _ (some 3) _) _
    (try simp only [Act.put, List.setIfInBounds_toArray, List.set_cons_zero, List.set_cons_succ])
    refine wpAnyH_take (i := 1) (v := ?v2_1) rfl (by kernel_rfl) (by kernel_rfl) (by kernel_rfl) (fun _ _ _ h => h) (Or.inl ⟨by kernel_rfl, ?y2_1⟩) (by assumption) ?r2_1
    case y2_1 => (intro W hSW; (try dsimp only at hSW); go_simp; (try with_reducible rfl))
    change wpAnyH _ _ _ _ _ _ _ (Act.put _ (some 4) _) _
    (try simp only [Act.put, List.setIfInBounds_toArray, List.set_cons_zero, List.set_cons_succ])
    refine wpAnyH_take (i := 2) (v := ?v2_2) rfl (by kernel_rfl) (by kernel_rfl) (by kernel_rfl) (fun _ _ _ h => h) (Or.inl ⟨by kernel_rfl, ?y2_2⟩) (by assumption) ?r2_2
    case y2_2 => (intro W hSW; (try dsimp only at hSW); go_simp; (try with_reducible rfl))
    change wpAnyH _ _ _ _ _ _ _ (Act.put _ (some 5) _) _
    (try simp only [Act.put, List.setIfInBounds_toArray, List.set_cons_zero, List.set_cons_succ])
    refine wpAnyH_take (i := 3) (v := ?v2_3) rfl (by kernel_rfl) (by kernel_rfl) (by kernel_rfl) (fun _ _ _ h => h) (Or.inl ⟨by kernel_rfl, ?y2_3⟩) (by assumption) ?r2_3
    case y2_3 => (intro W hSW; (try dsimp only at hSW); go_simp; (try with_reducible rfl))
    change wpAnyH _ _ _ _ _ _ _ (Act.put _ (some 6) _) _
    (try simp only [Act.put, List.setIfInBounds_toArray, List.set_cons_zero, List.set_cons_succ])
    refine wpAnyH_take (i := 4) (v := ?v2_4) rfl (by kernel_rfl) (by kernel_rfl) (by kernel_rfl) (fun _ _ _ h => h) (Or.inl ⟨by kernel_rfl, ?y2_4⟩) (by assumption) ?r2_4
    case y2_4 => (intro W hSW; (try dsimp only at hSW); go_simp; (try with_reducible rfl))
    change wpAnyH _ _ _ _ _ _ _ (Act.put _ (some 7) _) _
    (try simp only [Act.put, List.setIfInBounds_toArray, List.set_cons_zero, List.set_cons_succ])
    refine wpAnyH_take (i := 5) (v := ?v2_5) rfl (by kernel_rfl) (by kernel_rfl) (by kernel_rfl) (fun _ _ _ h => h) (Or.inl ⟨by kernel_rfl, ?y2_5⟩) (by assumption) ?r2_5
    case y2_5 => (intro W hSW; (try dsimp only at hSW); go_simp; (try with_reducible rfl))
    change wpAnyH _ _ _ _ _ _ _ (Act.put _ (some 8) _) _
    (try simp only [Act.put, List.setIfInBounds_toArray, List.set_cons_zero, List.set_cons_succ])
    refine wpAnyH_take (i := 7) (v := ?v2_7) rfl (by kernel_rfl) (by kernel_rfl) (by kernel_rfl) (fun _ _ _ h => h) (Or.inl ⟨by kernel_rfl, ?y2_7⟩) (by assumption) ?r2_7
    case y2_7 => (intro W hSW; (try dsimp only at hSW); go_simp; (try with_reducible rfl))
    change wpAnyH _ _ _ _ _ _ _ (Act.put _ (some 10) _) _
    (try simp only [Act.put, List.setIfInBounds_toArray, List.set_cons_zero, List.set_cons_succ])
    refine wpAnyH_take (i := 8) (v := ?v2_8) rfl (by kernel_rfl) (by kernel_rfl) (by kernel_rfl) (fun _ _ _ h => h) (Or.inl ⟨by kernel_rfl, ?y2_8⟩) (by assumption) ?r2_8
    case y2_8 => (intro W hSW; (try dsimp only at hSW); go_simp; (try with_reducible rfl))
    change wpAnyH _ _ _ _ _ _ _ (Act.put _ (some 11) _) _
    (try simp only [Act.put, List.setIfInBounds_toArray, List.set_cons_zero, List.set_cons_succ])
    refine wpAnyH_take (i := 9) (v := ?v2_9) rfl (by kernel_rfl) (by kernel_rfl) (by kernel_rfl) (fun _ _ _ h => h) (Or.inl ⟨by kernel_rfl, ?y2_9⟩) (by assumption) ?r2_9
    case y2_9 => (intro W hSW; (try dsimp only at hSW); go_simp; (try with_reducible rfl))
    change wpAnyH _ _ _ _ _ _ _ (Act.put _ (some 12) _) _
    (try simp only [Act.put, List.setIfInBounds_toArray, List.set_cons_zero, List.set_cons_succ])
    refine wpAnyH_take (i := 10) (v := ?v2_10) rfl (by kernel_rfl) (by kernel_rfl) (by kernel_rfl) (fun _ _ _ h => h) (Or.inl ⟨by kernel_rfl, ?y2_10⟩) (by assumption) ?r2_10
    case y2_10 => (intro W hSW; (try dsimp only at hSW); go_simp; (try with_reducible rfl))
    change wpAnyH _ _ _ _ _ _ _ (Act.put _ (some 13) _) _
    (try simp only [Act.put, List.setIfInBounds_toArray, List.set_cons_zero, List.set_cons_succ])
    refine wpAnyH_take (i := 11) (v := ?v2_11) rfl (by kernel_rfl) (by kernel_rfl) (by kernel_rfl) (fun _ _ _ h => h) (Or.inl ⟨by kernel_rfl, ?y2_11⟩) (by assumption) ?r2_11
    case y2_11 => (intro W hSW; (try dsimp only at hSW); go_simp; (try with_reducible rfl))
    change wpAnyH _ _ _ _ _ _ _ (Act.put _ (some 14) _) _
    (try simp only [Act.put, List.setIfInBounds_toArray, List.set_cons_zero, List.set_cons_succ])
    refine wpAnyH_take (i := 12) (v := ?v2_12) rfl (by kernel_rfl) (by kernel_rfl) (by kernel_rfl) (fun _ _ _ h => h) (Or.inl ⟨by kernel_rfl, ?y2_12⟩) (by assumption) ?r2_12
    case y2_12 => (intro W hSW; (try dsimp only at hSW); go_simp; (try with_reducible rfl))
    change wpAnyH _ _ _ _ _ _ _ (Act.put _ (some 15) _) _
    (try simp only [Act.put, List.setIfInBounds_toArray, List.set_cons_zero, List.set_cons_succ])
    refine wpAnyH_take (i := 13) (v := ?v2_13) rfl (by kernel_rfl) (by kernel_rfl) (by kernel_rfl) (fun _ _ _ h => h) (Or.inl ⟨by kernel_rfl, ?y2_13⟩) (by assumption) ?r2_13
    case y2_13 => (intro W hSW; (try dsimp only at hSW); go_simp; (try with_reducible rfl))
    change wpAnyH _ _ _ _ _ _ _ (Act.put _ (some 16) _) _
    (try simp only [Act.put, List.setIfInBounds_toArray, List.set_cons_zero, List.set_cons_succ])
    refine wpAnyH_ready (rs := [6]) (by kernel_rfl) (by simp) ?_
    refine AllReadyH.cons rfl (fun K hK => ?_) AllReadyH.nil
    rw [if_pos (by rfl)]
    go_simp
    refine (HF.out _ hHeld.2.2.2).mono ?_
    rintro e w5 ⟨rfl, hb1⟩
    go_simp
    refine hK.out _ _ (by (first | exact HKp.out _ _ hHeld hb1 | exact HS0.out)) (fun hHeld => ?_)
    clear hK K
    (try simp only [Act.put, List.setIfInBounds_toArray, List.set_cons_zero, List.set_cons_succ])
    refine wpAnyH_take (i := 14) (v := ?v2_14) rfl (by kernel_rfl) (by kernel_rfl) (by kernel_rfl) (fun _ _ _ h => h) (Or.inl ⟨by kernel_rfl, ?y2_14⟩) (by assumption) ?r2_14
    case y2_14 => (intro W hSW; (try dsimp only at hSW); go_simp; (try with_reducible rfl))
    change wpAnyH _ _ _ _ _ _ _ (Act.put _ (some 17) _) _
    (try simp only [Act.put, List.setIfInBounds_toArray, List.set_cons_zero, List.set_cons_succ])
    refine wpAnyH_take (i := 15) (v := ?v2_15) rfl (by kernel_rfl) (by kernel_rfl) (by kernel_rfl) (fun _ _ _ h => h) (Or.inl ⟨by kernel_rfl, ?y2_15⟩) (by assumption) ?r2_15
    case y2_15 => (intro W hSW; (try dsimp only at hSW); go_simp; (try with_reducible rfl))
    change wpAnyH _ _ _ _ _ _ _ (Act.put _ (some 18) _) _
    (try simp only [Act.put, List.setIfInBounds_toArray, List.set_cons_zero, List.set_cons_succ])
    refine wpAnyH_take (i := 16) (v := ?v2_16) rfl (by kernel_rfl) (by kernel_rfl) (by kernel_rfl) (fun _ _ _ h => h) (Or.inl ⟨by kernel_rfl, ?y2_16⟩) (by assumption) ?r2_16
    case y2_16 => (intro W hSW; (try dsimp only at hSW); go_simp; (try with_reducible rfl))
    change wpAnyH _ _ _ _ _ _ _ (Act.put _ (some 2) _) _
    (try simp only [Act.put, List.setIfInBounds_toArray, List.set_cons_zero, List.set_cons_succ])
    refine wpAnyH_done (by kernel_rfl) ?_ _
    go_wp2_with fail
    go_ret
    exact ⟨rfl, hHeld.2.2.2⟩

/-- the byte behind a token -/
def behV (t : List UInt8) : UInt8 := if t = [59] ∨ t = [123] ∨ t = [125] then 10 else 32
theorem str_one {l : List UInt8} {b : UInt8} : ((str l).toList == [b]) = decide (l = [b]) := by
  rw [ByteArray.toList_eq, Bool.eq_iff_iff]; simp [str]

set_option maxHeartbeats 2000000 in
theorem behind_at (t : Tv) (w : World) :
    Calls Tryd.prog 17 #[tvV t] w fun e w' => e = .returned (u8V (behV t.t)) ∧ Below w.heap.size w w' := by
  show Calls Tryd.prog _ #[.agg #[.int .i64 t.k, .string (str t.t), .int .i64 t.n, .int .i64 t.ln, .int .i64 t.cl]] w _
  obtain ⟨k, l, n, ln, cl⟩ := t
  dsimp only
  have h1 := str_one (l := l) (b := 59)
  have h2 := str_one (l := l) (b := 123)
  have h3 := str_one (l := l) (b := 125)
  have HV := hide (show behV l = if l = [59] ∨ l = [123] ∨ l = [125] then 10 else 32 from rfl)
  generalize behV l = V at *
  generalize str l = s at *
  have c1 : (w.alloc (.cells #[.int .i64 k, .string s, .int .i64 n, .int .i64 ln, .int .i64 cl] 24)).cell? ⟨w.heap.size, 1, none⟩ = some (.string s) := by rw [cell_of_row _ _ _ _ _ _ (heap_alloc_new w _)]; rfl
  have HB := hide (bal w (.cells #[.int .i64 k, .string s, .int .i64 n, .int .i64 ln, .int .i64 cl] 24))
  by_cases q1 : l = [59]
  · rw [decide_eq_true q1] at h1
    rw [if_pos (.inl q1)] at HV
    clear h2 h3 q1
    go_enter Tryd.func17, Tryd.ntmps17
    go_wp2_with fail
    go_ret
    exact ⟨by rw [HV.out]; rfl, HB.out⟩
  · rw [decide_eq_false q1] at h1
    by_cases q2 : l = [123]
    · rw [decide_eq_true q2] at h2
      rw [if_pos (.inr (.inl q2))] at HV
      clear h3 q1 q2
      go_enter Tryd.func17, Tryd.ntmps17
      go_wp2_with fail
      go_ret
      exact ⟨by rw [HV.out]; rfl, HB.out⟩
    · rw [decide_eq_false q2] at h2
      by_cases q3 : l = [125]
      · rw [decide_eq_true q3] at h3
        rw [if_pos (.inr (.inr q3))] at HV
        clear q1 q2 q3
        go_enter Tryd.func17, Tryd.ntmps17
        go_wp2_with fail
        go_ret
        exact ⟨by rw [HV.out]; rfl, HB.out⟩
      · rw [decide_eq_false q3] at h3
        rw [if_neg (by rintro (h | h | h) <;> contradiction)] at HV
        clear q1 q2 q3
        go_enter Tryd.func17, Tryd.ntmps17
        go_wp2_with fail
        go_ret
        exact ⟨by rw [HV.out]; rfl, HB.out⟩
end Go.Proofs.YtohmenghlboalaaDoor
