/-
  BitsOf's walk.
-/
import Derived.Test.YtklkndnikcjbhaaOfA
namespace Go.Proofs.Ytklkndnikcjbhaa
open Go.RowKit Go.Shelf
set_option linter.unusedVariables false
set_option linter.unusedSimpArgs false

set_option maxRecDepth 100000 in
set_option maxHeartbeats 4000000 in
theorem rof_at (l : List Int) (A : Option Addr) (c : Nat) (w : World) (hI : Ints w A l) (hl : l.length ≤ 9223372036854775806) :
    Calls Try.prog 5 #[.slice A l.length c] w fun e w' => e = .returned (ofV l) ∧ Below w.heap.size w w' := by
  have HI := hide hI
  obtain ⟨n, hn⟩ : ∃ n, n = l.length := ⟨_, rfl⟩
  have HN := hide hn
  have hz := (zero_of_info info_bc).1
  rw [← hn] at hl ⊢
  clear hI hn
  go_enter Try.func5, Try.ntmps5
  go_wp2_with fail
  have HRow := hide (heap_alloc_new w (.cells (bc fun _ => false) 32))
  have HB := hide (bal w (.cells (bc fun _ => false) 32))
  generalize w.alloc (.cells (bc fun _ => false) 32) = w1 at HRow HB ⊢
  clear hz
  go_loopw [5] (fun i wr => ∃ (k : Nat) (f : Nat → Bool), k ≤ n ∧ i = .int .i64 k ∧ okAll (l.take k) ∧ (∀ j, j < 64 → f j = decide ((j : Int) ∈ l.take k)) ∧ Below w.heap.size w wr ∧ wr.heap[w.heap.size]? = some (.cells (bc f) 32 (0, 0))) (fun i _ => n - (intOf i).toNat)
  case atStart => exact ⟨0, _, Nat.zero_le _, rfl, fun z hz => by simp at hz, fun j hj => by simp, HB.out, HRow.out⟩
  case round =>
    obtain ⟨k, f, hk, rfl, hok, hf, hb, hrow⟩ := hrel
    have HOK := hide hok
    have HF := hide hf
    clear hok hf HRow HB
    by_cases hlt : k < n
    · obtain ⟨b, off, rfl, hbl, hc⟩ := HI.out.at (by rw [← HN.out]; exact hlt)
      have hcr := (bcl hb hbl).trans hc
      have HS := hide (take_snoc l 0 k (by rw [← HN.out]; exact hlt))
      have HM := hide (show l.getD k 0 ∈ l by
        rw [List.getD_eq_getElem?_getD, List.getElem?_eq_getElem (by rw [← HN.out]; exact hlt)]
        exact List.getElem_mem _)
      clear hc
      generalize l.getD k 0 = z at *
      by_cases hzz : 0 ≤ z ∧ z < 64
      · have HZ := hide hzz
        obtain ⟨j, rfl⟩ := Int.eq_ofNat_of_zero_le hzz.1
        have hj : j < 64 := by omega
        have x0 : wr.cell? ⟨w.heap.size, j, none⟩ = some (.bool (f j)) := by rw [cell_of_row _ _ _ _ _ _ hrow, bc_get _ _ hj]
        have x1 : wr.frozen? ⟨w.heap.size, j, none⟩ = false := by simp [World.frozen?, hrow]
        have HRow := hide (show (wr.setCell ⟨w.heap.size, j, none⟩ (.bool true)).heap[w.heap.size]? = some (.cells (bc fun i => if i = j then true else f i) 32 (0, 0)) from by rw [set_cells hrow, bc_set])
        have HB := hide (hb.setCell (p := ⟨w.heap.size, j, none⟩) (Nat.le_refl _) (.bool true))
        generalize f j = b0 at x0
        clear hb hrow hzz
        go_wp2_with fail
        go_roundw
        case rel =>
          refine ⟨k + 1, fun i => if i = j then true else f i, by omega, by go_num, ?_, fun i hi => ?_, HB.out, HRow.out⟩
          · rw [HS.out]
            intro y hy
            rcases List.mem_append.1 hy with h | h
            · exact HOK.out y h
            · obtain rfl := List.mem_singleton.1 h
              exact HZ.out
          · rw [HS.out]
            show (if i = j then true else f i) = _
            by_cases e : i = j
            · rw [if_pos e, e]; exact (decide_eq_true (by simp)).symm
            · have e2 : ¬ (i : Int) = (j : Int) := by omega
              rw [if_neg e, HF.out i hi, decide_eq_decide]
              simp [e2]
        case measure => simp [intOf]; omega
      · have HV := hide (show ofV l = .tuple #[.int .u64 0, .int .i64 120] from if_neg fun h => hzz (h z HM.out))
        have HB := hide hb
        by_cases h0 : z < 0
        · clear hzz hb hrow
          go_wp2_with fail
          go_ret2
          exact ⟨by rw [HV.out]; rfl, HB.out⟩
        · have h64 : z ≥ 64 := by omega
          clear hzz hb hrow
          go_wp2_with fail
          go_ret2
          exact ⟨by rw [HV.out]; rfl, HB.out⟩
    · obtain rfl : k = n := by omega
      have HT : Hid (l.take k = l) := by show _ = _; rw [HN.out, List.take_length]
      have hok2 : okAll l := by have := HOK.out; rwa [HT.out] at this
      have HV := hide (show ofV l = .tuple #[.int .u64 (orAll l : Nat), .int .i64 0] from by unfold ofV; rw [if_pos hok2])
      have HX := hide (show numb f 64 = orAll l from numb_of (orAll_lt hok2) fun i hi => by rw [HF.out i hi, HT.out, orAll_bit hok2])
      have H1 := hide hrow
      have HB := hide hb
      have HNum := hide (fun W => number_at f W)
      clear hb hrow hok2
      go_wp2_with (refine wpList_load_row rfl 32 (.tmp 4) rfl w.heap.size rfl 32 (bc f) (0, 0) _ H1.out Try.underlying32 rfl (bc_info _) ?_)
      refine (HNum.out _).mono ?_
      rintro e w2 ⟨rfl, hb2⟩
      have HB2 := hide (HB.out.trans (hb2.mono HB.out.size))
      rw [HX.out]
      clear hb2
      go_wp2_with fail
      go_ret2
      exact ⟨by rw [HV.out]; rfl, HB2.out⟩

theorem ofV_shape (l : List Int) : ∃ a e : Int, ofV l = .tuple #[.int .u64 a, .int .i64 e] := by
  unfold ofV
  split <;> exact ⟨_, _, rfl⟩

/-- append to nothing of whatever a slice has -/
theorem wpList_fill {ops : Array Oper} {rest : List Oper} {o : Oper} {a : Act} {Q : Exit → Act → World → Prop} (w : World) (hgd : o.guard = none) (s x : Operand)
    (ho : o.op = .call { callee := .builtin .append, args := #[s, x], argTypes := #[22, 22] }) (hs : a.eval s = .slice none 0 0)
    (A : Option Addr) (l : List Int) (c : Nat) (hx : a.eval x = .slice A l.length c) (hI : Ints w A l) (hl : l.length ≤ 100000)
    (h : ∀ v w', OwnL w' w.heap.size v l → Below w.heap.size w w' → wpList Try.prog ops Q rest (a.put o.dst v) w') :
    wpList Try.prog ops Q (o :: rest) a w := by
  have hi := info_int
  rcases hi' : Try.prog.info? 3 with _ | i
  · rw [hi'] at hi; cases hi
  rw [hi'] at hi
  simp only [Option.map_some, Option.some.injEq, Prod.mk.injEq] at hi
  obtain ⟨hz, hs1, hb⟩ := hi
  rcases A with _ | ad
  · have h0 : l = [] := by
      rcases hI.2 with h | ⟨b, off, e, _⟩
      · exact List.length_eq_zero_iff.1 h
      · cases e
    subst h0
    refine wpList_plain hgd fun K hK => ?_
    have hrun : (Builtin.append_ #[22, 22] o.type #[.slice none 0 0, .slice none 0 c]).run Try.prog w = .ok (.slice none 0 0) w := by
      simp [Builtin.append_, run_underlying under_ints, sizeOf, typeInfo, hi', Builtin.lenOf, Builtin.firstCells, storeCells]
    unfold Oper.wp execOp
    simp only [ho, resolve, invoke, builtin, Sem.run_bind, Sem.run_pure, Result.andThen_ok, List.map_toArray, List.map_cons, List.map_nil, hs, hx, List.length_nil, hrun]
    exact hK _ _ (h _ w (World.ownsRow_nil _ _ _ _) (Below.refl _ _))
  · refine wpList_append_own_at w hgd s x _ ho w.heap.size 3 i _ 1 8 under_ints hi' hz hs1 hb rfl (by decide) _ 0 [] hs (World.ownsRow_nil _ _ _ _) ad l.length c (l.map (Value.int .i64)) hx (by simp) ?_ (by intro u hu; obtain ⟨z, _, rfl⟩ := List.mem_map.1 hu; rfl) (by simp only [maxLen]; omega) (by omega) (Nat.le_refl _) ?_
    · intro j u hu
      have hj : j < l.length := by have := (List.getElem?_eq_some_iff.1 hu).1; simpa using this
      obtain ⟨b, off, e, _, hc⟩ := hI.at hj
      obtain rfl := Option.some.inj e
      rw [plain_add, hc]
      rw [List.getElem?_map] at hu
      rw [← hu, List.getD_eq_getElem?_getD, List.getElem?_eq_getElem hj]; rfl
    · intro v' w' hown hg _ _
      refine h v' w' ?_ ((Below.refl _ _).grown hg (Nat.le_refl _) fun k hk => by cases hk)
      rw [Nat.zero_add, List.nil_append] at hown
      exact hown

set_option maxRecDepth 100000 in
set_option maxHeartbeats 4000000 in
theorem of_walk (l : List Int) (A : Option Addr) (c : Nat) (w : World) (hI : Ints w A l) :
    Calls Try.prog 3 #[.slice A l.length c] w fun e w' => e = .returned (.bool true) ∧ Below w.heap.size w w' := by
  by_cases h1000 : 1000 < l.length
  · have h1 : (l.length : Int) > 1000 := by omega
    generalize l.length = n at *
    go_enter Try.func3, Try.ntmps3
    go_wp2
    go_ret
    exact ⟨rfl, Below.refl _ _⟩
  · have hn1000 : l.length ≤ 1000 := by omega
    have hl : l.length ≤ 9223372036854775806 := by omega
    have HFill := hide (fun (ops : Array Oper) (rest : List Oper) (o : Oper) (a : Act) (Q : Exit → Act → World → Prop) (hgd : o.guard = none) (s x : Operand) ho hs hx h => wpList_fill (ops := ops) (rest := rest) (o := o) (a := a) (Q := Q) w hgd s x ho hs A l c hx hI (by omega) h)
    have HI := hide hI
    have HOf := hide (fun B c' W (h : Ints W B l) => of_at l B c' W h hl)
    have HRof := hide (fun B c' W (h : Ints W B l) => rof_at l B c' W h hl)
    have HSame := hide (fun B C c' d' W (hB : Ints W B l) (hC : Ints W C l) => ints_same l B C c' d' W hB hC hl)
    have HOk := hide hI.1
    obtain ⟨a1, a2, hof⟩ := ofV_shape l
    rw [hof] at HOf HRof
    have HOwn := hide (fun W B (h : Value) (x : W.ownsRow B 3 1 h (l.length + 1) (l.map (Value.int .i64) ++ [.int .i64 77])) => show ∃ g cap, h = .slice (some ⟨g, 0, none⟩) (l.length + 1) cap ∧ l.length + 1 ≤ cap ∧ cap ≤ maxLen ∧ g < W.heap.size ∧ Ints W (some ⟨g, 0, none⟩) l ∧ W.cell? ⟨g, l.length, none⟩ = some (.int .i64 77) from by
      rcases x.2 with ⟨_, h0⟩ | ⟨g, cap, cur, rfl, hg, hh, hnc, hcm, hsz, ht⟩
      · omega
      · have hlt := (Array.getElem?_eq_some_iff.1 hh).1
        refine ⟨g, cap, rfl, hnc, hcm, hlt, ⟨HOk.out, .inr ⟨g, 0, rfl, hlt, fun i hi => ?_⟩⟩, ?_⟩
        · obtain ⟨g', c', e', _, hc⟩ := own_cell x (j := i) (u := .int .i64 (l.getD i 0)) (by
            rw [List.getElem?_append_left (by simpa using hi), List.getElem?_map, List.getD_eq_getElem?_getD, List.getElem?_eq_getElem hi]; rfl)
          injection e' with e1 _ _
          injection e1 with e1
          injection e1 with e1
          subst e1
          show W.cell? ⟨g, 0 + i * 1, none⟩ = _
          rw [Nat.zero_add, Nat.mul_one]
          exact hc
        · obtain ⟨g', c', e', _, hc⟩ := own_cell x (j := l.length) (u := .int .i64 77) (by
            rw [List.getElem?_append_right (by simp)]; simp)
          injection e' with e1 _ _
          injection e1 with e1
          injection e1 with e1
          subst e1
          exact hc)
    obtain ⟨n, hn⟩ : ∃ n, l.length = n := ⟨_, rfl⟩
    rw [hn] at HFill HOf HRof HSame HOwn hn1000 h1000 ⊢
    have HN := hide hn
    clear hn hl hof hI
    go_enter Try.func3, Try.ntmps3
    go_wp2_with (first
      | (at_builtin
         refine HFill.out _ _ _ _ _ rfl _ _ rfl rfl rfl ?_
         intro v w1 hO1 hb1
         have hO1' : w1.ownsRow w.heap.size 3 1 v n (l.map (Value.int .i64)) := by have := hO1; rw [← HN.out]; exact this
         obtain ⟨A1, c1, rfl⟩ := own_slice hO1'
         have HO1 := hide hO1'
         have HB1 := hide hb1
         have hzw1 := hb1.size
         clear hO1 hO1' hb1)
      | (at_builtin
         refine wpList_one _ rfl _ _ 22 rfl 3 (.int .i64 0) 1 8 under_ints info_int rfl (by decide) (by decide) w.heap.size _ _ _ rfl (own_below HO1.out (bal w1 _) (Nat.le_refl _)) _ _ [.int .i64 77] rfl (heap_alloc_new w1 _) rfl (by simp [Value.oneCell']) (by omega) (by simp; omega) ?_
         intro v2 w2 hO2 hg2 _
         obtain ⟨g, cap, rfl, hnc, hcm, hgl, hI2, hc77⟩ := HOwn.out w2 _ v2 hO2
         have HB2 := hide (below_own (HB1.out.alloc hzw1 _) (own_below HO1.out (bal w1 (.cells #[.int .i64 77] 3)) (Nat.le_refl _)) hg2 (Nat.le_refl _) (by simp; omega))
         have HI2 := hide hI2
         have HI1 := hide (HI.out.of_below HB2.out (Nat.le_refl _))
         clear hO2 hg2 hI2))
    refine (HOf.out _ _ _ HI2.out).mono ?_
    rintro e w' ⟨rfl, rfl⟩
    go_wp2_with fail
    refine (HRof.out _ _ _ HI1.out).mono ?_
    rintro e w3 ⟨rfl, hb3⟩
    have HI23 := hide (HI2.out.of_below hb3 (Nat.le_refl _))
    have HI13 := hide (HI1.out.of_below hb3 (Nat.le_refl _))
    have hd77 := (bcl hb3 hgl).trans hc77
    have hgl3 := Nat.lt_of_lt_of_le hgl hb3.size
    have HB3 := hide (HB2.out.trans (hb3.mono HB2.out.size))
    clear hb3 hc77 HI1 HI2 HB2
    go_wp2_with fail
    refine (HSame.out _ _ _ _ _ HI23.out HI13.out).mono ?_
    rintro e w4 ⟨rfl, hb4⟩
    have hd4 := (bcl hb4 hgl3).trans hd77
    have HB4 := hide (HB3.out.trans (hb4.mono HB3.out.size))
    clear hb4 hd77 HB3
    go_wp2_with fail
    go_ret
    exact ⟨by simp, HB4.out⟩
end Go.Proofs.Ytklkndnikcjbhaa
