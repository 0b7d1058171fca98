/-
  LexPrints: the text of tokens, and which one begins ahead of a place, are the document's.
-/
import Derived.Test.YtohmenghlboalaaDoorLxS
import Derived.Test.YtohmenghlboalaaDoorLxI
import Derived.Test.YtohmenghlboalaaDoorLxJ
namespace Go.Proofs.YtohmenghlboalaaDoor
open Go.RowKit Go.Shelf
attribute [local go_sem] Oper.semAt_some
set_option linter.unusedVariables false
set_option linter.unusedSimpArgs false
set_option maxRecDepth 100000

set_option maxHeartbeats 4000000 in
theorem rfind_at (l : List Tv) (A : Option Addr) (c : Nat) (line column : Int) (w : World) (hA : Tvs w A l) (hl : l.length ≤ 100000) :
    Calls Tryd.prog 9 #[.slice A l.length c, .int .i64 line, .int .i64 column] w fun e w' => e = .returned (.int .i64 (findV l line column l.length)) ∧ Below w.heap.size w w' := by
  have HA := hide hA
  obtain ⟨N, hN⟩ : ∃ N, N = l.length := ⟨_, rfl⟩
  have HN := hide hN
  obtain ⟨R, hR⟩ : ∃ R, R = findV l line column N := ⟨_, rfl⟩
  have HR := hide hR
  rw [← hN, ← hR]
  rw [← hN] at hl
  clear hA hN hR
  go_enter Tryd.func9, Tryd.ntmps9
  go_wp2_with fail
  go_loopw [7, 8] (fun ov iv wr => ∃ k : Nat, k ≤ N ∧ iv = .int .i64 k ∧ ov = .int .i64 (findV l line column k) ∧ Below w.heap.size w wr) (fun _ iv _ => N - (intOf iv).toNat)
  case atStart => exact ⟨0, Nat.zero_le _, rfl, rfl, Below.refl _ _⟩
  case round =>
    obtain ⟨k, hk, rfl, rfl, hbb⟩ := hrel
    have HBe := hide hbb
    clear hbb
    by_cases hlt : k < N
    · obtain ⟨b1, o1, rfl, hb1, T1⟩ := (HA.out.below HBe.out (Nat.le_refl _)).at (k := k) (by rw [← HN.out]; exact hlt)
      have HS := hide (show findV l line column (k + 1) = if atV (l.getD k default) line column = true then (k : Int) else findV l line column k from rfl)
      generalize findV l line column k = F at *
      generalize l.getD k default = x at *
      obtain ⟨k1, t1, n1, l1, c1⟩ := x
      obtain ⟨x0, x1, x2, x3, x4⟩ := T1
      dsimp only at x0 x1 x2 x3 x4
      clear x0 x1 x2
      go_wp2_with fail
      all_goals exact ⟨⟨k + 1, by omega, by go_num, by first | rw [HS.out, if_pos (by simp [atV]; omega)] | rw [HS.out, if_neg (by simp [atV]; omega)], HBe.out⟩, by simp [intOf]; omega⟩
    · obtain rfl : k = N := by omega
      go_wp2_with fail
      go_ret
      exact ⟨by rw [HR.out]; rfl, HBe.out⟩

/-- a list of one's own of tokens that may be any -/
abbrev OwnV (W : World) (B : Nat) (v : Value) (l : List Tv) : Prop := W.ownsRow B 24 5 v l.length (l.flatMap tvC)
theorem flatV_at : ∀ (l : List Tv) (i j : Nat), i < l.length → j < 5 → (l.flatMap tvC)[i * 5 + j]? = (tvC (l.getD i default))[j]?
  | [], _, _, h, _ => by simp at h
  | t :: l, 0, j, _, hj => by
    rw [show (t :: l).flatMap tvC = tvC t ++ l.flatMap tvC from rfl, Nat.zero_mul, Nat.zero_add, List.getElem?_append_left (by show j < 5; exact hj)]; rfl
  | t :: l, i + 1, j, h, hj => by
    rw [show (t :: l).flatMap tvC = tvC t ++ l.flatMap tvC from rfl, List.getElem?_append_right (by show 5 ≤ _; omega), show (i + 1) * 5 + j - (tvC t).length = i * 5 + j by show _ - 5 = _; omega]
    exact flatV_at l i j (by simpa using h) hj
theorem ownv_tvs {W : World} {B : Nat} {v : Value} {l : List Tv} (h : OwnV W B v l) : ∃ A c, v = .slice A l.length c ∧ Tvs W A l := by
  rcases h.2 with ⟨rfl, h0⟩ | ⟨g, cap, cur, rfl, hg, hh, _, _, _, ht⟩
  · exact ⟨_, _, by rw [h0], .inl h0⟩
  · refine ⟨_, cap, rfl, .inr ⟨g, 0, rfl, (Array.getElem?_eq_some_iff.1 hh).1, fun i hi => ?_⟩⟩
    have hc : ∀ j, j < 5 → W.cell? ⟨g, i * 5 + j, none⟩ = (tvC (l.getD i default))[j]? := fun j hj => by
      rw [cell_of_row _ _ _ _ _ _ hh, ← flatV_at l i j hi hj, ← ht, List.getElem?_take, if_pos (by omega)]
      simp
    rw [Nat.zero_add]
    exact ⟨hc 0 (by omega), hc 1 (by omega), hc 2 (by omega), hc 3 (by omega), hc 4 (by omega)⟩

/-- what stands behind k rounds of copying -/
structure Cp (w : World) (l : List Tv) (k : Nat) (ov : Value) (W : World) : Prop where
  sm : ∀ t ∈ l.take k, t.t.length ≤ 100
  own : OwnV W w.heap.size ov (l.take k)
  bel : Below w.heap.size w W
theorem cp_app {w W w4 : World} {l : List Tv} {k : Nat} {ov v4 : Value} {o : Obj} (h : Cp w l k ov W) (hk : k < l.length) (hs : (l.getD k default).t.length ≤ 100)
    (hg : (W.alloc o).grownBy w4 ov.ownBlock) (h4 : w4.ownsRow w.heap.size 24 5 v4 (k + 1) ((l.take k).flatMap tvC ++ tvC (l.getD k default))) : Cp w l (k + 1) v4 w4 := by
  refine ⟨?_, ?_, (h.bel.alloc h.bel.size o).grown hg (by have := h.bel.size; simp; omega) fun k e => (own_block h.own e).2.1⟩
  · intro t ht
    rw [take_next hk] at ht
    rcases List.mem_append.1 ht with h1 | h1
    · exact h.sm t h1
    · rw [List.mem_singleton.1 h1]; exact hs
  · unfold OwnV
    rw [take_next hk, List.flatMap_append, List.length_append, List.length_take, Nat.min_eq_left (Nat.le_of_lt hk)]
    simpa using h4

set_option maxHeartbeats 8000000 in
theorem prints_walk (l : List Tv) (A : Option Addr) (c : Nat) (line column : Int) (w : World) (hE : Env w) (hA : Tvs w A l) :
    Calls Tryd.prog 3 #[.slice A l.length c, .int .i64 line, .int .i64 column] w fun e w' => e = .returned (.bool true) ∧ Below w.heap.size w w' := by
  have HA := hide hA
  have HE := hide hE
  obtain ⟨N, hN⟩ : ∃ N, N = l.length := ⟨_, rfl⟩
  have HN := hide hN
  rw [← hN]
  clear hA hN hE
  by_cases hl : N ≤ 300
  · have hll : ((N : Nat) : Int) ≤ 300 := by omega
    go_enter Tryd.func3, Tryd.ntmps3
    go_wp2_with fail
    go_loopw [7, 8] (fun ov iv wr => ∃ k : Nat, k ≤ N ∧ iv = .int .i64 k ∧ Hid (Cp w l k ov wr)) (fun _ iv _ => N - (intOf iv).toNat)
    case atStart => exact ⟨0, Nat.zero_le _, rfl, ⟨fun t ht => by simp at ht, World.ownsRow_nil _ _ _ _, Below.refl _ _⟩⟩
    case round =>
      obtain ⟨k, hk, rfl, hC⟩ := hrel
      by_cases hlt : k < N
      · have hkl : k < l.length := by rw [← HN.out]; exact hlt
        obtain ⟨b1, o1, rfl, hb1, T1⟩ := (HA.out.below hC.out.bel (Nat.le_refl _)).at (k := k) hkl
        have HAp := hide (fun (hs : (l.getD k default).t.length ≤ 100) (v4 : Value) (w4 : World) (o : Obj) hg h4 => cp_app (v4 := v4) (w4 := w4) (o := o) hC.out hkl hs hg h4)
        have hOw := hC.out.own
        unfold OwnV at hOw
        rw [List.length_take, Nat.min_eq_left (Nat.le_of_lt hkl)] at hOw
        obtain ⟨oA, oc, rfl⟩ := own_slice hOw
        have HOw := hide hOw
        clear hOw
        have HBe := hide hC.out.bel
        have HWs := hide hC.out.bel.size
        generalize l.getD k default = t at *
        obtain ⟨kk, tt, nn, ln, cl⟩ := t
        obtain ⟨x0, x1, x2, x3, x4⟩ := T1
        dsimp only at x0 x1 x2 x3 x4 HAp
        have hq1 : (str tt).size = tt.length := str_size _
        by_cases ht : tt.length ≤ 100
        · have hss : (((str tt).size : Nat) : Int) ≤ 100 := by omega
          clear hC hq1
          have HApp := hide (HAp.out ht)
          have HLn := hide (show k ≤ 100000 by omega)
          clear ht HAp
          go_wp2_with (at_builtin; go_loud (refine wpList_one _ rfl _ _ 22 rfl 24 (.agg #[.int .i64 0, .string ⟨#[]⟩, .int .i64 0, .int .i64 0, .int .i64 0]) 5 48 under_toks info_toks rfl (by decide) (by decide) w.heap.size (.slice oA k oc) k ((l.take k).flatMap tvC) rfl (own_below HOw.out (bal wr _) (Nat.le_refl _)) wr.heap.size 1 [.int .i64 kk, .string (str tt), .int .i64 nn, .int .i64 ln, .int .i64 cl] rfl (heap_alloc_new wr _) rfl (by simp [Value.oneCell']) HLn.out (by have := HWs.out; simp; omega) ?_; intro v' w4 hown4 hgr4 hwh; obtain ⟨A4, c4, rfl⟩ := own_slice hown4; have HP3 := hide (HApp.out _ _ _ hgr4 hown4); clear hown4 hgr4 hwh))
          go_roundw
          case rel => exact ⟨k + 1, by omega, by go_num, HP3⟩
          case measure => simp [intOf]; omega
        · have hss : ¬ (((str tt).size : Nat) : Int) ≤ 100 := by omega
          clear hC hq1 x0 x2 x3 x4 HAp HOw
          go_wp2_with fail
          go_ret
          exact ⟨rfl, HBe.out⟩
      · obtain rfl : k = N := by omega
        have hkl : l.take k = l := by rw [List.take_of_length_le (by rw [← HN.out]; exact Nat.le_refl _)]
        have hsm := hC.out.sm
        have hown := hC.out.own
        rw [hkl] at hsm hown
        obtain ⟨oA, oc, rfl, hT⟩ := ownv_tvs hown
        rw [← HN.out]
        have HT := hide hT
        have HSm := hide hsm
        have HBe := hide hC.out.bel
        have hpz := putV_small hsm
        have HPr := hide (print_at l oA oc wr (HE.out.below HBe.out (Nat.le_refl _)) hT (by rw [← HN.out]; omega) (by rw [← HN.out] at hpz; omega))
        rw [← HN.out] at HPr
        clear hC hkl hsm hown hT hpz
        go_wp2_with fail
        refine HPr.out.mono ?_
        rintro e w1 ⟨rfl, hb1⟩
        have HT1 := hide (HT.out.below hb1 (Nat.le_refl _))
        have HB1 := hide (HBe.out.trans (hb1.mono HBe.out.size))
        have HPr := hide (rprint_at l A c w1 (HA.out.below HB1.out (Nat.le_refl _)) (by rw [← HN.out]; omega) HSm.out)
        rw [← HN.out] at HPr
        generalize prF l = R at *
        obtain ⟨R1, R2⟩ := R
        dsimp only at HPr ⊢
        clear hb1 HT HBe
        go_wp2_with fail
        refine HPr.out.mono ?_
        rintro e w2 ⟨rfl, hb2⟩
        have HT2 := hide (HT1.out.below hb2 (Nat.le_refl _))
        have HB2 := hide (HB1.out.trans (hb2.mono HB1.out.size))
        have HF := hide (find_at l oA oc line column w2 HT2.out (by rw [← HN.out]; omega))
        rw [← HN.out] at HF
        clear hb2 HT1 HB1
        have hs : (R1.toList == R1.toList) = true := by simp
        go_wp2_with fail
        refine HF.out.mono ?_
        rintro e w3 ⟨rfl, hb3⟩
        have HT3 := hide (HT2.out.below hb3 (Nat.le_refl _))
        have HB3 := hide (HB2.out.trans (hb3.mono HB2.out.size))
        have HF := hide (rfind_at l A c line column w3 (HA.out.below HB3.out (Nat.le_refl _)) (by rw [← HN.out]; omega))
        rw [← HN.out] at HF
        generalize findV l line column k = F at *
        clear hb3 HT2 HB2
        go_wp2_with fail
        refine HF.out.mono ?_
        rintro e w4 ⟨rfl, hb4⟩
        have HT4 := hide (HT3.out.below hb4 (Nat.le_refl _))
        have HB4 := hide (HB3.out.trans (hb4.mono HB3.out.size))
        have HS := hide (same_at l l oA A oc c true w4 HT4.out (HA.out.below HB4.out (Nat.le_refl _)) (by rw [← HN.out]; omega) (by rw [← HN.out]; omega))
        rw [sameF_self, ← HN.out] at HS
        clear hb4 HT3 HB3
        go_wp2_with fail
        refine HS.out.mono ?_
        rintro e w5 ⟨rfl, hb5⟩
        have HB5 := hide (HB4.out.trans (hb5.mono HB4.out.size))
        clear hb5
        go_wp2_with fail
        go_ret
        exact ⟨rfl, HB5.out⟩
  · have hll : ¬ ((N : Nat) : Int) ≤ 300 := by omega
    clear hl
    go_enter Tryd.func3, Tryd.ntmps3
    go_wp2_with fail
    go_ret
    exact ⟨rfl, Below.refl _ _⟩
end Go.Proofs.YtohmenghlboalaaDoor
