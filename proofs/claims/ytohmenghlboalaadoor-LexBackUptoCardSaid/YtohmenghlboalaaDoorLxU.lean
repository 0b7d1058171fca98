/-
  LexBack: the tokens of what is printed are the tokens, but for their places.
-/
import Derived.Test.YtohmenghlboalaaDoorLxS
import Derived.Test.YtohmenghlboalaaDoorLxI
import Derived.Test.YtohmenghlboalaaDoorLxJ
namespace Go.Proofs.YtohmenghlboalaaDoor
open Go.RowKit Go.Shelf
attribute [local go_sem] Oper.semAt_some
set_option linter.unusedVariables false
set_option linter.unusedSimpArgs false
set_option maxRecDepth 100000

def toK (t : Tv) : Tk := ⟨t.k.toNat, t.t, t.n, 0, 0⟩
theorem okT_toK {t : Tv} (h : okV t = true) : okT (toK t) ∧ ((toK t).k : Int) = t.k := by
  obtain ⟨k, l, n, ln, cl⟩ := t
  unfold okV at h
  dsimp only at h
  cases l with
  | nil => cases h
  | cons c r =>
    dsimp only at h
    cases hx : fstF (c :: r) with
    | none => rw [hx] at h; cases h
    | some x =>
      rw [hx] at h
      simp only [Bool.and_eq_true, decide_eq_true_eq] at h
      obtain ⟨h1, h2, h3⟩ := h
      refine ⟨⟨c, r, rfl, ?_⟩, ?_⟩
      · rw [hx]
        show some x = some (k.toNat, r.length, n)
        rw [← h1, ← h2, ← h3]; rfl
      · show ((k.toNat : Nat) : Int) = k
        omega
theorem okV_toV {t : Tk} (h : okT t) : okV (toV t) = true := by
  obtain ⟨k, l, n, ln, cl⟩ := t
  obtain ⟨c, r, h1, h2⟩ := h
  dsimp only at h1 h2
  subst h1
  unfold okV toV
  dsimp only
  rw [h2]
  simp
theorem putV_putF : ∀ l : List Tv, putF sepP (l.map toK) = putV l
  | [] => rfl
  | t :: l => by
    show t.t ++ (sepP (toK t) ++ putF sepP (l.map toK)) = t.t ++ (behV t.t :: putV l)
    rw [putV_putF l]
    have : sepP (toK t) = [behV t.t] := by
      unfold sepP behV
      show (if t.t = [59] ∨ t.t = [123] ∨ t.t = [125] then _ else _) = _
      split <;> rfl
    rw [this]; rfl
/-- what is printed is read again -/
theorem back_of (l : List Tv) (h : l.all okV = true) : (lexL (putV l) 1 1 false).2 = none ∧ (lexL (putV l) 1 1 false).1.length = l.length ∧ sameF false ((lexL (putV l) 1 1 false).1.map toV) l = true := by
  have hall : ∀ t ∈ l, okV t = true := List.all_eq_true.1 h
  have hp := put_back (l.map toK) 1 1 fun t ht => by
    obtain ⟨u, hu, rfl⟩ := List.mem_map.1 ht
    exact (okT_toK (hall u hu)).1
  rw [putV_putF] at hp
  generalize (lexL (putV l) 1 1 false) = R at hp ⊢
  obtain ⟨h1, h2⟩ := hp
  have hlen : R.1.length = l.length := by have := congrArg List.length h2; simpa using this
  refine ⟨h1, hlen, sameF_true (by simpa using hlen) fun i hi => ?_⟩
  rw [List.length_map] at hi
  have hi' : i < l.length := by omega
  have e := congrArg (fun x => x[i]?) h2
  simp only [List.getElem?_map, List.getElem?_eq_getElem hi, List.getElem?_eq_getElem hi', Option.map_some, Option.some.injEq] at e
  have g1 : (R.1.map toV).getD i default = toV R.1[i] := by simp [List.getD_eq_getElem?_getD, List.getElem?_eq_getElem hi]
  have g2 : l.getD i default = l[i] := by simp [List.getD_eq_getElem?_getD, List.getElem?_eq_getElem hi']
  rw [g1, g2]
  have hk := (okT_toK (hall l[i] (List.getElem_mem hi'))).2
  generalize R.1[i] = x at e ⊢
  generalize l[i] = y at e hk ⊢
  simp only [tkn, Prod.mk.injEq] at e
  obtain ⟨e1, e2, e3⟩ := e
  unfold sameT
  have a1 : (toV x).k = y.k := by show ((x.k : Nat) : Int) = y.k; rw [e1, hk]
  have a2 : (toV x).t = y.t := e2
  have a3 : (toV x).n = y.n := e3
  simp [a1, a2, a3]
theorem putV_many {l : List Tv} {m : Nat} (h : ∀ t ∈ l, t.t.length ≤ m) : (putV l).length ≤ (m + 1) * l.length := by
  induction l with
  | nil => exact Nat.zero_le _
  | cons t l ih =>
    have h1 := ih fun u hu => h u (List.mem_cons_of_mem _ hu)
    have h2 := h t (List.mem_cons_self ..)
    show (t.t ++ (behV t.t :: putV l)).length ≤ _
    simp only [List.length_append, List.length_cons, Nat.mul_succ]
    omega
theorem lexL_empty : lexL (byt (⟨#[]⟩ : ByteArray)) 1 1 false = ([], none) := rfl
/-- Tokens of what is printed -/
theorem toks_back (l : List Tv) (h : l.all okV = true) (hl : l.length ≤ 80000) (hz : (putV l).length ≤ 140737488355328) (w : World) (hE : Env w) :
    Calls Tryd.prog 11 #[.string (str (putV l))] w fun e w' => ∃ A c L, e = .returned (.tuple #[.slice A l.length c, .int .i64 0, .int .i64 0, .int .i64 0]) ∧ L.length = l.length ∧ sameF false L l = true ∧ Tvs w' A L ∧ Below w.heap.size w w' := by
  obtain ⟨h1, h2, h3⟩ := back_of l h
  have HT := toks_at (str (putV l)) (by rw [str_size]; exact hz) (by unfold Yl ysF; rw [byt_str, h1]; simp only [List.length_append, h2]; simp; omega) w hE
  unfold TokR at HT
  rw [byt_str] at HT
  have ho : outF (lexL (putV l) 1 1 false) = ((lexL (putV l) 1 1 false).1, 0, 0, 0) := by unfold outF; rw [h1]
  rw [ho] at HT
  refine HT.mono ?_
  rintro e w' ⟨v, rfl, hO, hb⟩
  obtain ⟨A, c, rfl, hT⟩ := own_tvs hO
  exact ⟨A, c, _, by rw [List.length_map, h2]; rfl, by rw [List.length_map, h2], h3, hT, hb⟩

set_option maxHeartbeats 8000000 in
theorem back_walk (l : List Tv) (A : Option Addr) (c : Nat) (s : ByteArray) (w : World) (hE : Env w) (hA : Tvs w A l) (hz : l.length ≤ 300 → (putV l).length ≤ 140737488355328) :
    Calls Tryd.prog 5 #[.slice A l.length c, .string s] w fun e w' => e = .returned (.bool true) ∧ Below w.heap.size w w' := by
  have HAl := hide (alive_at w hE)
  have HA := hide hA
  have HE := hide hE
  have HZ := hide hz
  obtain ⟨N, hN⟩ : ∃ N, N = l.length := ⟨_, rfl⟩
  have HN := hide hN
  rw [← hN] at HZ ⊢
  clear hA hN hE hz
  by_cases hl : N ≤ 300
  · have hll : ((N : Nat) : Int) ≤ 300 := by omega
    by_cases hs : s.size ≤ 2000
    · have hss : ((s.size : Nat) : Int) ≤ 2000 := by omega
      have HZ := hide (HZ.out hl)
      go_enter Tryd.func5, Tryd.ntmps5
      go_wp2_with fail
      refine HAl.out.mono ?_
      rintro e w1 ⟨rfl, hb1⟩
      have HB1 := hide hb1
      have HPr := hide (print_at l A c w1 (HE.out.below hb1 (Nat.le_refl _)) (HA.out.below hb1 (Nat.le_refl _)) (by rw [← HN.out]; omega) HZ.out)
      rw [← HN.out] at HPr
      clear hb1 HAl
      go_wp2_with fail
      refine HPr.out.mono ?_
      rintro e w2 ⟨rfl, hb2⟩
      have HB2 := hide (HB1.out.trans (hb2.mono HB1.out.size))
      clear hb2 HPr HB1
      by_cases hall : l.all okV = true
      · rw [prF_ok hall]
        dsimp only
        have HA2 := hide (HA.out.below HB2.out (Nat.le_refl _))
        have HT := hide (toks_back l hall (by rw [← HN.out]; omega) HZ.out w2 (HE.out.below HB2.out (Nat.le_refl _)))
        clear hall
        go_wp2_with fail
        refine HT.out.mono ?_
        rintro e w3 ⟨A3, c3, L3, rfl, hl3, hs3, hT3, hb3⟩
        rw [← HN.out] at hl3 ⊢
        have HB3 := hide (HB2.out.trans (hb3.mono HB2.out.size))
        have HS := hide (same_at L3 l A3 A c3 c false w3 hT3 (HA.out.below HB3.out (Nat.le_refl _)) (by omega) (by rw [← HN.out]; omega))
        rw [hs3, hl3, ← HN.out] at HS
        clear hl3 hs3 hT3 hb3 HT HB2 HA2
        go_wp2_with fail
        refine HS.out.mono ?_
        rintro e W0 ⟨rfl, hb0⟩
        have HB0 := hide (HB3.out.trans (hb0.mono HB3.out.size))
        clear hb0 HS HB3 HZ HA
        have HLc := hide (lexL_len _ (byt s) 1 1 false (Nat.le_refl _) (Nat.le_refl _)).1
        have HOk := hide (fun t ht => lex_ok _ (byt s) 1 1 false (Nat.le_refl _) t ht)
        have HT := hide (toks_at s (by omega) (by have := yl_len s; omega) W0 (HE.out.below HB0.out (Nat.le_refl _)))
        unfold TokR at HT
        rw [byt_len] at HLc HOk
        cases hR : (lexL (byt s) 1 1 false).2 with
        | some p =>
          have ho : outF (lexL (byt s) 1 1 false) = ([], p.1, p.2, 140) := by unfold outF; rw [hR]
          rw [ho] at HT
          generalize p.1 = q1 at *
          generalize p.2 = q2 at *
          clear ho hR HLc HOk
          go_wp2_with fail
          refine HT.out.mono ?_
          rintro e w4 ⟨v, rfl, hO, hb4⟩
          have HB4 := hide (HB0.out.trans (hb4.mono HB0.out.size))
          obtain ⟨A4, c4, rfl, hT4⟩ := own_tvs hO
          dsimp only [List.map_nil, List.length_nil]
          clear hO hb4 hT4 HT HB0
          go_wp2_with fail
          go_ret
          exact ⟨rfl, HB4.out⟩
        | none =>
          obtain ⟨L, hL⟩ : ∃ L, L = (lexL (byt s) 1 1 false).1 := ⟨_, rfl⟩
          have ho : outF (lexL (byt s) 1 1 false) = (L, 0, 0, 0) := by unfold outF; rw [hR, hL]
          rw [ho] at HT
          rw [← hL] at HLc HOk
          have hall : (L.map toV).all okV = true := by
            rw [List.all_eq_true]
            intro t ht
            obtain ⟨u, hu, rfl⟩ := List.mem_map.1 ht
            exact okV_toV (HOk.out u hu).1
          have hpz := putV_many (l := L.map toV) (m := 2000) fun t ht => by
            obtain ⟨u, hu, rfl⟩ := List.mem_map.1 ht
            have := (HOk.out u hu).2
            show u.t.length ≤ 2000
            omega
          have hLl : (L.map toV).length ≤ 2000 := by rw [List.length_map]; have := HLc.out; omega
          have hpz2 : (putV (L.map toV)).length ≤ 140737488355328 := by
            have : (2000 + 1) * (L.map toV).length ≤ (2000 + 1) * 2000 := Nat.mul_le_mul_left _ hLl
            omega
          dsimp only at HT
          clear ho hR HLc HOk hL hpz
          obtain ⟨m, hm⟩ : ∃ m, m = L.map toV := ⟨_, rfl⟩
          rw [← hm] at hall hLl hpz2
          have HMm := hide hm
          clear hm
          obtain ⟨M, hM⟩ : ∃ M, M = m.length := ⟨_, rfl⟩
          have HM := hide hM
          have HLl := hide hLl
          have HAll := hide hall
          have HPz := hide hpz2
          clear hM hLl hall hpz2
          go_wp2_with fail
          refine HT.out.mono ?_
          rintro e w4 ⟨v, rfl, hO, hb4⟩
          have HB4 := hide (HB0.out.trans (hb4.mono HB0.out.size))
          obtain ⟨A4, c4, rfl, hT4⟩ := own_tvs hO
          rw [← HMm.out] at hT4 ⊢
          have HT4 := hide hT4
          have HPr := hide (print_at m A4 c4 w4 (HE.out.below HB4.out (Nat.le_refl _)) hT4 (by have := HLl.out; omega) HPz.out)
          rw [prF_ok HAll.out, ← HM.out] at HPr
          rw [← HM.out]
          dsimp only at HPr
          clear hO hb4 hT4 HT HB0
          go_wp2_with fail
          refine HPr.out.mono ?_
          rintro e w5 ⟨rfl, hb5⟩
          have HT5 := hide (HT4.out.below hb5 (Nat.le_refl _))
          have HB5 := hide (HB4.out.trans (hb5.mono HB4.out.size))
          have HT := hide (toks_back m HAll.out (by have := HLl.out; omega) HPz.out w5 (HE.out.below HB5.out (Nat.le_refl _)))
          clear hb5 HPr HT4 HB4
          go_wp2_with fail
          refine HT.out.mono ?_
          rintro e w6 ⟨A6, c6, L6, rfl, hl6, hs6, hT6, hb6⟩
          rw [← HM.out] at hl6 ⊢
          have HB6 := hide (HB5.out.trans (hb6.mono HB5.out.size))
          have HS := hide (same_at L6 m A6 A4 c6 c4 false w6 hT6 (HT5.out.below hb6 (Nat.le_refl _)) (by have := HLl.out; rw [← HM.out] at this; omega) (by have := HLl.out; omega))
          rw [hs6, hl6, ← HM.out] at HS
          clear hl6 hs6 hT6 hb6 HT HB5 HT5
          go_wp2_with fail
          refine HS.out.mono ?_
          rintro e w7 ⟨rfl, hb7⟩
          have HB7 := hide (HB6.out.trans (hb7.mono HB6.out.size))
          clear hb7 HS HB6
          go_wp2_with fail
          go_ret
          exact ⟨rfl, HB7.out⟩
      · rw [prF_off (by simpa using hall)]
        dsimp only
        have HT := hide (toks_at ⟨#[]⟩ (by decide) (by unfold Yl ysF; rw [lexL_empty]; decide) w2 (HE.out.below HB2.out (Nat.le_refl _)))
        unfold TokR at HT
        rw [lexL_empty] at HT
        clear hall
        go_wp2_with fail
        refine HT.out.mono ?_
        rintro e W0 ⟨v, rfl, hO, hb0⟩
        obtain ⟨A3, c3, rfl, hT3⟩ := own_tvs hO
        have HB0 := hide (HB2.out.trans (hb0.mono HB2.out.size))
        clear hO hT3 hb0 HT HB2 HA HZ
        dsimp only [outF, List.map_nil, List.length_nil]
        have HLc := hide (lexL_len _ (byt s) 1 1 false (Nat.le_refl _) (Nat.le_refl _)).1
        have HOk := hide (fun t ht => lex_ok _ (byt s) 1 1 false (Nat.le_refl _) t ht)
        have HT := hide (toks_at s (by omega) (by have := yl_len s; omega) W0 (HE.out.below HB0.out (Nat.le_refl _)))
        unfold TokR at HT
        rw [byt_len] at HLc HOk
        cases hR : (lexL (byt s) 1 1 false).2 with
        | some p =>
          have ho : outF (lexL (byt s) 1 1 false) = ([], p.1, p.2, 140) := by unfold outF; rw [hR]
          rw [ho] at HT
          generalize p.1 = q1 at *
          generalize p.2 = q2 at *
          clear ho hR HLc HOk
          go_wp2_with fail
          refine HT.out.mono ?_
          rintro e w4 ⟨v, rfl, hO, hb4⟩
          have HB4 := hide (HB0.out.trans (hb4.mono HB0.out.size))
          obtain ⟨A4, c4, rfl, hT4⟩ := own_tvs hO
          dsimp only [List.map_nil, List.length_nil]
          clear hO hb4 hT4 HT HB0
          go_wp2_with fail
          go_ret
          exact ⟨rfl, HB4.out⟩
        | none =>
          obtain ⟨L, hL⟩ : ∃ L, L = (lexL (byt s) 1 1 false).1 := ⟨_, rfl⟩
          have ho : outF (lexL (byt s) 1 1 false) = (L, 0, 0, 0) := by unfold outF; rw [hR, hL]
          rw [ho] at HT
          rw [← hL] at HLc HOk
          have hall : (L.map toV).all okV = true := by
            rw [List.all_eq_true]
            intro t ht
            obtain ⟨u, hu, rfl⟩ := List.mem_map.1 ht
            exact okV_toV (HOk.out u hu).1
          have hpz := putV_many (l := L.map toV) (m := 2000) fun t ht => by
            obtain ⟨u, hu, rfl⟩ := List.mem_map.1 ht
            have := (HOk.out u hu).2
            show u.t.length ≤ 2000
            omega
          have hLl : (L.map toV).length ≤ 2000 := by rw [List.length_map]; have := HLc.out; omega
          have hpz2 : (putV (L.map toV)).length ≤ 140737488355328 := by
            have : (2000 + 1) * (L.map toV).length ≤ (2000 + 1) * 2000 := Nat.mul_le_mul_left _ hLl
            omega
          dsimp only at HT
          clear ho hR HLc HOk hL hpz
          obtain ⟨m, hm⟩ : ∃ m, m = L.map toV := ⟨_, rfl⟩
          rw [← hm] at hall hLl hpz2
          have HMm := hide hm
          clear hm
          obtain ⟨M, hM⟩ : ∃ M, M = m.length := ⟨_, rfl⟩
          have HM := hide hM
          have HLl := hide hLl
          have HAll := hide hall
          have HPz := hide hpz2
          clear hM hLl hall hpz2
          go_wp2_with fail
          refine HT.out.mono ?_
          rintro e w4 ⟨v, rfl, hO, hb4⟩
          have HB4 := hide (HB0.out.trans (hb4.mono HB0.out.size))
          obtain ⟨A4, c4, rfl, hT4⟩ := own_tvs hO
          rw [← HMm.out] at hT4 ⊢
          have HT4 := hide hT4
          have HPr := hide (print_at m A4 c4 w4 (HE.out.below HB4.out (Nat.le_refl _)) hT4 (by have := HLl.out; omega) HPz.out)
          rw [prF_ok HAll.out, ← HM.out] at HPr
          rw [← HM.out]
          dsimp only at HPr
          clear hO hb4 hT4 HT HB0
          go_wp2_with fail
          refine HPr.out.mono ?_
          rintro e w5 ⟨rfl, hb5⟩
          have HT5 := hide (HT4.out.below hb5 (Nat.le_refl _))
          have HB5 := hide (HB4.out.trans (hb5.mono HB4.out.size))
          have HT := hide (toks_back m HAll.out (by have := HLl.out; omega) HPz.out w5 (HE.out.below HB5.out (Nat.le_refl _)))
          clear hb5 HPr HT4 HB4
          go_wp2_with fail
          refine HT.out.mono ?_
          rintro e w6 ⟨A6, c6, L6, rfl, hl6, hs6, hT6, hb6⟩
          rw [← HM.out] at hl6 ⊢
          have HB6 := hide (HB5.out.trans (hb6.mono HB5.out.size))
          have HS := hide (same_at L6 m A6 A4 c6 c4 false w6 hT6 (HT5.out.below hb6 (Nat.le_refl _)) (by have := HLl.out; rw [← HM.out] at this; omega) (by have := HLl.out; omega))
          rw [hs6, hl6, ← HM.out] at HS
          clear hl6 hs6 hT6 hb6 HT HB5 HT5
          go_wp2_with fail
          refine HS.out.mono ?_
          rintro e w7 ⟨rfl, hb7⟩
          have HB7 := hide (HB6.out.trans (hb7.mono HB6.out.size))
          clear hb7 HS HB6
          go_wp2_with fail
          go_ret
          exact ⟨rfl, HB7.out⟩
    · have hss : ¬ ((s.size : Nat) : Int) ≤ 2000 := by omega
      clear hl hs
      go_enter Tryd.func5, Tryd.ntmps5
      go_wp2_with fail
      refine HAl.out.mono ?_
      rintro e w1 ⟨rfl, hb1⟩
      have HB1 := hide hb1
      clear hb1 HAl
      go_wp2_with fail
      go_ret
      exact ⟨rfl, HB1.out⟩
  · have hll : ¬ ((N : Nat) : Int) ≤ 300 := by omega
    clear hl
    go_enter Tryd.func5, Tryd.ntmps5
    go_wp2_with fail
    refine HAl.out.mono ?_
    rintro e w1 ⟨rfl, hb1⟩
    have HB1 := hide hb1
    clear hb1 HAl
    go_wp2_with fail
    go_ret
    exact ⟨rfl, HB1.out⟩
end Go.Proofs.YtohmenghlboalaaDoor
