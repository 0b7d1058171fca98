/-
  The program's places of several sizes.
-/
import Derived.Test.YtpnpbnfjhnmhjaaPcW
import Derived.Laws.MakeOwn
namespace Go.Proofs.Ytpnpbnfjhnmhjaa
open Go.RowKit Go.Shelf
attribute [local go_sem] Oper.semAt_some
set_option linter.unusedVariables false
set_option linter.unusedSimpArgs false
set_option maxRecDepth 100000

theorem mayAll_split (sizes : List Int) (align limit : Int) : mayAll sizes align limit = (alignB align && sizeB limit && sizes.all sizeB) := by
  unfold mayAll
  rw [may_split, show sizeB 0 = true from rfl, Bool.true_and]
  cases h : alignB align && sizeB limit with
  | false => rfl
  | true =>
    rw [Bool.true_and, Bool.true_and]
    rw [Bool.and_eq_true] at h
    rw [Bool.eq_iff_iff, List.all_eq_true, List.all_eq_true]
    constructor
    · intro h2 z hz
      have := h2 z hz
      rw [may_split, h.1, h.2] at this
      simpa using this
    · intro h2 z hz
      rw [may_split, h.1, h.2, h2 z hz]; rfl
theorem RmW.grown {W W' : World} {rb mb B a : Nat} {R : List (Nat × Nat)} {nx : Nat → Nat} {C n : Nat} {v : Value} {xs : List Value} (h : RmW W rb mb B a R nx) (x : W.ownsRow C 3 1 v n xs) (hg : W.grownBy W' v.ownBlock) : RmW W' rb mb B a R nx := by
  obtain ⟨l, c, h1, h2⟩ := h.mp
  obtain ⟨u, h3, h4⟩ := h.st
  have hk : ∀ (k : Nat) (o : Obj), W.heap[k]? = some o → (∀ cs, o ≠ Obj.cells cs 3 (0, 0)) → W'.heap[k]? = some o := fun k o ho hne => by
    refine (hg.block k (Array.getElem?_eq_some_iff.1 ho).1 fun e => ?_).trans ho
    obtain ⟨_, _, cur, hc⟩ := own_block x e.symm
    rw [ho] at hc
    exact hne cur (Option.some.inj hc)
  refine ⟨⟨l, c, hk _ _ h1 (fun cs e => by cases e), h2⟩, u, hk _ _ h3 (fun cs e => by injection e with _ e; exact absurd e (by decide)), own_apart h4 x (by decide) hg⟩
theorem RmW.new {W W' : World} {rb mb B a : Nat} {R : List (Nat × Nat)} {nx : Nat → Nat} (h : RmW W rb mb B a R nx) (hb : Below W.heap.size W W') : RmW W' rb mb B a R nx := by
  obtain ⟨u, h3, h4⟩ := h.st
  exact ⟨h.mp.below hb, u, (hb.block _ (Array.getElem?_eq_some_iff.1 h3).1).trans h3, own_below h4 hb (Nat.le_refl _)⟩
/-- where it stands: rooms for what is left -/
structure Fs (l : List Ai) (sizes : List Int) (a L k : Nat) (ps : List Nat) (R : List (Nat × Nat)) (nx : Nat → Nat) : Prop where
  fs : fitS l sizes a L k = some ps
  rv : Rv (tkn (l ++ spF sizes ps)) a L R
  nx : NxOk R nx
  rb : ∀ r ∈ R, r.1 ≤ 2097152 ∧ r.2 ≤ 1048576
theorem Fs.hit {l : List Ai} {sizes : List Int} {a L k i z : Nat} {ps : List Nat} {R : List (Nat × Nat)} {nx : Nat → Nat} (h : Fs l sizes a L k ps R nx) (ha0 : 0 < a) (ha : a ≤ 1048576) (hL : L ≤ 1048576) (hz : 0 < z) (hk : sizes.getD k 0 = (z : Int)) (hi : i < R.length)
    (hp : ∀ j, nx z ≤ j → j < i → roomB z (R.getD j (0, 0)) = false) (hni : nx z ≤ i) (hr : roomB z (R.getD i (0, 0)) = true) :
    Fs l sizes a L (k + 1) (ps ++ [(R.getD i (0, 0)).1]) (R.set i (upF ((R.getD i (0, 0)).1 + z) a, (R.getD i (0, 0)).2)) (fun y => if y = z then i else nx y) := by
  have hall : ∀ j, j < i → roomB z (R.getD j (0, 0)) = false := fun j hj => by
    rcases Nat.lt_or_ge j (nx z) with h1 | h1
    · exact h.nx z j h1
    · exact hp j h1 hj
  have hf := put_hit h.rv hz hi hall hr
  have hpl := fitS_len k ps h.fs
  have hmem : R.getD i (0, 0) ∈ R := by rw [List.getD_eq_getElem?_getD, List.getElem?_eq_getElem hi]; exact List.getElem_mem hi
  refine ⟨?_, ?_, ?_, ?_⟩
  · rw [fitS_next h.fs, hk, Int.toNat_natCast, hf]
  · refine (put_next h.rv ha0 hz hi hr).congr fun q => ?_
    rw [spF_snoc, hpl, hk, ← List.append_assoc, tkn_snoc]
  · exact nx_put h.nx hi (by have := upF_ge (n := (R.getD i (0, 0)).1 + z) ha0; omega) rfl (fun j h1 h2 => hp j h1 h2)
  · intro r hr'
    obtain ⟨j, hj, rfl⟩ := List.mem_iff_getElem.1 hr'
    rw [List.getElem_set]
    split
    · have h1 : (R.getD i (0, 0)).1 + z ≤ (R.getD i (0, 0)).2 := of_decide_eq_true hr
      have h2 := (h.rb _ hmem).2
      have h3 := upF_lt (n := (R.getD i (0, 0)).1 + z) ha0
      dsimp only
      omega
    · exact h.rb _ (List.getElem_mem _)
theorem Fs.miss {l : List Ai} {sizes : List Int} {a L k z : Nat} {ps : List Nat} {R : List (Nat × Nat)} {nx : Nat → Nat} (h : Fs l sizes a L k ps R nx) (hz : 0 < z) (hk : sizes.getD k 0 = (z : Int)) (hp : ∀ j, nx z ≤ j → j < R.length → roomB z (R.getD j (0, 0)) = false) :
    fitS l sizes a L (k + 1) = none := by
  have hall : ∀ j, j < R.length → roomB z (R.getD j (0, 0)) = false := fun j hj => by
    rcases Nat.lt_or_ge j (nx z) with h1 | h1
    · exact h.nx z j h1
    · exact hp j h1 hj
  rw [fitS_next h.fs, hk, Int.toNat_natCast, put_miss h.rv hz hall]
theorem Fs.zero {l : List Ai} {sizes : List Int} {a L k : Nat} {ps : List Nat} {R : List (Nat × Nat)} {nx : Nat → Nat} (h : Fs l sizes a L k ps R nx) (hk : sizes.getD k 0 = 0) : Fs l sizes a L (k + 1) (ps ++ [0]) R nx := by
  have hpl := fitS_len k ps h.fs
  refine ⟨by rw [fitS_next h.fs, hk]; show (match firstF _ 0 a L with | none => none | some p => some (ps ++ [p])) = _; rw [firstF_zero], ?_, h.nx, h.rb⟩
  refine h.rv.congr fun q => ?_
  have := tkn_snoc (l ++ spF sizes ps) 0 0 q
  rw [spF_snoc, hpl, hk, ← List.append_assoc]
  refine Eq.trans ?_ this.symm
  unfold orSpan
  simp
theorem Fs.start {l : List Ai} {sizes : List Int} {a L : Nat} (ha0 : 0 < a) (ha : a ≤ 1048576) (hL : L ≤ 1048576) : Fs l sizes a L 0 [] (roomsOf a (freeTo (tkn l) L)) (fun _ => 0) := by
  refine ⟨rfl, ?_, fun z i h => absurd h (Nat.not_lt_zero i), fun r hr => ?_⟩
  · have := rooms_start (t := tkn l) (limit := L) ha0
    simpa [spF] using this
  · obtain ⟨s, hs, rfl⟩ := List.mem_map.1 hr
    have g := free_gp hs
    have h1 := g.lt
    have h2 := g.le
    have h3 := upF_lt (n := s.1) ha0
    dsimp only
    omega

set_option maxHeartbeats 8000000 in
theorem Fit_at (l : List Ai) (A : Option Addr) (c : Nat) (sizes : List Int) (As : Option Addr) (cs : Nat) (align limit : Int) (w : World) (hI : Sps w A l) (hJ : Ints w As sizes) (hl : l.length ≤ 1000) (hs : sizes.length ≤ 1000) (hlm : mayB 0 1 limit = true → limit ≤ 100000) :
    Calls Try.prog 12 #[.slice A l.length c, .slice As sizes.length cs, .int .i64 align, .int .i64 limit] w fun e w' => fitR w.heap.size w' l sizes align limit e ∧ Below w.heap.size w w' := by
  have HA := hide (isAlign_at align w)
  have HL := hide (isSize_at limit w)
  have HS := hide (areSizes_at sizes As cs w hJ (by omega))
  have HI := hide hI
  have HJ := hide hJ
  have HLe := hide hl
  rw [may_limit] at hlm
  have hmay := mayAll_split sizes align limit
  obtain ⟨N, hN⟩ : ∃ N, N = l.length := ⟨_, rfl⟩
  obtain ⟨M, hM⟩ : ∃ M, M = sizes.length := ⟨_, rfl⟩
  have HN := hide hN
  have HMs := hide hM
  rw [← hN]
  rw [← hM] at HS hs ⊢
  clear hI hJ hN hM hl
  cases hm : mayAll sizes align limit with
  | false =>
    have HV := hide (show ∀ w' e, e = .returned (.tuple #[.slice none 0 0, .int .i64 2]) → fitR w.heap.size w' l sizes align limit e from fun w' e h => by unfold fitR; rw [hm]; exact h)
    rw [hm] at hmay
    clear hm hlm
    cases h1 : alignB align with
    | false =>
      rw [h1] at HA
      clear hmay
      go_enter Try.func12, Try.ntmps12
      go_wp2_with fail
      refine HA.out.mono ?_
      rintro e w1 ⟨rfl, rfl⟩
      go_wp2_with fail
      go_ret2
      exact ⟨HV.out _ _ rfl, Below.refl _ _⟩
    | true =>
      cases h2 : sizeB limit with
      | false =>
        rw [h1] at HA
        rw [h2] at HL
        clear hmay
        go_enter Try.func12, Try.ntmps12
        go_wp2_with fail
        refine HA.out.mono ?_
        rintro e w1 ⟨rfl, rfl⟩
        go_wp2_with fail
        refine HL.out.mono ?_
        rintro e w1 ⟨rfl, rfl⟩
        go_wp2_with fail
        go_ret2
        exact ⟨HV.out _ _ rfl, Below.refl _ _⟩
      | true =>
        have h3 : sizes.all sizeB = false := by rw [h1, h2] at hmay; simpa using hmay.symm
        rw [h1] at HA
        rw [h2] at HL
        rw [h3] at HS
        clear hmay
        go_enter Try.func12, Try.ntmps12
        go_wp2_with fail
        refine HA.out.mono ?_
        rintro e w1 ⟨rfl, rfl⟩
        go_wp2_with fail
        refine HL.out.mono ?_
        rintro e w1 ⟨rfl, rfl⟩
        go_wp2_with fail
        refine HS.out.mono ?_
        rintro e w1 ⟨rfl, rfl⟩
        go_wp2_with fail
        go_ret2
        exact ⟨HV.out _ _ rfl, Below.refl _ _⟩
  | true =>
    rw [hm] at hmay
    obtain ⟨⟨h1, h2⟩, h3⟩ : (alignB align = true ∧ sizeB limit = true) ∧ sizes.all sizeB = true := by
      have := hmay.symm
      rw [Bool.and_eq_true, Bool.and_eq_true] at this
      exact this
    have h100 := hlm h2
    obtain ⟨hm0, hma⟩ := mayAll_t hm
    obtain ⟨_, _, g3, g4, g5, g6⟩ := mayB_t hm0
    obtain ⟨a, rfl⟩ := Int.eq_ofNat_of_zero_le (show 0 ≤ align by omega)
    obtain ⟨L, rfl⟩ := Int.eq_ofNat_of_zero_le g5
    have HV := hide (show ∀ w' e, (match fitS l sizes a L M with
        | some ps => ∃ v, e = .returned (.tuple #[v, .int .i64 0]) ∧ OwnI w' w.heap.size v (natI ps)
        | none => e = .returned (.tuple #[.slice none 0 0, .int .i64 160])) → fitR w.heap.size w' l sizes a L e from fun w' e h => by unfold fitR; rw [if_pos hm, ← HMs.out]; exact h)
    have HSz := hide (show ∀ z ∈ sizes, 0 ≤ z ∧ z ≤ 1048576 from fun z hz => by have := mayB_t (hma z hz); exact ⟨this.1, this.2.1⟩)
    have HRm := hide (rooms_at l A c a L w HI.out HLe.out (by omega) (by omega) (by omega) (by have := free_len (tkn l) L; omega))
    have HSt := hide (Fs.start (l := l) (sizes := sizes) (a := a) (L := L) (by omega) (by omega) (by omega))
    have HRl := hide (show (roomsOf a (freeTo (tkn l) L)).length ≤ 100000 from by rw [roomsOf_len]; have := free_len (tkn l) L; omega)
    rw [h1] at HA
    rw [h2] at HL
    rw [h3] at HS
    rw [← HN.out] at HRm
    clear hmay hm h1 h2 h3 hlm h100 hm0 hma
    go_enter Try.func12, Try.ntmps12
    go_wp2_with fail
    refine HA.out.mono ?_
    rintro e w1 ⟨rfl, rfl⟩
    go_wp2_with fail
    refine HL.out.mono ?_
    rintro e w1 ⟨rfl, rfl⟩
    go_wp2_with fail
    refine HS.out.mono ?_
    rintro e w1 ⟨rfl, rfl⟩
    go_wp2_with fail
    refine HRm.out.mono ?_
    rintro e w1 ⟨rfl, hR⟩
    have HB1 := hide hR.bel
    have HRw := hide (show RmW w1 (w.heap.size + 1 + 1) (w.heap.size + 1) (w.heap.size + 6) a (roomsOf a (freeTo (tkn l) L)) (fun _ => 0) from ⟨hR.mp, hR.st⟩)
    have hs1 := hR.bel.size
    rcases hi' : Try.prog.info? 3 with _ | i
    · have := info_int; rw [hi'] at this; cases this
    have hinf := info_int
    rw [hi'] at hinf
    simp only [Option.map_some, Option.some.injEq, Prod.mk.injEq] at hinf
    obtain ⟨hz, hz1, hby⟩ := hinf
    obtain ⟨w2, hmk, hO2, hg2⟩ := run_make_own (P := Try.prog) w1 w.heap.size 23 3 i (.int .i64 0) 1 under_ints hi' hz hz1 .i64 .i64 M (by rw [hby]; omega) (by simp only [maxLen]; omega) hs1
    have hb2 : Below w1.heap.size w1 w2 := (Below.refl _ _).grown hg2 (Nat.le_refl _) (fun k e => by cases e)
    have HB2 := hide (HB1.out.trans (hb2.mono hs1))
    have HRw2 := hide (HRw.out.new hb2)
    have HO2 := hide hO2
    generalize hg : (⟨w1.heap.size, 0, none⟩ : Addr) = ad at *
    clear hR hi' hz hz1 hby hO2 hg2 hb2 HRw hg
    go_wp2_with fail
    go_loopw [11, 38] (fun pv kv wr => ∃ (k : Nat) (ps : List Nat) (R : List (Nat × Nat)) (nx : Nat → Nat), k ≤ M ∧ kv = .int .i64 k ∧ Fs l sizes a L k ps R nx ∧ R.length ≤ 100000 ∧ OwnI wr w.heap.size pv (natI ps) ∧ RmW wr (w.heap.size + 1 + 1) (w.heap.size + 1) (w.heap.size + 6) a R nx ∧ Below w.heap.size w wr) (fun _ kv _ => M - (intOf kv).toNat)
    case atStart => exact ⟨0, [], _, _, Nat.zero_le _, rfl, HSt.out, HRl.out, HO2.out, HRw2.out, HB2.out⟩
    case round =>
      obtain ⟨k, ps, R, nx, hk, rfl, hF, hRl, hO, hR, hb⟩ := hrel
      have HB := hide hb
      have HFs := hide hF
      have HRr := hide hR
      have hpl := fitS_len k ps hF.fs
      have hsz := hb.size
      by_cases hlt : k < M
      · have hkl : k < sizes.length := by rw [← HMs.out]; exact hlt
        obtain ⟨b, off, rfl, hbl, x0⟩ := (HJ.out.of_below hb (Nat.le_refl _)).at hkl
        obtain ⟨z1, z2⟩ := HSz.out _ (getD_mem hkl)
        obtain ⟨z, hz⟩ := Int.eq_ofNat_of_zero_le z1
        have HZk := hide hz
        rw [hz] at x0 z2
        have HOw := hide (show wr.ownsRow w.heap.size 3 1 u11 k ((natI ps).map (Value.int .i64)) from by have := hO; unfold OwnI at this; rw [natI_len, hpl] at this; exact this)
        obtain ⟨Ao, co, rfl⟩ := own_slice HOw.out
        have HSnoc := hide (fun p => natI_snoc ps p)
        have HLen := hide (show (natI ps).length = k from by rw [natI_len, hpl])
        clear hO hkl z1 hz hF hR hpl
        by_cases hz0 : z = 0
        · subst hz0
          have HF1 := hide (HFs.out.zero HZk.out)
          have HBp := hide HB.out
          have HRp := hide HRr.out
          obtain ⟨R', hR'⟩ : ∃ R', R' = R := ⟨_, rfl⟩
          obtain ⟨nx', hnx'⟩ : ∃ nx', nx' = nx := ⟨_, rfl⟩
          rw [← hR', ← hnx'] at HRp HF1
          rw [← hR'] at hRl
          have E := hide (show ∀ w4, (wr.alloc (.cells #[.int .i64 0] 3)).grownBy w4 (Value.slice Ao k co).ownBlock → Below w.heap.size w w4 ∧ RmW w4 (w.heap.size + 1 + 1) (w.heap.size + 1) (w.heap.size + 6) a R' nx' from fun w4 hg =>
                      ⟨below_own (HBp.out.alloc HBp.out.size (.cells #[.int .i64 0] 3)) (own_below HOw.out (bal wr (.cells #[.int .i64 0] 3)) (Nat.le_refl _)) hg (Nat.le_refl _) (by have := HBp.out.size; simp; omega), (HRp.out.new (bal wr (.cells #[.int .i64 0] 3))).grown (own_below HOw.out (bal wr (.cells #[.int .i64 0] 3)) (Nat.le_refl _)) hg⟩)
          clear hb
          go_wp2_with fail
          refine (put0_at wr _).mono ?_
          rintro e w3 ⟨rfl, rfl⟩
          go_wp2_with (at_builtin; refine wpList_one _ rfl _ _ 23 rfl 3 (.int .i64 0) 1 8 under_ints info_int rfl (by decide) (by decide) w.heap.size _ _ _ rfl (own_below HOw.out (bal wr _) (Nat.le_refl _)) _ _ [.int .i64 0] rfl (heap_alloc_new wr _) rfl (by simp [Value.oneCell']) (by omega) (by simp; omega) ?_; intro v4 w4 hown4 hgr4 hwh; obtain ⟨A4, c4, rfl⟩ := own_slice hown4; have HO4 := hide hown4; obtain ⟨y1, y2⟩ := E.out w4 hgr4; have HB4 := hide y1; have HR4 := hide y2; clear hown4 hgr4 hwh y1 y2)
          go_roundw
          case rel =>
            refine ⟨k + 1, ps ++ [0], R', nx', by omega, by go_num, HF1.out, hRl, ?_, HR4.out, HB4.out⟩
            rw [HSnoc.out]
            exact ownI_snoc HLen.out HO4.out
          case measure => simp [intOf]; omega
        · have HPut := hide (put_at wr (w.heap.size + 1 + 1) (w.heap.size + 1) (w.heap.size + 6) w.heap.size a z R nx HRr.out (by omega) (by omega) (by omega) (by omega) HFs.out.rb hRl ⟨by omega, by omega⟩)
          clear hb
          go_wp2_with fail
          refine HPut.out.mono ?_
          rintro e w3 (⟨i, q1, q2, q3, q4, rfl, q5, q6, q7⟩ | ⟨q1, rfl, rfl⟩)
          · have HF1 := hide (HFs.out.hit (by omega) (by omega) (by omega) (by omega) HZk.out q1 q2 q3 q4)
            have HBp := hide (HB.out.trans q6)
            have HRp := hide q5
            have hRl' : (R.set i (upF ((R.getD i (0, 0)).1 + z) a, (R.getD i (0, 0)).2)).length ≤ 100000 := by rw [List.length_set]; exact hRl
            have HOw := hide (own_stands HOw.out (W' := w3) fun j hj => by
              obtain ⟨_, _, cur, hc⟩ := own_block HOw.out hj
              rw [hc]
              exact q7 _ _ _ _ hc (by decide))
            have hblz : b < w3.heap.size := by have := q6.size; omega
            have hsz3 : w.heap.size ≤ w3.heap.size := HBp.out.size
            generalize (R.getD i (0, 0)).1 = p at *
            generalize R.set i (upF (p + z) a, (R.getD i (0, 0)).2) = R' at *
            generalize (fun y => if y = z then i else nx y) = nx' at *
            have E := hide (show ∀ w4, (w3.alloc (.cells #[.int .i64 (p : Nat)] 3)).grownBy w4 (Value.slice Ao k co).ownBlock → Below w.heap.size w w4 ∧ RmW w4 (w.heap.size + 1 + 1) (w.heap.size + 1) (w.heap.size + 6) a R' nx' from fun w4 hg =>
                          ⟨below_own (HBp.out.alloc HBp.out.size (.cells #[.int .i64 (p : Nat)] 3)) (own_below HOw.out (bal w3 (.cells #[.int .i64 (p : Nat)] 3)) (Nat.le_refl _)) hg (Nat.le_refl _) (by have := HBp.out.size; simp; omega), (HRp.out.new (bal w3 (.cells #[.int .i64 (p : Nat)] 3))).grown (own_below HOw.out (bal w3 (.cells #[.int .i64 (p : Nat)] 3)) (Nat.le_refl _)) hg⟩)
            clear q1 q2 q3 q4 q5 q6 q7
            go_wp2_with (at_builtin; refine wpList_one _ rfl _ _ 23 rfl 3 (.int .i64 0) 1 8 under_ints info_int rfl (by decide) (by decide) w.heap.size _ _ _ rfl (own_below HOw.out (bal w3 _) (Nat.le_refl _)) _ _ [.int .i64 (p : Nat)] rfl (heap_alloc_new w3 _) rfl (by simp [Value.oneCell']) (by omega) (by simp; omega) ?_; intro v4 w4 hown4 hgr4 hwh; obtain ⟨A4, c4, rfl⟩ := own_slice hown4; have HO4 := hide hown4; obtain ⟨y1, y2⟩ := E.out w4 hgr4; have HB4 := hide y1; have HR4 := hide y2; clear hown4 hgr4 hwh y1 y2)
            go_roundw
            case rel =>
              refine ⟨k + 1, ps ++ [p], R', nx', by omega, by go_num, HF1.out, hRl', ?_, HR4.out, HB4.out⟩
              rw [HSnoc.out]
              exact ownI_snoc HLen.out HO4.out
            case measure => simp [intOf]; omega
          · have HN1 := hide (show fitS l sizes a L M = none from fitS_none (HFs.out.miss (by omega) HZk.out q1) M (by omega))
            clear q1
            go_wp2_with fail
            go_ret2
            exact ⟨HV.out _ _ (by rw [HN1.out]; rfl), HB.out⟩
      · obtain rfl : k = M := by omega
        have HO := hide hO
        clear hO hb hR hF
        go_wp2_with fail
        go_ret2
        exact ⟨HV.out _ _ (by rw [HFs.out.fs]; exact ⟨_, rfl, HO.out⟩), HB.out⟩
end Go.Proofs.Ytpnpbnfjhnmhjaa
