/-
  What is free, gathered.
-/
import Derived.Test.YtpnpbnfjhnmhjaaPcL
namespace Go.Proofs.Ytpnpbnfjhnmhjaa
open Go.RowKit Go.Shelf
attribute [local go_sem] Oper.semAt_some
set_option linter.unusedVariables false
set_option linter.unusedSimpArgs false
set_option maxRecDepth 100000

theorem own_lbQ {W : World} {B : Nat} {t : TypeId} {sz : Nat} {v : Value} {n : Nat} {xs : List Value} {gl ol : Nat} (h1 : W.cell? ⟨gl, ol, none⟩ = some v) (h2 : W.ownsRow B t sz v n xs) : lbQ gl ol W = v.ownBlock := by
  unfold lbQ
  rw [h1]
  rcases h2.2 with ⟨rfl, _⟩ | ⟨g, cap, cur, rfl, _⟩ <;> rfl
/-- an append to the list that a cell holds, and the cell set anew: what is kept -/
theorem app_all {b0 m gl ol : Nat} {W w4 : World} {B : Nat} {v v4 : Value} {n k : Nat} {xs ys : List Value} {o : Obj} {cs : Array Value} {t : TypeId} (hgl : b0 ≤ gl ∧ gl < b0 + m) (hrow : W.heap[gl]? = some (.cells cs t (0, 0))) (hcs : cs[ol]? = some v) (ht : t ≠ 37)
    (h2 : W.ownsRow B 37 2 v n xs) (hg : (W.alloc o).grownBy w4 v.ownBlock) (h4 : w4.ownsRow B 37 2 v4 k ys) (hwh : v4.ownBlock = v.ownBlock ∨ v4.ownBlock = some (W.alloc o).heap.size) :
    KeepsOthers W (w4.setCell ⟨gl, ol, none⟩ v4) ∧ Kq b0 m gl ol W (w4.setCell ⟨gl, ol, none⟩ v4) ∧ (w4.setCell ⟨gl, ol, none⟩ v4).heap[gl]? = some (.cells (cs.setIfInBounds ol v4) t (0, 0)) ∧ (w4.setCell ⟨gl, ol, none⟩ v4).ownsRow B 37 2 v4 k ys ∧
      (∀ j, j < W.heap.size → j ≠ gl → v.ownBlock ≠ some j → (w4.setCell ⟨gl, ol, none⟩ v4).heap[j]? = W.heap[j]?) ∧ W.heap.size + 1 ≤ w4.heap.size ∧ w4.heap[gl]? = W.heap[gl]? := by
  have hgW := (Array.getElem?_eq_some_iff.1 hrow).1
  have hol := (Array.getElem?_eq_some_iff.1 hcs).1
  have hne : ∀ j, v.ownBlock = some j → j ≠ gl := fun j hj e => by
    subst e
    obtain ⟨_, _, cur, hc⟩ := own_block h2 hj
    rw [hrow] at hc
    injection hc with hc
    injection hc with _ hc
    exact ht hc
  have hgw4 : w4.heap[gl]? = W.heap[gl]? := (hg.block gl (by simp; omega) fun e => hne gl e.symm rfl).trans (heap_alloc_old W o hgW)
  have hset : (w4.setCell ⟨gl, ol, none⟩ v4).heap[gl]? = some (.cells (cs.setIfInBounds ol v4) t (0, 0)) := set_cells (hgw4.trans hrow)
  have hne4 : ∀ j, v4.ownBlock = some j → j ≠ gl := fun j hj e => by
    rcases hwh with h | h
    · exact hne j (h ▸ hj) e
    · rw [hj] at h
      injection h with h
      simp at h
      omega
  have h4' : (w4.setCell ⟨gl, ol, none⟩ v4).ownsRow B 37 2 v4 k ys := own_stands h4 fun j hj => setCell_other (hne4 j hj)
  have hsz : W.heap.size + 1 ≤ w4.heap.size := by have := hg.size; simpa using this
  have hc1 : W.cell? ⟨gl, ol, none⟩ = some v := by rw [cell_of_row _ _ _ _ _ _ hrow]; exact hcs
  have hc4 : (w4.setCell ⟨gl, ol, none⟩ v4).cell? ⟨gl, ol, none⟩ = some v4 := by
    rw [cell_of_row _ _ _ _ _ _ hset, Array.getElem?_setIfInBounds, if_pos rfl, if_pos hol]
  have hold : ∀ j, j < W.heap.size → j ≠ gl → v.ownBlock ≠ some j → (w4.setCell ⟨gl, ol, none⟩ v4).heap[j]? = W.heap[j]? := fun j hj h1 h3 => by
    rw [setCell_other h1]
    exact (hg.block j (by simp; omega) fun e => h3 e.symm).trans (heap_alloc_old W o hj)
  refine ⟨((KeepsOthers.alloc W o).trans (keeps_own (own_below h2 (bal W o) (Nat.le_refl _)) hg)).trans (KeepsOthers.setCell _ _ _), ⟨by simp; omega, fun a ha => ?_, fun j cs' t' fr hc hn hl => ?_⟩, hset, h4', hold, hsz, hgw4⟩
  · rw [own_lbQ hc4 h4'] at ha
    rcases hwh with e | e
    · rw [own_lbQ hc1 h2]; exact .inl (e ▸ ha)
    · have h5 := (own_block h4 e).1
      rw [e] at ha
      obtain rfl := Option.some.inj ha
      exact .inr ⟨by simp, by simpa using h5⟩
  · rw [own_lbQ hc1 h2] at hl
    exact (hold j (Array.getElem?_eq_some_iff.1 hc).1 (fun e => hn (by omega)) hl).trans hc

/-- what stands while it is gathered -/
structure Cb (w : World) (pre : List PG) (W : World) : Prop where
  bel : Below w.heap.size w W
  sz : w.heap.size + 1 ≤ W.heap.size
  ls : ∃ v, W.heap[w.heap.size]? = some (.cells #[v] 22 (0, 0)) ∧ OwnA W (w.heap.size + 1) v (toI (pg pre))
theorem Cb.from {w A B : World} {pre : List PG} {C : Nat} {row : Option Nat} (hs : Cb w pre A) (hg : A.grownBy B row) (hr : ∀ r, row = some r → C ≤ r ∧ ∃ o : Obj, A.heap[r]? = some o ∧ o.isCells = false) (hC : w.heap.size + 1 ≤ C) : Cb w pre B := by
  have := hs.sz
  obtain ⟨v, h1, h2⟩ := hs.ls
  exact ⟨hs.bel.grown hg (by omega) (fun k e => by have := (hr k e).1; omega), Nat.le_trans hs.sz hg.size, v, row_kept h1 hg hr, own_kept h2 hg fun r e => ⟨Nat.le_trans hC (hr r e).1, (hr r e).2⟩⟩

set_option maxHeartbeats 4000000 in
theorem seq_at (l : List Ai) (A : Option Addr) (c L bT bL : Nat) (w : World) (hI : Sps w A l) (hl : l.length ≤ 1000) (hL : L ≤ 1048576) (hf : (freeTo (tkn l) L).length ≤ 100000) (hT : w.heap[bT]? = some (.cells #[.slice A l.length c] 22 (0, 0))) (hB : w.heap[bL]? = some (.cells #[.int .i64 (L : Nat)] 3 (0, 0))) :
    Calls Try.prog 33 #[.slice none 0 0, .func (.func 31) #[] #[.pointer (some ⟨bT, 0, none⟩), .pointer (some ⟨bL, 0, none⟩)]] w fun e w' =>
      ∃ v, e = .returned v ∧ OwnA w' w.heap.size v (toI (freeTo (tkn l) L)) ∧ Below w.heap.size w w' := by
  have HI := hide hI
  have HLe := hide hl
  have HFl := hide hf
  have hTl := (Array.getElem?_eq_some_iff.1 hT).1
  have hBl := (Array.getElem?_eq_some_iff.1 hB).1
  have HT := hide hT
  have HB := hide hB
  clear hI hT hB hf
  refine calls_of_wp_marks Try.func33 rfl ?_
  simp only [Try.ntmps33, List.size_toArray, List.length_cons, List.length_nil, Nat.reduceAdd, Nat.reduceSub, Array.replicate_succ, Array.replicate_zero, List.push_toArray, List.append_toArray, List.nil_append, List.cons_append]
  go_wp2_with fail
  have hb5 := bal w (.cells #[.slice none 0 0] 22)
  have hrow := heap_alloc_new w (.cells #[.slice none 0 0] 22)
  have hsz : (w.alloc (.cells #[.slice none 0 0] 22)).heap.size = w.heap.size + 1 := by simp
  generalize w.alloc (.cells #[.slice none 0 0] 22) = W5 at *
  have HF0 := hide (show Cb w [] W5 from ⟨hb5, by omega, _, hrow, World.ownsRow_nil _ _ _ _⟩)
  have hlq : lbQ w.heap.size 0 W5 = none := by unfold lbQ; rw [cell_of_row _ _ _ _ _ _ hrow]; rfl
  have HLb := hide (show Lb w.heap.size 1 w.heap.size 0 W5 from ⟨by omega, by omega, fun x h => by rw [hlq] at h; cases h⟩)
  have HAp := hide (show Ap w.heap.size 1 w.heap.size 0 bL W5 from ⟨by omega, by rw [hlq]; intro h; cases h⟩)
  have HI5 := hide (HI.out.of_below hb5 (Nat.le_refl _))
  have HT5 := hide ((hb5.block _ hTl).trans HT.out)
  have HL5 := hide ((hb5.block _ hBl).trans HB.out)
  have hw5 : w.heap.size + 1 ≤ W5.heap.size := by omega
  clear hb5 hrow hsz hlq HI HT HB
  refine (wpIn_wide (n := 2)).1 ?_
  refine wpIn_rangeFunc_ownH rfl (by omega) rfl trivial (enters_of Try.func31 (by kernel_rfl) rfl) (free_stops (2 - 1) w.heap.size 1 w.heap.size 0 bT bL l A c L HLe.out (by omega) W5 HLb.out HT5.out HL5.out HAp.out HI5.out)
    (fun h k => h.trans k) (fun W l o o' hl hlo ho _ => Kz.put (by omega) hlo ho) (Below.refl _ _) (fun _ => rfl) (Cb w) (fun _ _ _ => False) (fun p A B row hs hg hr => hs.from hg hr hw5) (fun c p A B row hs hg hr => hs) HF0.out
    (AxS (w.heap.size + 1) (fun p v => #[.slice none 0 0, .func (.func 31) #[] #[.pointer (some ⟨bT, 0, none⟩), .pointer (some ⟨bL, 0, none⟩)], .pointer (some ⟨w.heap.size, 0, none⟩), undef, .slice none 0 0, p, .func (.func 31) #[] #[.pointer (some ⟨bT, 0, none⟩), .pointer (some ⟨bL, 0, none⟩)], v, undef, undef, undef, undef, undef])) (fun x a' u A B row hs hg hr => ?ax) ?assign ?body ?done ?stop
  case ax =>
    obtain ⟨Bx, h1, h3, h4⟩ := hs
    exact ⟨Bx, h1, row_kept h3 hg hr, h4⟩
  case assign =>
    intro ly pre x W K hT hK
    have HT := hide hT
    have HK := hide hK
    have hWs := hT.sz
    clear hT hK
    obtain ⟨⟨f, g⟩, hx⟩ := x
    simp only [pgEnc]
    gi_wp2
    refine HK.out _ _ ((KeepsOthers.alloc _ _).from _) (Kq.new (bal W _) (by omega)).toZ (HT.out.from (World.grownBy_alloc W _ none) (C := w.heap.size + 1) (fun r e => by cases e) (Nat.le_refl _)) ⟨W.heap.size, by omega, heap_alloc_new W _, rfl⟩
  case body =>
    rintro ly pre x a' W hl ⟨r, hr⟩ hT ⟨Bx, hB, hrow, rfl⟩ hlen
    obtain ⟨⟨f, g⟩, hx⟩ := x
    have HSn := hide (show toI (pg (pre ++ [⟨(f, g), hx⟩])) = toI (pg pre) ++ [((f : Int), (g : Int))] from by rw [pg_snoc, toI_snoc])
    dsimp only at hx hrow ⊢
    have d0 : W.cell? ⟨Bx, 0, none⟩ = some (.int .i64 (f : Nat)) := by rw [cell_of_row _ _ _ _ _ _ hrow]; rfl
    have d1 : W.cell? ⟨Bx, 1, none⟩ = some (.int .i64 (g : Nat)) := by rw [cell_of_row _ _ _ _ _ _ hrow]; rfl
    have hBl : Bx < W.heap.size := (Array.getElem?_eq_some_iff.1 hrow).1
    have HT := hide hT
    obtain ⟨v, hv1, hv2⟩ := hT.ls
    obtain ⟨Av, cv, rfl⟩ := own_slice hv2
    have hs7 := hT.sz
    have s0 : w.heap.size < W.heap.size := by omega
    have HLn := hide (show (toI (pg pre)).length = pre.length from by rw [toI_len, pg_len])
    rw [HLn.out] at hv1 hv2
    have k0 : W.cell? ⟨w.heap.size, 0, none⟩ = some (.slice Av pre.length cv) := by rw [cell_of_row _ _ _ _ _ _ hv1]; rfl
    have HV1 := hide hv1
    have HV2 := hide (show W.ownsRow (w.heap.size + 1) 37 2 (.slice Av pre.length cv) pre.length (flatA (toI (pg pre))) from by unfold OwnA at hv2; rw [HLn.out] at hv2; exact hv2)
    have hpl : pre.length ≤ 100000 := by have := HFl.out; omega
    generalize pre.length = M at *
    have HE := hide (fun v4 w4 hg h4 hwh => app_all (b0 := w.heap.size) (m := 1) (gl := w.heap.size) (ol := 0) (w4 := w4) (v4 := v4) (k := M + 1) (ys := flatA (toI (pg pre)) ++ [.int .i64 (f : Nat), .int .i64 (g : Nat)]) (o := .cells #[.int .i64 (f : Nat), .int .i64 (g : Nat)] 37) ⟨Nat.le_refl _, by omega⟩ HV1.out rfl (by decide) HV2.out hg h4 hwh)
    clear hT hrow hr hl hlen hv1 hv2
    gi_wp2_with (gi_at_builtin; go_loud (refine wpListIn_one _ rfl _ _ 22 rfl 37 (.agg #[.int .i64 0, .int .i64 0]) 2 16 under_spans info_span rfl (by decide) (by decide) (w.heap.size + 1) _ _ _ rfl (own_below HV2.out (bal W _) (Nat.le_refl _)) _ _ [.int .i64 (f : Nat), .int .i64 (g : Nat)] rfl (heap_alloc_new W _) rfl (by simp [Value.oneCell']) hpl (by simp; omega) ?_; intro v4 w4 hown4 hgr4 hwh; obtain ⟨A4, c4, rfl⟩ := own_slice hown4; obtain ⟨x1, x2, x3, x4, x5, x6, x7⟩ := HE.out _ _ hgr4 hown4 hwh; have HX1 := hide x1; have HX2 := hide x2; have HX3 := hide x3; have HX4 := hide x4; have HX6 := hide (below_own (HT.out.bel.alloc (by omega) (.cells #[.int .i64 (f : Nat), .int .i64 (g : Nat)] 37)) (own_below HV2.out (bal W (.cells #[.int .i64 (f : Nat), .int .i64 (g : Nat)] 37)) (Nat.le_refl _)) hgr4 (by omega) (by simp; omega)); have e0 : w4.cell? ⟨w.heap.size, 0, none⟩ = some (.slice Av M cv) := (by rw [cell_of_row _ _ _ _ _ _ (x7.trans HV1.out)]; rfl); have e1 : w4.frozen? ⟨w.heap.size, 0, none⟩ = false := (by simp [World.frozen?, x7, HV1.out]); have hw4 : w.heap.size < w4.heap.size := World.block_lt_of_cell? _ _ e0; clear hown4 hgr4 hwh x1 x2 x3 x4 x5 x6 x7))
    refine ⟨HX1.out.from _, HX2.out.toZ, HX6.out.setCell (p := ⟨w.heap.size, 0, none⟩) (Nat.le_refl _) _, by simp; omega, .slice A4 (M + 1) c4, HX3.out, ?_⟩
    rw [HSn.out]
    exact ownA_snoc HLn.out HX4.out
  case done =>
    rintro D xs W hD hxs hT hK
    have HT := hide hT
    have HX := hide hxs
    obtain ⟨v, hv1, hv2⟩ := hT.ls
    have k0 : W.cell? ⟨w.heap.size, 0, none⟩ = some v := by rw [cell_of_row _ _ _ _ _ _ hv1]; rfl
    have hs7 := hT.sz
    have s0 : w.heap.size < W.heap.size := by omega
    have HMk := hide ((Mk.nil (w.heap.size + 1) W).more (D := D) (by omega) hK (by simp))
    have HV2 := hide hv2
    obtain ⟨Av, cv, rfl⟩ := own_slice hv2
    clear hT hxs hK hv1 hv2
    go_wp2_with fail
    refine leave_ret (Ds := [D]) HMk.out fun W' hb' hk' => ⟨_, by simp [results, Try.results33, go_sem]; rfl, _, rfl, ?_, HT.out.bel.trans (hb'.mono (by omega))⟩
    rw [← HX.out]
    exact ownA_base (own_cells HV2.out hk') (by omega)
  case stop => exact fun _ _ _ _ _ _ h _ => h.elim
theorem may_limit (limit : Int) : mayB 0 1 limit = sizeB limit := by rw [may_split]; simp [sizeB, alignB]
set_option maxHeartbeats 1000000 in
theorem Free_at (l : List Ai) (A : Option Addr) (c : Nat) (limit : Int) (w : World) (hI : Sps w A l) (hl : l.length ≤ 1000) (hlm : mayB 0 1 limit = true → limit ≤ 100000) :
    Calls Try.prog 16 #[.slice A l.length c, .int .i64 limit] w fun e w' => ∃ v, e = .returned v ∧ OwnA w' w.heap.size v (freeL l limit) ∧ Below w.heap.size w w' := by
  have HL := hide (isSize_at limit w)
  rw [may_limit] at hlm
  cases h3 : sizeB limit with
  | false =>
    have HV := hide (show freeL l limit = [] from if_neg (by rw [may_limit, h3]; decide))
    rw [h3] at HL
    generalize l.length = N at *
    clear h3 hlm
    go_enter Try.func16, Try.ntmps16
    go_wp2_with fail
    refine HL.out.mono ?_
    rintro e w1 ⟨rfl, rfl⟩
    go_wp2_with fail
    go_ret
    exact ⟨_, rfl, by rw [HV.out]; exact World.ownsRow_nil _ _ _ _, Below.refl _ _⟩
  | true =>
    have h3' := of_decide_eq_true h3
    have h4 := hlm h3
    obtain ⟨L, rfl⟩ := Int.eq_ofNat_of_zero_le h3'.1
    have HV := hide (show freeL l L = toI (freeTo (tkn l) L) from if_pos (by rw [may_limit]; exact h3))
    have hb := (bal w (.cells #[.slice A l.length c] 22)).alloc (by simp) (.cells #[.int .i64 (L : Nat)] 3)
    have HS := hide (seq_at l A c L w.heap.size (w.heap.size + 1) ((w.alloc (.cells #[.slice A l.length c] 22)).alloc (.cells #[.int .i64 (L : Nat)] 3)) (hI.of_below hb (Nat.le_refl _)) hl (by omega) (by have := free_len (tkn l) L; omega) (heap_alloc2_old w _ _) (heap_alloc2_new w _ _))
    rw [← HV.out] at HS
    have HB := hide hb
    rw [h3] at HL
    generalize l.length = N at *
    clear h3 h3' hb hlm
    go_enter Try.func16, Try.ntmps16
    go_wp2_with fail
    refine HL.out.mono ?_
    rintro e w1 ⟨rfl, rfl⟩
    go_wp2_with fail
    refine (free_mk A N c (L : Nat) _).mono ?_
    rintro e w1 ⟨rfl, rfl⟩
    go_wp2_with fail
    have HC := hide (show Calls Try.prog 30 #[.func (.func 31) #[] #[.pointer (some ⟨w.heap.size, 0, none⟩), .pointer (some ⟨w.heap.size + 1, 0, none⟩)]] ((w.alloc (.cells #[.slice A N c] 22)).alloc (.cells #[.int .i64 (L : Nat)] 3)) fun e w' => ∃ v, e = .returned v ∧ OwnA w' w.heap.size v (freeL l L) ∧ Below w.heap.size w w' from by
      generalize (w.alloc (.cells #[.slice A N c] 22)).alloc (.cells #[.int .i64 (L : Nat)] 3) = W at *
      go_enter Try.func30, Try.ntmps30
      go_wp2_with fail
      refine HS.out.mono ?_
      rintro e w1 ⟨v, rfl, hO, hb1⟩
      have HO := hide (show OwnA w1 w.heap.size v (freeL l L) ∧ Below w.heap.size w w1 from ⟨ownA_base hO HB.out.size, HB.out.trans (hb1.mono HB.out.size)⟩)
      clear hO hb1
      go_wp2_with fail
      go_ret
      exact ⟨v, rfl, HO.out⟩)
    refine HC.out.mono ?_
    rintro e w1 ⟨v, rfl, hO⟩
    have HO := hide hO
    clear hO
    go_wp2_with fail
    go_ret
    exact ⟨v, rfl, HO.out⟩
end Go.Proofs.Ytpnpbnfjhnmhjaa
