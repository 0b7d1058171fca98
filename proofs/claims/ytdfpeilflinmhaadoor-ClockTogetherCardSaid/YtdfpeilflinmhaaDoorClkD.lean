/-
  A clock's average.
-/
import Derived.Test.YtdfpeilflinmhaaDoorClkC
namespace Go.Proofs.YtdfpeilflinmhaaDoor
open Go.RowKit Go.Deep Go.Sort
attribute [local go_sem] Oper.semAt_some
set_option linter.unusedVariables false
set_option linter.unusedSimpArgs false

theorem calloc_old (W : World) (o : Obj) {j : Nat} (h : j < W.heap.size) : (W.alloc o).heap[j]? = W.heap[j]? := (bal W o).block j h
theorem calloc_new (W : World) (o : Obj) : (W.alloc o).heap[W.heap.size]? = some o := heap_alloc_new W o

theorem readings_at (g : Nat) (mb own : Int) (w : World) :
    Calls Tryd.prog 67 #[.pointer (some ⟨g, 0, none⟩), .int .u16 mb, .int .i64 own] w fun e w' => ∃ B1 B2 B3, e = .returned (.func (.func 97) #[] #[.pointer (some ⟨B1, 0, none⟩), .pointer (some ⟨B2, 0, none⟩), .pointer (some ⟨B3, 0, none⟩)]) ∧
      Below w.heap.size w w' ∧ (w.heap.size ≤ B1 ∧ B1 < w'.heap.size) ∧ (w.heap.size ≤ B2 ∧ B2 < w'.heap.size) ∧ (w.heap.size ≤ B3 ∧ B3 < w'.heap.size) ∧ w'.cell? ⟨B1, 0, none⟩ = some (.pointer (some ⟨g, 0, none⟩)) ∧ w'.cell? ⟨B2, 0, none⟩ = some (.int .i64 own) ∧ w'.cell? ⟨B3, 0, none⟩ = some (.int .u16 mb) := by
  go_enter Tryd.func67, Tryd.ntmps67
  go_wp2
  go_ret
  have h1 := calloc_new w (.cells #[.pointer (some ⟨g, 0, none⟩)] 95)
  have z1 : (w.alloc (.cells #[.pointer (some ⟨g, 0, none⟩)] 95)).heap.size = w.heap.size + 1 := by simp
  have b1 := bal w (.cells #[.pointer (some ⟨g, 0, none⟩)] 95)
  generalize w.alloc (.cells #[.pointer (some ⟨g, 0, none⟩)] 95) = w1 at *
  have h2 := calloc_new w1 (.cells #[.int .u16 mb] 105)
  have z2 : (w1.alloc (.cells #[.int .u16 mb] 105)).heap.size = w1.heap.size + 1 := by simp
  have b2 := bal w1 (.cells #[.int .u16 mb] 105)
  generalize w1.alloc (.cells #[.int .u16 mb] 105) = w2 at *
  have h3 := calloc_new w2 (.cells #[.int .i64 own] 3)
  have z3 : (w2.alloc (.cells #[.int .i64 own] 3)).heap.size = w2.heap.size + 1 := by simp
  have b3 := bal w2 (.cells #[.int .i64 own] 3)
  generalize w2.alloc (.cells #[.int .i64 own] 3) = w3 at *
  refine ⟨w.heap.size, w2.heap.size, w1.heap.size, ?_, b1.trans ((b2.mono (by omega)).trans (b3.mono (by omega))), by omega, by omega, by omega, ?_, ?_, ?_⟩
  · rw [z2, z1]; rfl
  · rw [cell_row ((b3.block _ (by omega)).trans ((b2.block _ (by omega)).trans h1))]; rfl
  · rw [cell_row h3]; rfl
  · rw [cell_row ((b3.block _ (by omega)).trans h2)]; rfl

theorem iown_block {W : World} {B : Nat} {h : Value} {n : Nat} {xs : List Value} (x : W.ownsRow B 3 1 h n xs) {k : Nat} (hk : h.ownBlock = some k) : k < W.heap.size ∧ B ≤ k ∧ ∃ cur, W.heap[k]? = some (.cells cur 3 (0, 0)) := by
  rcases x.2 with ⟨rfl, _⟩ | ⟨g, cap, cur, rfl, hg, hh, _⟩
  · cases hk
  · simp [Value.ownBlock] at hk
    subst hk
    exact ⟨(Array.getElem?_eq_some_iff.1 hh).1, hg, cur, hh⟩
theorem iown_stands {W W' : World} {B : Nat} {h : Value} {n : Nat} {xs : List Value} (x : W.ownsRow B 3 1 h n xs) (hb : ∀ k, h.ownBlock = some k → W'.heap[k]? = W.heap[k]?) : W'.ownsRow B 3 1 h n xs := by
  refine ⟨x.1, ?_⟩
  rcases x.2 with h1 | ⟨g, cap, cur, rfl, h2, h3, h4⟩
  · exact .inl h1
  · exact .inr ⟨g, cap, cur, rfl, h2, (hb g rfl).trans h3, h4⟩
theorem iown_slice {W : World} {B : Nat} {h : Value} {n : Nat} {xs : List Value} (x : W.ownsRow B 3 1 h n xs) : ∃ A k c, h = .slice A k c := by
  rcases x.2 with ⟨rfl, _⟩ | ⟨g, cap, cur, rfl, _⟩
  · exact ⟨_, _, _, rfl⟩
  · exact ⟨_, _, _, rfl⟩
theorem cell_one_new (W : World) (u : Value) (t : TypeId) : ∀ (j : Nat) (y : Value), [u][j]? = some y → (W.alloc (.cells #[u] t)).cell? ((⟨W.heap.size, 0, none⟩ : Addr).add j) = some y := by
  intro j y hy
  have hq := heap_alloc_new W (.cells #[u] t)
  rcases j with _ | j
  · injection hy with hy; subst hy
    rw [show (⟨W.heap.size, 0, none⟩ : Addr).add 0 = ⟨W.heap.size, 0, none⟩ by unfold Addr.add; split <;> simp_all, cell_row hq]; rfl
  · simp at hy

theorem cbelow_put {B D : Nat} {w W : World} (h : Below B w W) (hD : B ≤ D) (hL : D < W.heap.size) (o : Obj) : Below B w (W.putObj D o) :=
  h.trans ((Below.refl B W).grown (grownBy_putObj' W D o) (by omega) (fun k e => by cases e; omega))
/-- what holds while readings are collected -/
structure RdI (w w1 : World) (rec : Loop) (xs : List Int) (W : World) : Prop where
  lp : W.heap[w1.heap.size + 1]? = some (.loop rec)
  df : W.heap[w1.heap.size]? = some (.deferred (some []))
  bel : Below w.heap.size w W
  siz : w1.heap.size + 2 ≤ W.heap.size
  pre : ∀ j, j < w1.heap.size → j ≠ w.heap.size → W.heap[j]? = w1.heap[j]?
  row : ∃ h' : Value, W.heap[w.heap.size]? = some (.cells #[h'] 22 (0, 0)) ∧ W.ownsRow (w1.heap.size + 2) 3 1 h' xs.length (xs.map (.int .i64))
theorem RdI.later {w w1 : World} {rec : Loop} {xs : List Int} {W W' : World} (I : RdI w w1 rec xs W) (hw : w.heap.size < w1.heap.size) (hb : Below W.heap.size W W') : RdI w w1 rec xs W' := by
  have hs := I.siz
  obtain ⟨h', h1, h2⟩ := I.row
  exact ⟨(hb.block _ (by omega)).trans I.lp, (hb.block _ (by omega)).trans I.df, I.bel.trans (hb.mono I.bel.size), Nat.le_trans hs hb.size, fun j hj hn => (hb.block _ (by omega)).trans (I.pre j hj hn), h', (hb.block _ (by omega)).trans h1,
    iown_stands h2 fun k hk => hb.block k (iown_block h2 hk).1⟩
theorem map_snoc (xs : List Int) (v : Int) : xs.map (Value.int .i64) ++ [.int .i64 v] = (xs ++ [v]).map (Value.int .i64) := by simp

theorem info_int3 : (Tryd.prog.info? 3).map (fun i => (i.zero, i.size, i.bytes)) = some (some (.int .i64 0), 1, 8) := by kernel_rfl

theorem fm_range (f : Nat → Option Int) (n : Nat) : (List.range (n + 1)).filterMap f = (List.range n).filterMap f ++ (f n).toList := by
  rw [List.range_succ, List.filterMap_append]
  cases h : f n <;> simp [h]
theorem fm_range_len (f : Nat → Option Int) (n : Nat) : ((List.range n).filterMap f).length ≤ n := by
  have := List.length_filterMap_le f (List.range n)
  simpa using this

set_option maxRecDepth 100000 in
set_option maxHeartbeats 1000000 in
theorem average_at {g N : Nat} {k : Ck} {w : World} (x : CkAt w g k) (mb own : Int) (hN : k.nodes = N) (hN16 : N ≤ 16) (hmb : 0 ≤ mb ∧ mb < 65536) (hr : ∀ z ∈ readsF k mb own, -2305843009213693952 ≤ z ∧ z ≤ 2305843009213693952) :
    Calls Tryd.prog 35 #[.pointer (some ⟨g, 0, none⟩), .int .u16 mb, .int .i64 own] w fun e w' => e = .returned (.tuple #[.int .i64 (avg (readsF k mb own)), .bool (decide (0 < (readsF k mb own).length))]) ∧ Below w.heap.size w w' := by
  have hmade := cmade_at g w (x.cell 0 _ rfl)
  have hi3 := info_int3
  rcases hi : Tryd.prog.info? 3 with _ | i
  · rw [hi] at hi3; cases hi3
  rw [hi] at hi3
  simp only [Option.map_some, Option.some.injEq, Prod.mk.injEq] at hi3
  obtain ⟨hiz, his, hib⟩ := hi3
  have HI := hide hi; have HIZ := hide hiz; have HIS := hide his; have HIB := hide hib
  clear hi hiz his hib
  refine calls_of_wp_marks Tryd.func35 rfl ?_
  simp only [Tryd.ntmps35, List.size_toArray, List.length_cons, List.length_nil, Nat.reduceAdd, Nat.reduceSub, Array.replicate_succ, Array.replicate_zero, List.push_toArray, List.append_toArray, List.nil_append, List.cons_append]
  go_wp2_with fail
  refine hmade.mono ?_
  rintro e w' ⟨rfl, rfl⟩
  clear hmade
  go_wp2_with fail
  have hb1 := bal w (.cells #[.slice none 0 0] 22)
  have hr1 := heap_alloc_new w (.cells #[.slice none 0 0] 22)
  have hz1 : (w.alloc (.cells #[.slice none 0 0] 22)).heap.size = w.heap.size + 1 := by simp
  generalize w.alloc (.cells #[.slice none 0 0] 22) = wA at hb1 hr1 hz1 ⊢
  refine (readings_at g mb own wA).mono ?_
  rintro e w1 ⟨B1, B2, B3, rfl, hb2, l1, l2, l3, c1, c2, c3⟩
  go_wp2_with fail
  have hzA : w.heap.size < w1.heap.size := by have := hb2.size; omega
  have hbw1 : Below w.heap.size w w1 := hb1.trans (hb2.mono (by omega))
  have hv1 : w1.heap[w.heap.size]? = some (.cells #[.slice none 0 0] 22 (0, 0)) := (hb2.block _ (by omega)).trans hr1
  have x1 : CkAt w1 g k := x.below hbw1
  have hg := x.lt
  refine wp_range2 (g := .tmp 16) rfl (enters_of Tryd.func97 (by kernel_rfl) rfl) ?_
  rintro W0 rec hl hD hb0 hz0 hst hpe htm hps has hbo
  have I0 : RdI w w1 rec [] W0 := ⟨hl, hD, hbw1.trans (hb0.mono (by omega)), hz0, fun j hj _ => hb0.block j hj, .slice none 0 0, (hb0.block _ hzA).trans hv1, ⟨rfl, .inl ⟨rfl, rfl⟩⟩⟩
  refine reads1_all (g := g) (own := own) hN hN16 hmb 1 (w1.heap.size + 1) B1 B2 B3 W0 _ (fun n W => RdI w w1 rec ((List.range n).filterMap (valF k mb own)) W) (fun W' hb => I0.later hzA hb) ?hI ?hK ?hY ?hR
  case hI =>
    intro n W' I
    refine ⟨x.below I.bel, ?_, ?_, ?_⟩
    · rw [← c1]; simp only [World.cell?]; rw [I.pre B1 (by omega) (by omega)]
    · rw [← c2]; simp only [World.cell?]; rw [I.pre B2 (by omega) (by omega)]
    · rw [← c3]; simp only [World.cell?]; rw [I.pre B3 (by omega) (by omega)]
  case hK =>
    intro n W1 W2 hn hv I hb
    rw [fm_range, hv]
    simpa using I.later hzA hb
  case hY =>
    intro n v W1 W2 hn hv I hb
    have I2 := I.later hzA hb
    rw [fm_range, hv]
    have hlen : ((List.range n).filterMap (valF k mb own)).length ≤ 1000 := by have := fm_range_len (valF k mb own) n; omega
    show YieldAt _ _ _ _ _ _ fun e W' => e = .returned (.bool true) ∧ RdI w w1 rec ((List.range n).filterMap (valF k mb own) ++ [v]) W'
    generalize (List.range n).filterMap (valF k mb own) = xs at I2 hlen ⊢
    clear I hb c1 c2 c3 l1 l2 l3 x x1 hv1 hbw1 hb0 hb1 hb2 hr1 hz1 I0 hl hD hr hmb hv hn
    obtain ⟨h', hsb, hown⟩ := I2.row
    have hzs := I2.siz
    refine yield_at I2.lp (by rw [hps]; rfl) ?_
    rw [has, hps, htm]
    have HI2 := hide I2; have HOW := hide hown; have HST := hide hst; have HPE := hide hpe; have HBO := hide hbo; have HSB := hide hsb
    clear I2 hst hpe hbo htm hps has hown hsb
    gi_wp2
    refine ⟨rec, HI2.out.lp, HST.out, ?_⟩
    have hput : ∀ j, j ≠ w1.heap.size + 1 → (W2.putObj (w1.heap.size + 1) (.loop { rec with state := .busy })).heap[j]? = W2.heap[j]? := fun j h1 => World.putObj_heap_other h1
    have HL3 := hide (World.putObj_heap_same (w := W2) (r := w1.heap.size + 1) (o := .loop { rec with state := .busy }) (by omega))
    have hne : ∀ j, h'.ownBlock = some j → j ≠ w1.heap.size + 1 := fun j hj => by have := (iown_block HOW.out hj).2.1; omega
    have HOW3 := hide (iown_stands HOW.out (W' := W2.putObj (w1.heap.size + 1) (.loop { rec with state := .busy })) fun j hj => hput j (hne j hj))
    have HSB3 := hide ((hput w.heap.size (by omega)).trans HSB.out)
    have HBW3 := hide (cbelow_put (D := w1.heap.size + 1) HI2.out.bel (by omega) (by omega) (.loop { rec with state := .busy }))
    have HPRE3 := hide (show ∀ j, j < w1.heap.size + 1 → (W2.putObj (w1.heap.size + 1) (.loop { rec with state := .busy })).heap[j]? = W2.heap[j]? from fun j hj => hput j (by omega))
    have hz3 : w1.heap.size + 2 ≤ (W2.putObj (w1.heap.size + 1) (.loop { rec with state := .busy })).heap.size := by simp; omega
    clear hput hne
    generalize W2.putObj (w1.heap.size + 1) (.loop { rec with state := .busy }) = W3 at *
    have cs : W3.cell? ⟨w.heap.size, 0, none⟩ = some h' := by rw [cell_row HSB3.out]; rfl
    rw [HBO.out]
    clear HBO HSB HOW
    gi_wp2_with (first
      | (gi_at_builtin
         refine wpListIn_append_own _ rfl _ _ 22 rfl (w1.heap.size + 2) 3 i (.int .i64 0) 1 8 Tryd.underlying22 HI.out HIZ.out HIS.out HIB.out rfl (by decide) h' xs.length (xs.map (.int .i64)) rfl (HOW3.out.alloc _) ⟨W3.heap.size, 0, none⟩ 1 1 [.int .i64 v] rfl rfl (cell_one_new _ _ _) (by simp [Value.oneCell']) (by simp only [maxLen]; omega) (by omega) (by simp; omega) ?_
         intro v' w4 hown4 hgr4 _
         obtain ⟨A4, k4, c4, rfl⟩ := iown_slice hown4
         have hsb4 := (hgr4.block w.heap.size (by simp; omega) (by
           intro e
           obtain ⟨_, h2, cur, h3⟩ := iown_block HOW3.out e.symm
           omega)).trans ((heap_alloc_old W3 _ (by omega)).trans HSB3.out)
         have cs4 : w4.cell? ⟨w.heap.size, 0, none⟩ = some h' := by rw [cell_row hsb4]; rfl
         have fs4 : w4.frozen? ⟨w.heap.size, 0, none⟩ = false := by unfold World.frozen?; rw [hsb4]; rfl
         have HOWN4 := hide hown4; have HGR4 := hide hgr4; have HSB4 := hide hsb4
         clear hown4 hgr4 hsb4))
    have hrec : ({ { rec with state := .busy } with state := .ready, pending := none } : Loop) = rec := by
      have h1 := HST.out; have h2 := HPE.out
      cases rec
      simp only at h1 h2
      subst h1 h2
      rfl
    have key : ∀ j, j < w1.heap.size + 2 → j ≠ w.heap.size → (w4.setCell ⟨w.heap.size, 0, none⟩ (.slice A4 k4 c4)).heap[j]? = W3.heap[j]? := by
      intro j hj hn
      rw [set_other hn, HGR4.out.block j (by simp; omega) (fun e => by have := (iown_block HOW3.out e.symm).2.1; omega), heap_alloc_old W3 _ (by omega)]
    have hz4 := HGR4.out.size
    simp only [World.size_alloc] at hz4
    have hz5 : w1.heap.size + 2 ≤ (w4.setCell ⟨w.heap.size, 0, none⟩ (.slice A4 k4 c4)).heap.size := by rw [set_size]; omega
    refine ⟨none, { rec with state := .busy }, rfl, (key _ (by omega) (by omega)).trans HL3.out, rfl, ?_⟩
    simp only [Option.isNone_none, if_true]
    rw [hrec]
    refine ⟨World.putObj_heap_same (by omega), (World.putObj_heap_other (by omega)).trans ((key _ (by omega) (by omega)).trans ((HPRE3.out _ (by omega)).trans HI2.out.df)), cbelow_put (((HBW3.out.alloc (by omega) _).trans ((Below.refl _ _).grown HGR4.out (by simp; omega) (fun j hj => by have := (iown_block HOW3.out hj).2.1; omega))).setCell (p := ⟨w.heap.size, 0, none⟩) (Nat.le_refl _) _) (by omega) (by omega) _, by simp; omega, fun j hj hn => ?_, .slice A4 k4 c4, ?_, ?_⟩
    · rw [World.putObj_heap_other (by omega), key j (by omega) hn, HPRE3.out j (by omega)]
      exact HI2.out.pre j hj hn
    · rw [World.putObj_heap_other (by omega), set_row HSB4.out]
      rfl
    · have h9 : w4.ownsRow (w1.heap.size + 2) 3 1 (.slice A4 k4 c4) (xs ++ [v]).length ((xs ++ [v]).map (.int .i64)) := by simpa using HOWN4.out
      refine iown_stands h9 fun j hj => ?_
      have := (iown_block h9 hj).2.1
      rw [World.putObj_heap_other (by omega), set_other (by omega)]
  case hR =>
    intro W' v I
    obtain ⟨h', hsb, hown⟩ := I.row
    refine ⟨⟨v, rfl⟩, rec, I.lp, by rw [hst]; simp, ?_⟩
    rw [hpe]
    simp only []
    have hzw := I.siz
    have HRF : Hid ((List.range N).filterMap (valF k mb own) = readsF k mb own) := by show _ = _; unfold readsF; rw [hN]; rfl
    rw [HRF.out] at hown
    have hln : (readsF k mb own).length ≤ 16 := by rw [← HRF.out]; exact Nat.le_trans (fm_range_len _ _) hN16
    have hother : ∀ j, j ≠ w1.heap.size + 1 → (W'.putObj (w1.heap.size + 1) (.loop { state := .exhausted, pending := none, fn := rec.fn, tmps := rec.tmps, params := rec.params, assign := rec.assign, body := rec.body, defers := rec.defers })).heap[j]? = W'.heap[j]? := fun j hj => World.putObj_heap_other hj
    have HD4 := hide ((hother w1.heap.size (by omega)).trans I.df)
    have hsb4 := (hother w.heap.size (by omega)).trans hsb
    have HB4 := hide (cbelow_put (D := w1.heap.size + 1) I.bel (by omega) (by omega) (.loop { state := .exhausted, pending := none, fn := rec.fn, tmps := rec.tmps, params := rec.params, assign := rec.assign, body := rec.body, defers := rec.defers }))
    have HOW4 := hide (iown_stands hown (W' := W'.putObj (w1.heap.size + 1) (.loop { state := .exhausted, pending := none, fn := rec.fn, tmps := rec.tmps, params := rec.params, assign := rec.assign, body := rec.body, defers := rec.defers })) fun j hj => hother j (by have := (iown_block hown hj).2.1; omega))
    have hz4 : w1.heap.size + 2 ≤ (W'.putObj (w1.heap.size + 1) (.loop { state := .exhausted, pending := none, fn := rec.fn, tmps := rec.tmps, params := rec.params, assign := rec.assign, body := rec.body, defers := rec.defers })).heap.size := by simp; omega
    clear hother hsb hown I
    generalize W'.putObj (w1.heap.size + 1) (.loop { state := .exhausted, pending := none, fn := rec.fn, tmps := rec.tmps, params := rec.params, assign := rec.assign, body := rec.body, defers := rec.defers }) = W4 at *
    have cs : W4.cell? ⟨w.heap.size, 0, none⟩ = some h' := by rw [cell_row hsb4]; rfl
    have HA : Hid (Calls Tryd.prog 68 #[h'] W4 fun e w' => e = .returned (.tuple #[.int .i64 (avg (readsF k mb own)), .bool (decide (0 < (readsF k mb own).length))]) ∧ Below (w1.heap.size + 2) W4 w') := by
      show Calls _ _ _ _ _
      rcases HOW4.out.2 with ⟨rfl, h0⟩ | ⟨gB, cap, cur, rfl, hgB, hh, hnc, hcm, hcs, htk⟩
      · have hnil : readsF k mb own = [] := List.length_eq_zero_iff.1 h0
        rw [hnil]
        refine (average_none _ _ W4).mono ?_
        rintro e w' ⟨rfl, rfl⟩
        exact ⟨rfl, Below.refl _ _⟩
      · by_cases h0 : 0 < (readsF k mb own).length
        · refine (average_some (readsF k mb own) gB cap cur W4 hh (by simpa using htk) h0 (by omega) hnc hcm hr).mono ?_
          rintro e w' ⟨rfl, hb⟩
          exact ⟨by rw [decide_eq_true h0], hb.mono hgB⟩
        · have hnil : readsF k mb own = [] := List.length_eq_zero_iff.1 (by omega)
          rw [hnil]
          refine (average_none _ _ W4).mono ?_
          rintro e w' ⟨rfl, rfl⟩
          exact ⟨rfl, Below.refl _ _⟩
    clear hsb4 HOW4 hr HRF hln x x1 c1 c2 c3 l1 l2 l3 hmb hb1 hb2 hr1 hz1 hv1 hb0 hl hD I0 hst hpe htm hps has hbo
    obtain ⟨va, hva⟩ : ∃ va, avg (readsF k mb own) = va := ⟨_, rfl⟩
    obtain ⟨vb, hvb⟩ : ∃ vb, decide (0 < (readsF k mb own).length) = vb := ⟨_, rfl⟩
    rw [hva, hvb] at HA
    have HVA := hide hva; have HVB := hide hvb
    clear hva hvb
    go_wp2_with (go_at_call 68; refine HA.out.mono ?_; rintro e w5 ⟨rfl, hb5⟩; have HD5 := hide ((hb5.block _ (by omega)).trans HD4.out); have HB5 := hide (HB4.out.trans (hb5.mono (by omega))); clear hb5)
    refine leaves_marked [w1.heap.size] _ (by intro D hD; rw [List.mem_singleton.1 hD]; exact HD5.out) (by simp) ?_
    intro W6 o1 o2 o3 o4 o5
    refine ⟨.tuple #[.int .i64 va, .bool vb], ?_, by rw [HVA.out, HVB.out], ?_⟩
    · simp [results, Tryd.results35, go_sem]
    · refine HB5.out.trans ⟨o1, o2, o3, Nat.le_of_eq o4.symm, fun j hj => o5 j ?_⟩
      simp
      omega
end Go.Proofs.YtdfpeilflinmhaaDoor
