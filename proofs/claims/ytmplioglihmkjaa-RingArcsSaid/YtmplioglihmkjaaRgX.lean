/-
  The places that are taken, the program's own.
-/
import Derived.Test.YtmplioglihmkjaaRgW
import Derived.Laws.MakeOwn
namespace Go.Proofs.Ytmplioglihmkjaa
open Go.RowKit Go.Shelf
attribute [local go_sem] Oper.semAt_some
set_option linter.unusedVariables false
set_option linter.unusedSimpArgs false
set_option maxRecDepth 100000

theorem okS_of {n : Nat} (hn : n ≤ 1000) {a : Ai} (h : okB n a = true) : okS a := by
  have hp : 0 ≤ a.1 ∧ a.1 < (n : Int) ∧ 0 ≤ a.2 ∧ a.2 ≤ (n : Int) := of_decide_eq_true h
  unfold okS; omega

theorem make_brow (n : Nat) (hn : n ≤ 1048576) (W : World) : (Instr.makeSlice 65 (.int .i64 (n : Int)) (.int .i64 (n : Int))).run Try.prog W = .ok (.slice (some ⟨W.heap.size, 0, none⟩) n n) (W.alloc (.cells (brow (fun _ => false) n) 4)) := by
  have hi3 : (Try.prog.info? 4).map (fun i => (i.zero, i.size, i.bytes)) = some (some (.bool false), 1, 1) := by kernel_rfl
  rcases hi : Try.prog.info? 4 with _ | i
  · rw [hi] at hi3; cases hi3
  rw [hi] at hi3
  simp only [Option.map_some, Option.some.injEq, Prod.mk.injEq] at hi3
  obtain ⟨hz, hs2, hb⟩ := hi3
  have hm := run_make (P := Try.prog) W 65 4 i (.bool false) Try.underlying65 hi hz .i64 .i64 (n : Int) (n : Int) (by omega) (by omega) (by rw [hb]; omega) (by omega)
  rw [hm]
  have e : madeCells (Value.bool false).cells n = brow (fun _ => false) n := by
    apply Array.ext_getElem?
    intro j
    by_cases hj : j < n
    · rw [brow_get hj]; simp [madeCells, Value.cells, hj, Nat.mod_one]
    · have h2 : (brow (fun _ => false) n)[j]? = none := Array.getElem?_eq_none (by rw [brow_size]; omega)
      rw [h2]; simp [madeCells, hj]
  simp [hs2, e]

/-- what stands while arcs are laid: the row of places, and its slice in a cell -/
structure TS (w2 W : World) (g n : Nat) (t : Nat → Bool) : Prop where
  bel : Below g w2 W
  row : W.heap[g]? = some (.cells (brow t n) 4 (0, 0))
  box : W.heap[g + 1]? = some (.cells #[.slice (some ⟨g, 0, none⟩) n n] 65 (0, 0))
theorem TS.on {w2 W W' : World} {g n : Nat} {t : Nat → Bool} (h : TS w2 W g n t) (hb : Below W.heap.size W W') (hg : g ≤ W.heap.size) : TS w2 W' g n t :=
  ⟨h.bel.trans (hb.mono hg), (hb.block _ (Array.getElem?_eq_some_iff.1 h.row).1).trans h.row, (hb.block _ (Array.getElem?_eq_some_iff.1 h.box).1).trans h.box⟩
theorem TS.from {w2 A B : World} {g n : Nat} {t : Nat → Bool} {C : Nat} {row : Option Nat} (hs : TS w2 A g n t) (hg : A.grownBy B row) (hr : ∀ r, row = some r → C ≤ r ∧ ∃ o : Obj, A.heap[r]? = some o ∧ o.isCells = false) (hC : g ≤ C) (hA : g ≤ A.heap.size) : TS w2 B g n t :=
  ⟨hs.bel.grown hg hA fun k hk => by have := (hr k hk).1; omega, row_kept hs.row hg hr, row_kept hs.box hg hr⟩
theorem TS.set {w2 W : World} {g n : Nat} {t : Nat → Bool} (h : TS w2 W g n t) {x : Nat} (hx : x < n) : TS w2 (W.setCell ⟨g, x, none⟩ (.bool true)) g n (fun q => t q || decide (q = x)) := by
  refine ⟨h.bel.setCell (p := ⟨g, x, none⟩) (Nat.le_refl _) _, ?_, ?_⟩
  · rw [set_cells h.row, brow_set hx]
  · rw [setCell_other (by omega)]; exact h.box
theorem TS.congr {w2 W : World} {g n : Nat} {t u : Nat → Bool} (h : TS w2 W g n t) (e : ∀ p, p < n → t p = u p) : TS w2 W g n u := ⟨h.bel, by rw [← brow_congr e]; exact h.row, h.box⟩
theorem TS.lt {w2 W : World} {g n : Nat} {t : Nat → Bool} (h : TS w2 W g n t) : g + 1 < W.heap.size := (Array.getElem?_eq_some_iff.1 h.box).1
def hasP {n : Nat} (pre : List (PE n)) (q : Nat) : Bool := pre.any fun x => decide (x.1 = q)
theorem hasP_snoc {n : Nat} (pre : List (PE n)) (x : PE n) (q : Nat) : hasP (pre ++ [x]) q = (hasP pre q || decide (q = x.1)) := by
  unfold hasP
  rw [List.any_append, List.any_cons, List.any_nil, Bool.or_false]
  congr 1
  rw [Bool.eq_iff_iff, decide_eq_true_iff, decide_eq_true_iff]
  exact eq_comm
theorem hasP_pl {n : Nat} {hn : 0 < n} {f m q : Nat} : hasP (plL n hn f m) q = decide (∃ j, j < m ∧ q = (f + j) % n) := by
  unfold hasP plL
  rw [Bool.eq_iff_iff, List.any_eq_true, decide_eq_true_iff]
  constructor
  · rintro ⟨x, hx, h⟩
    obtain ⟨j, hj, rfl⟩ := List.mem_map.1 hx
    exact ⟨j, by simpa using hj, (of_decide_eq_true h).symm⟩
  · rintro ⟨j, hj, rfl⟩
    exact ⟨_, List.mem_map.2 ⟨j, by simpa using hj, rfl⟩, decide_eq_true rfl⟩
structure TI (w w2 : World) (g n : Nat) (t : Nat → Bool) (Ds : List Nat) (bN : Nat) (pre : List (PE n)) (W : World) : Prop where
  ts : TS w2 W g n (fun q => t q || hasP pre q)
  mks : Mk (g + 2) W Ds
  sz : bN < W.heap.size
theorem TI.from {w w2 A B : World} {g n : Nat} {t : Nat → Bool} {Ds : List Nat} {bN : Nat} {pre : List (PE n)} {C : Nat} {row : Option Nat} (hs : TI w w2 g n t Ds bN pre A) (hg : A.grownBy B row) (hr : ∀ r, row = some r → C ≤ r ∧ ∃ o : Obj, A.heap[r]? = some o ∧ o.isCells = false) (hC : g ≤ C) (hD : ∀ D ∈ Ds, D < C) : TI w w2 g n t Ds bN pre B :=
  ⟨hs.ts.from hg hr hC (by have := hs.ts.lt; omega), hs.mks.grown hD hg fun r e => (hr r e).1, Nat.lt_of_lt_of_le hs.sz hg.size⟩
theorem map_take_snoc {l : List Ai} {k : Nat} (h : k < l.length) : (l.map tA).take (k + 1) = (l.map tA).take k ++ [tA (l.getD k (0, 0))] := by
  rw [← List.map_take, take_snoc l (0, 0) k h, List.map_append, List.map_take]; rfl
theorem pw_take {l : List Ai} (hp : l.Pairwise fun a b => a.1 ≤ b.1) {k : Nat} (hk : k < l.length) : ∀ b ∈ (l.map tA).take k, b.1 ≤ (tA (l.getD k (0, 0))).1 := by
  intro b hb
  rw [← List.map_take] at hb
  obtain ⟨a, ha, rfl⟩ := List.mem_map.1 hb
  obtain ⟨i, hi, rfl⟩ := List.mem_take_iff_getElem.1 ha
  have := List.pairwise_iff_getElem.1 hp i k (by omega) hk (by omega)
  rw [List.getD_eq_getElem?_getD, List.getElem?_eq_getElem hk]
  unfold tA
  show l[i].1.toNat ≤ l[k].1.toNat
  omega
theorem ok_take {n : Nat} {l : List Ai} (h : ∀ a ∈ l, okB n a = true) {k : Nat} : ∀ b ∈ (l.map tA).take k, okA n b := by
  intro b hb
  obtain ⟨a, ha, rfl⟩ := List.mem_map.1 (List.mem_of_mem_take hb)
  exact (okB_t (h a ha)).1

set_option maxHeartbeats 8000000 in
theorem taken_at (l : List Ai) (A : Option Addr) (c n : Nat) (w : World) (hI : Arcs w A l) (hA : ∀ a, A = some a → a.spot = none) (hok : ∀ a ∈ l, okB n a = true) (hn : 0 < n) (hn2 : n ≤ 1000) (hlen : l.length ≤ 1000) :
    Calls Try.prog 40 #[.slice A l.length c, .int .i64 (n : Nat)] w fun e w' => ∃ g, e = .returned (.slice (some ⟨g, 0, none⟩) n n) ∧ w.heap.size ≤ g ∧ w'.heap[g]? = some (.cells (brow (tk n (l.map tA)) n) 4 (0, 0)) ∧ Below w.heap.size w w' := by
  have HCl := hide (clone_at l A c w hI hlen hA)
  have HSo := hide (fun v W hO hB => sort_at l (fun a ha => okS_of hn2 (hok a ha)) hI.1 v w.heap.size W hO hB hlen)
  obtain ⟨N, hN⟩ : ∃ N, N = l.length := ⟨_, rfl⟩
  have HN := hide hN
  have HOk := hide hok
  rw [← hN] at HCl hlen ⊢
  clear hI hok hN
  refine calls_of_wp_marks Try.func40 rfl ?_
  simp only [Try.ntmps40, List.size_toArray, List.length_cons, List.length_nil, Nat.reduceAdd, Nat.reduceSub, Array.replicate_succ, Array.replicate_zero, List.push_toArray, List.append_toArray, List.nil_append, List.cons_append]
  go_wp2_with fail
  refine HCl.out.mono ?_
  rintro e w1 ⟨v, rfl, hO, hb1⟩
  have HS := hide (HSo.out v w1 hO hb1.size)
  have HB1 := hide hb1
  clear hO hb1 HCl HSo
  go_wp2_with fail
  refine HS.out.mono ?_
  rintro e w2 ⟨rfl, l', A', c', rfl, hmem, hpw, hlen', hAr, hb2⟩
  have HB2 := hide (HB1.out.trans hb2)
  have HAr := hide hAr
  have HPw := hide hpw
  have hNl : l'.length = N := by rw [hlen', HN.out]
  rw [hNl]
  have HNl := hide hNl
  have HOk' := hide (show ∀ a ∈ l', okB n a = true from fun a ha => HOk.out a ((hmem a).1 ha))
  have HEnd := hide (show ∀ p, tk n (l'.map tA) p = tk n (l.map tA) p from fun p => tk_perm (fun a => by
    rw [List.mem_map, List.mem_map]
    exact ⟨fun ⟨b, h1, h2⟩ => ⟨b, (hmem b).1 h1, h2⟩, fun ⟨b, h1, h2⟩ => ⟨b, (hmem b).2 h1, h2⟩⟩) p)
  clear hmem hpw hlen' hAr hb2 HS HB1 hNl HOk
  have hmk := make_brow n (by omega) w2
  go_wp2_with fail
  have hT : TS w2 ((w2.alloc (.cells (brow (fun _ => false) n) 4)).alloc (.cells #[.slice (some ⟨w2.heap.size, 0, none⟩) n n] 65)) w2.heap.size n (fun _ => false) :=
    ⟨(bal w2 _).alloc (by simp) _, heap_alloc2_old w2 _ _, heap_alloc2_new w2 _ _⟩
  have hgw := HB2.out.size
  generalize (w2.alloc (.cells (brow (fun _ => false) n) 4)).alloc (.cells #[.slice (some ⟨w2.heap.size, 0, none⟩) n n] 65) = W0 at hT ⊢
  obtain ⟨g, hg⟩ : ∃ g, g = w2.heap.size := ⟨_, rfl⟩
  rw [← hg] at hT hgw ⊢
  have HGw := hide hg
  clear hmk hg
  obtain ⟨L, hL⟩ : ∃ L, L = l'.map tA := ⟨_, rfl⟩
  have HL := hide hL
  have HT := hide hT
  clear hL hT
  refine wp_loop (fun a W => ∃ (k : Nat) (Ds : List Nat) (u9 u10 u11 u12 u22 u23 u24 u25 u26 u27 u28 u29 u30 u31 u32 u33 u34 u35 u36 u37 u38 u39 u40 u41 u42 u43 u44 u45 u46 u47 u48 u49 u50 : Value), k ≤ N ∧ a = { tmps := #[.slice A N c, .int .i64 (n : Nat), undef, undef, .slice none 0 0, .slice A' N c', .pointer (some ⟨g + 1, 0, none⟩), .int .i64 (endF (L.take k) : Nat), undef, u9, u10, u11, u12, .slice A N c, .slice A' N c', .slice A' N c', .tuple #[], .int .i64 (n : Nat), .slice (some ⟨g, 0, none⟩) n n, .slice A' N c', .int .i64 (N : Nat), .int .i64 (k : Nat), u22, u23, u24, u25, u26, u27, u28, u29, u30, u31, u32, u33, u34, u35, u36, u37, u38, u39, u40, u41, u42, u43, u44, u45, u46, u47, u48, u49, u50, undef], defers := marked Ds } ∧ TS w2 W g n (tk n (L.take k)) ∧ Mk (g + 2) W Ds) (fun a _ => N - (intOf (a.tmps.getD 21 undef)).toNat) ⟨0, [], undef, undef, undef, undef, undef, undef, undef, undef, undef, undef, undef, undef, undef, undef, undef, undef, undef, undef, undef, undef, undef, undef, undef, undef, undef, undef, undef, undef, undef, undef, undef, undef, undef, by omega, rfl, HT.out.congr (fun p _ => by simp [tk]), Mk.nil _ _⟩ ?_
  rintro a wr ⟨k, Ds, u9, u10, u11, u12, u22, u23, u24, u25, u26, u27, u28, u29, u30, u31, u32, u33, u34, u35, u36, u37, u38, u39, u40, u41, u42, u43, u44, u45, u46, u47, u48, u49, u50, hk, rfl, hTS, hM⟩
  have HTs := hide hTS
  have HM := hide hM
  have hgr := hTS.lt
  by_cases hlt : k < N
  · have hkl : k < l'.length := by rw [HNl.out]; exact hlt
    obtain ⟨b, off, rfl, hbl, c0, c1⟩ := HAr.out.at hkl
    have hbg : b < wr.heap.size := by rw [← HGw.out] at hbl; omega
    have c0' := cell_below hTS.bel (by rw [HGw.out]; exact Nat.le_refl _) hbl c0
    have c1' := cell_below hTS.bel (by rw [HGw.out]; exact Nat.le_refl _) hbl c1
    obtain ⟨⟨hF, hG⟩, e1⟩ := okB_t (HOk'.out _ (mem_at hkl))
    have HSnoc := hide (show L.take (k + 1) = L.take k ++ [tA (l'.getD k (0, 0))] from by rw [HL.out]; exact map_take_snoc hkl)
    have HNext := hide (show ∀ p, p < n → tk n (L.take k ++ [tA (l'.getD k (0, 0))]) p = (tk n (L.take k) p || decide (∃ j, j < (tA (l'.getD k (0, 0))).1 + (tA (l'.getD k (0, 0))).2 - max (tA (l'.getD k (0, 0))).1 (endF (L.take k)) ∧ p = (max (tA (l'.getD k (0, 0))).1 (endF (L.take k)) + j) % n)) from fun p hp => by
      rw [HL.out]
      exact tk_next (ok_take HOk'.out) ⟨hF, hG⟩ (pw_take HPw.out hkl) hp)
    have hE : endF (L.take k) ≤ 2 * n := by rw [HL.out]; exact endF_le (ok_take HOk'.out)
    have HEs := hide (show endF (L.take (k + 1)) = max (endF (L.take k)) ((tA (l'.getD k (0, 0))).1 + (tA (l'.getD k (0, 0))).2) from by rw [HSnoc.out, endF_snoc])
    rw [e1] at c0' c1'
    dsimp only at c0' c1'
    generalize tA (l'.getD k (0, 0)) = ar at *
    obtain ⟨F, G⟩ := ar
    dsimp only at *
    generalize hEe : endF (L.take k) = E at *
    have HEe := hide hEe
    obtain ⟨M, hMd⟩ : ∃ M, M = max F E := ⟨_, rfl⟩
    obtain ⟨M2, hMd2⟩ : ∃ M2, M2 = max E (F + G) := ⟨_, rfl⟩
    rw [← hMd] at HNext
    rw [← hMd2] at HEs
    have hM1 : M ≤ 2 * n := by omega
    have hmx1 : ∀ (ts : Array TypeId) (ty : TypeId) (W : World), (Builtin.max_ ts ty #[.int .i64 (F : Nat), .int .i64 (E : Nat)]).run Try.prog W = .ok (.int .i64 (M : Nat)) W := fun ts ty W => by
      rw [run_max_int2]
      have : (if (E : Int) > (F : Int) then (E : Int) else (F : Int)) = (M : Int) := by split <;> omega
      rw [this]
    have hmx2 : ∀ (ts : Array TypeId) (ty : TypeId) (W : World), (Builtin.max_ ts ty #[.int .i64 (E : Nat), .int .i64 ((F : Int) + (G : Int))]).run Try.prog W = .ok (.int .i64 (M2 : Nat)) W := fun ts ty W => by
      rw [run_max_int2]
      have : (if (F : Int) + (G : Int) > (E : Int) then (F : Int) + (G : Int) else (E : Int)) = (M2 : Int) := by split <;> omega
      rw [this]
    have HP := hide (fun W => place_at M n (by unfold I64; omega) (by omega) (by omega) W)
    rw [show (M : Int) % (n : Int) = ((M % n : Nat) : Int) from rfl] at HP
    have hfm := Nat.mod_lt M hn
    clear hMd hMd2 hEe c0 c1 e1 hkl hTS hM
    go_wp2_with fail
    have a0 : (wr.alloc (.cells #[.int .i64 (F : Nat), .int .i64 (G : Nat)] 41)).cell? ⟨wr.heap.size, 0, none⟩ = some (.int .i64 (F : Nat)) := by rw [cell_of_row _ _ _ _ _ _ (heap_alloc_new wr _)]; rfl
    have a1 : (wr.alloc (.cells #[.int .i64 (F : Nat), .int .i64 (G : Nat)] 41)).cell? ⟨wr.heap.size, 1, none⟩ = some (.int .i64 (G : Nat)) := by rw [cell_of_row _ _ _ _ _ _ (heap_alloc_new wr _)]; rfl
    have hT1 := HTs.out.on (bal wr (.cells #[.int .i64 (F : Nat), .int .i64 (G : Nat)] 41)) (by omega)
    have hM1' := HM.out.below (bal wr (.cells #[.int .i64 (F : Nat), .int .i64 (G : Nat)] 41))
    have hz1 : wr.heap.size < (wr.alloc (.cells #[.int .i64 (F : Nat), .int .i64 (G : Nat)] 41)).heap.size := by simp
    generalize wr.alloc (.cells #[.int .i64 (F : Nat), .int .i64 (G : Nat)] 41) = wa at *
    generalize wr.heap.size = ab at *
    go_region
    have hT2 : TS w2 wa.drew g n (tk n (L.take k)) := ⟨below_drew hT1.bel, hT1.row, hT1.box⟩
    have hM2' : Mk (g + 2) wa.drew Ds := ⟨hM1'.ds, hM1'.nd⟩
    have hz2 : ab < wa.drew.heap.size := hz1
    clear hT1 hM1' hz1 a0 a1
    generalize wa.drew = wb at *
    have HT2 := hide hT2
    have HM2 := hide hM2'
    clear hT2 hM2' HTs HM
    go_wp2_with fail
    refine (HP.out _).mono ?_
    rintro e w' ⟨rfl, rfl⟩
    go_wp2_with fail
    refine (plmk_at _ _ _ _).mono ?_
    rintro e w' ⟨rfl, rfl⟩
    go_wp2_with fail
    have hbb : Below wb.heap.size wb ((wb.alloc (.cells #[.int .i64 ((M : Int) % (n : Int)), .int .i64 ((F : Int) + (G : Int) - (M : Int))] 41)).alloc (.cells #[.int .i64 (n : Nat)] 3)) := (bal wb _).alloc (by simp) _
    have hT3 := HT2.out.on hbb (by omega)
    have hM3 := HM2.out.below hbb
    have hA : ((wb.alloc (.cells #[.int .i64 ((M : Int) % (n : Int)), .int .i64 ((F : Int) + (G : Int) - (M : Int))] 41)).alloc (.cells #[.int .i64 (n : Nat)] 3)).heap[wb.heap.size]? = some (.cells #[.int .i64 ((M % n : Nat) : Int), .int .i64 ((F : Int) + (G : Int) - (M : Int))] 41 (0, 0)) := heap_alloc2_old wb _ _
    have hN : ((wb.alloc (.cells #[.int .i64 ((M : Int) % (n : Int)), .int .i64 ((F : Int) + (G : Int) - (M : Int))] 41)).alloc (.cells #[.int .i64 (n : Nat)] 3)).heap[wb.heap.size + 1]? = some (.cells #[.int .i64 (n : Nat)] 3 (0, 0)) := heap_alloc2_new wb _ _
    have hsz : wb.heap.size + 2 ≤ ((wb.alloc (.cells #[.int .i64 ((M : Int) % (n : Int)), .int .i64 ((F : Int) + (G : Int) - (M : Int))] 41)).alloc (.cells #[.int .i64 (n : Nat)] 3)).heap.size := by simp
    have hgb := HT2.out.lt
    generalize (wb.alloc (.cells #[.int .i64 ((M : Int) % (n : Int)), .int .i64 ((F : Int) + (G : Int) - (M : Int))] 41)).alloc (.cells #[.int .i64 (n : Nat)] 3) = W3 at *
    generalize wb.heap.size = gb at *
    have HI0 := hide (show TI w w2 g n (tk n (L.take k)) Ds (gb + 1) [] W3 from ⟨hT3.congr fun p _ => by simp [hasP], hM3, by omega⟩)
    have HDs := hide hM3.lt
    clear hT3 hM3 hbb HT2 HM2
    refine' wp_pl gb (gb + 1) n hn (by omega) (M % n) hfm ((F : Int) + (G : Int) - (M : Int)) (by omega) rfl (by omega) (by omega) hA hN rfl
      (fun pre W => TI w w2 g n (tk n (L.take k)) Ds (gb + 1) pre W)
      (fun c pre W => False)
      (fun s A B row hs hg hr => hs.from hg hr (by omega) HDs.out)
      (fun c s A B row hs hg hr => hs)
      HI0.out _ ?assign ?body ?done ?stop
    case assign =>
      intro l x W K hK
      gi_wp2
      exact hK
    case body =>
      rintro lb pre ⟨x, hx⟩ W hTI hlenp
      dsimp only at hx ⊢
      have HTI := hide hTI
      have k0 : W.cell? ⟨g + 1, 0, none⟩ = some (.slice (some ⟨g, 0, none⟩) n n) := by rw [cell_of_row _ _ _ _ _ _ hTI.ts.box]; rfl
      have k1 : W.cell? ⟨g, x, none⟩ = some (.bool (tk n (L.take k) x || hasP pre x)) := by rw [cell_of_row _ _ _ _ _ _ hTI.ts.row, brow_get hx]
      have k2 : W.frozen? ⟨g, x, none⟩ = false := by simp [World.frozen?, hTI.ts.row]
      have hgW : g < W.heap.size := by have := hTI.ts.lt; omega
      have HSt := hide ((hTI.ts.set hx).congr (u := fun q => tk n (L.take k) q || hasP (pre ++ [⟨x, hx⟩]) q) fun q _ => by rw [hasP_snoc, Bool.or_assoc])
      generalize (tk n (L.take k) x || hasP pre x) = old at *
      clear hTI hA hN HI0
      gi_wp2
      refine ⟨KeepsOthers.setCell _ _ _, fun h => ?_, HSt.out, HTI.out.mks.on (KeepsOthers.setCell _ _ _), by simpa using HTI.out.sz⟩
      rw [setCell_other (by omega)]; exact h
    case done =>
      rintro D W hD hTI hK
      have HT3 := hide (hTI.ts.congr (u := tk n (L.take (k + 1))) fun q hq => by
        rw [HSnoc.out, HNext.out q hq, hasP_pl]
        congr 1
        rw [Bool.eq_iff_iff, decide_eq_true_iff, decide_eq_true_iff]
        constructor
        · rintro ⟨j, hj, e⟩; exact ⟨j, by omega, by rw [e, Nat.mod_add_mod]⟩
        · rintro ⟨j, hj, e⟩; exact ⟨j, by omega, by rw [e, Nat.mod_add_mod]⟩)
      have HM3 := hide (hTI.mks.more (D := D) (by omega) hK fun h => by have := HDs.out D h; omega)
      clear hTI hA hN HI0
      go_wp2_with fail
      refine ⟨⟨k + 1, D :: Ds, _, _, _, _, _, _, _, _, _, _, _, _, _, _, _, _, _, _, _, _, _, _, _, _, _, _, _, _, _, _, _, _, _, by omega, by rw [HEs.out]; rfl, HT3.out, HM3.out⟩, ?_⟩
      simp [intOf]; omega
    case stop => exact fun _ _ _ _ _ _ h _ => h.elim
  · obtain rfl : k = N := by omega
    have HLt := hide (show L.take k = L from by rw [HL.out, ← HNl.out, ← List.map_take, List.take_length])
    rw [HLt.out] at HTs ⊢
    have k0 : wr.cell? ⟨g + 1, 0, none⟩ = some (.slice (some ⟨g, 0, none⟩) n n) := by rw [cell_of_row _ _ _ _ _ _ HTs.out.box]; rfl
    clear hTS hM
    go_wp2_with fail
    refine leave_ret HM.out ?_
    intro W' hb' hk'
    refine ⟨.slice (some ⟨g, 0, none⟩) n n, by simp [results, Try.results40, go_sem], g, rfl, hgw, ?_, ?_⟩
    · rw [← brow_congr fun p _ => HEnd.out p, ← HL.out]
      exact hk'.same _ _ HTs.out.row rfl
    · exact (HB2.out.trans (HTs.out.bel.mono hgw)).trans (hb'.mono (by omega))
end Go.Proofs.Ytmplioglihmkjaa
