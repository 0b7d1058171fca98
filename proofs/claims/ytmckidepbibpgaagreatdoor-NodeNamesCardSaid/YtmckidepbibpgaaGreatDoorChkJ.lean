/-
  Do two spans of one and the same list meet?
-/
import Derived.Test.YtmckidepbibpgaaGreatDoorChkI
import Derived.Test.YtmckidepbibpgaaGreatDoorRng
import Derived.WalkMore
namespace Go.Proofs.YtmckidepbibpgaaGreatDoor
open Go.RowKit Go.Deep
attribute [local go_sem] Oper.semAt_some
set_option linter.unusedVariables false

def SpRows (w : World) (A : Option Addr) (L : List (List Sp)) : Prop :=
  Lies w A L.length 1 fun i b o => ∃ Ai ci, w.cell? ⟨b, o, none⟩ = some (.slice Ai (L.getD i []).length ci) ∧ (L.getD i []).length ≤ ci ∧ ci ≤ maxLen ∧ Spans w Ai (L.getD i [])
theorem SpRows.of_below {w w' : World} {A : Option Addr} {L : List (List Sp)} {B : Nat} (h : SpRows w A L) (hb : Below B w w') (hB : w.heap.size ≤ B) : SpRows w' A L :=
  Lies.of_below h hb hB fun _ _ _ _ hlt ⟨Ai, ci, h0, h1, h2, h3⟩ => ⟨Ai, ci, cell_below hb hB hlt h0, h1, h2, h3.of_below hb hB⟩
theorem SpRows.at {w : World} {A : Option Addr} {L : List (List Sp)} (h : SpRows w A L) {k : Nat} (hk : k < L.length) :
    ∃ b off Ai ci, A = some ⟨b, off, none⟩ ∧ b < w.heap.size ∧ w.cell? ⟨b, off + k, none⟩ = some (.slice Ai (L.getD k []).length ci) ∧ (L.getD k []).length ≤ ci ∧ ci ≤ maxLen ∧ Spans w Ai (L.getD k []) := by
  rcases h with h0 | ⟨b, off, rfl, hlt, hc⟩
  · omega
  · obtain ⟨Ai, ci, h1⟩ := hc k hk
    exact ⟨b, off, Ai, ci, rfl, hlt, by simpa using h1⟩

def meetS (a b : Sp) : Bool := decide (max a.lo b.lo < min a.hi b.hi)
theorem meetS_iff (a b c d : Int) : meetS ⟨a, b⟩ ⟨c, d⟩ = true ↔ (if a < c then c else a) < (if d < b then d else b) := by
  unfold meetS
  rw [decide_eq_true_eq]
  dsimp only
  rw [Int.max_def, Int.min_def]
  repeat' split
  all_goals omega
/-- do any two of a list meet? -/
def MeetL (l : List Sp) : Prop := ∃ i j, j < i ∧ i < l.length ∧ meetS (l.getD j default) (l.getD i default) = true

/-- what stands while lists are searched -/
structure SM (w W : World) (v : Bool) (Ds : List Nat) : Prop where
  bel : Below w.heap.size w W
  fc : W.heap[w.heap.size]? = some (.cells #[.bool v] 4 (0, 0))
  ds : ∀ D ∈ Ds, w.heap.size < D ∧ W.heap[D]? = some (.deferred (some []))
  nd : Ds.Nodup

theorem below_putO {B D : Nat} {w W : World} (h : Below B w W) (hD : B ≤ D) (hL : D < W.heap.size) (o : Obj) : Below B w (W.putObj D o) :=
  h.trans ((Below.refl B W).grown (grownBy_putObj' W D o) (by omega) (fun k e => by cases e; omega))
theorem SM.below {w W W' : World} {v : Bool} {Ds : List Nat} (h : SM w W v Ds) (hb : Below W.heap.size W W') : SM w W' v Ds :=
  ⟨h.bel.trans (hb.mono h.bel.size), (hb.block _ (Array.getElem?_eq_some_iff.1 h.fc).1).trans h.fc, fun D hD => ⟨(h.ds D hD).1, (hb.block _ (Array.getElem?_eq_some_iff.1 (h.ds D hD).2).1).trans (h.ds D hD).2⟩, h.nd⟩
theorem SM.put {w W : World} {v : Bool} {Ds : List Nat} (h : SM w W v Ds) {l : Nat} {r : Loop} (hl : W.heap[l]? = some (.loop r)) (hw : w.heap.size ≤ l) (r' : Loop) : SM w (W.putObj l (.loop r')) v Ds := by
  have hlt := (Array.getElem?_eq_some_iff.1 hl).1
  refine ⟨below_putO h.bel hw hlt _, ?_, fun D hD => ⟨(h.ds D hD).1, ?_⟩, h.nd⟩
  · rw [World.putObj_heap_other (fun e => by rw [← e, h.fc] at hl; cases hl)]; exact h.fc
  · rw [World.putObj_heap_other (fun e => by rw [← e, (h.ds D hD).2] at hl; cases hl)]; exact (h.ds D hD).2
theorem SM.found {w W : World} {v : Bool} {Ds : List Nat} (h : SM w W v Ds) : SM w (W.setCell ⟨w.heap.size, 0, none⟩ (.bool true)) true Ds := by
  refine ⟨h.bel.setCell (p := ⟨w.heap.size, 0, none⟩) (Nat.le_refl _) _, ?_, fun D hD => ⟨(h.ds D hD).1, ?_⟩, h.nd⟩
  · simp only [World.setCell, Array.getElem?_modify, if_true, h.fc, Option.map_some]
    rfl
  · simp only [World.setCell, Array.getElem?_modify]
    rw [if_neg (by have := (h.ds D hD).1; show w.heap.size ≠ D; omega)]
    exact (h.ds D hD).2
theorem SM.more {w W : World} {v : Bool} {Ds : List Nat} (h : SM w W v Ds) {D : Nat} (hD : W.heap[D]? = some (.deferred (some []))) (hw : w.heap.size < D) (hn : D ∉ Ds) : SM w W v (D :: Ds) :=
  ⟨h.bel, h.fc, fun E hE => by
    rcases List.mem_cons.1 hE with rfl | hE
    · exact ⟨hw, hD⟩
    · exact h.ds E hE, List.nodup_cons.2 ⟨hn, h.nd⟩⟩

/-- what stands while a list's pairs are told -/
structure MJ (w wr w2 W0 : World) (rec : Loop) (Ai : Option Addr) (ci : Nat) (l : List Sp) (Ds : List Nat) (p q : Nat) (W : World) : Prop where
  sm : SM w W false Ds
  lp : W.heap[w2.heap.size + 1]? = some (.loop rec)
  df : W.heap[w2.heap.size]? = some (.deferred (some []))
  sz : W0.heap.size ≤ W.heap.size
  bx : W.heap[wr.heap.size]? = some (.cells #[.slice Ai l.length ci] 319 (0, 0))
  old : ∀ i j, j < i → i < p → meetS (l.getD j default) (l.getD i default) = false
  now : ∀ j, j < q → meetS (l.getD j default) (l.getD p default) = false
theorem MJ.below {w wr w2 W0 : World} {rec : Loop} {Ai : Option Addr} {ci : Nat} {l : List Sp} {Ds : List Nat} {p q : Nat} {W W' : World} (h : MJ w wr w2 W0 rec Ai ci l Ds p q W) (hb : Below W.heap.size W W') : MJ w wr w2 W0 rec Ai ci l Ds p q W' :=
  ⟨h.sm.below hb, (hb.block _ (Array.getElem?_eq_some_iff.1 h.lp).1).trans h.lp, (hb.block _ (Array.getElem?_eq_some_iff.1 h.df).1).trans h.df, Nat.le_trans h.sz hb.size, (hb.block _ (Array.getElem?_eq_some_iff.1 h.bx).1).trans h.bx, h.old, h.now⟩
theorem MJ.next {w wr w2 W0 : World} {rec : Loop} {Ai : Option Addr} {ci : Nat} {l : List Sp} {Ds : List Nat} {p : Nat} {W : World} (h : MJ w wr w2 W0 rec Ai ci l Ds p p W) : MJ w wr w2 W0 rec Ai ci l Ds (p + 1) 0 W :=
  ⟨h.sm, h.lp, h.df, h.sz, h.bx, fun i j hj hi => by
      rcases Nat.lt_succ_iff_lt_or_eq.1 hi with h5 | rfl
      · exact h.old i j hj h5
      · exact h.now j hj, fun j hj => by omega⟩

set_option maxRecDepth 100000 in
set_option maxHeartbeats 4000000 in
theorem meet_any (L : List (List Sp)) (A : Option Addr) (m : Nat) (w : World) (hL : SpRows w A L) (hn : L.length ≤ 64) :
    Calls Tryz.prog 224 #[.slice A L.length m] w fun e w' => ∃ v : Bool, e = .returned (.bool v) ∧ (v = true ↔ ∃ l ∈ L, MeetL l) ∧ Below w.heap.size w w' := by
  refine calls_of_wp_marks Tryz.func224 rfl ?_
  simp only [Tryz.ntmps224, List.size_toArray, List.length_cons, List.length_nil, Nat.reduceAdd, Nat.reduceSub, Array.replicate_succ, Array.replicate_zero, List.push_toArray, List.append_toArray, List.nil_append, List.cons_append]
  go_wp2_with fail
  go_step3
  go_wp2_with fail
  have F1 := hide (show SM w (w.alloc (.cells #[.bool false] 4)) false [] from ⟨bal w _, heap_alloc_new w _, by simp, by simp⟩)
  go_step3
  go_wp2_with fail
  generalize w.alloc (.cells #[.bool false] 4) = w1 at F1 ⊢
  refine wp_loop (fun a W => ∃ (i : Nat) (Ds : List Nat) (u5 u11 u12 u13 u14 u15 u29 : Value), i ≤ L.length ∧ a = { tmps := #[.slice A L.length m, undef, .bool false, .pointer (some ⟨w.heap.size, 0, none⟩), undef, u5, undef, undef, .slice A L.length m, .int .i64 (L.length : Nat), .int .i64 (i : Nat), u11, u12, u13, u14, u15, undef, undef, undef, undef, undef, undef, undef, undef, undef, undef, undef, undef, undef, u29, undef], defers := marked Ds } ∧
    SM w W false Ds ∧ Hid (∀ t, t < i → ¬ MeetL (L.getD t []))) (fun a _ => L.length - (intOf (a.tmps.getD 10 undef)).toNat) ⟨0, [], undef, undef, undef, undef, undef, undef, undef, by omega, rfl, F1.out, fun t ht => by omega⟩ ?_
  rintro a wr ⟨i, Ds, u5, u11, u12, u13, u14, u15, u29, hi, rfl, hS, H⟩
  by_cases hlt : i < L.length
  · obtain ⟨b, off, Ai, ci, hA, hbl, q0, q1, q2, q3⟩ := hL.at hlt
    subst hA
    obtain ⟨l, hl⟩ : ∃ x, L.getD i [] = x := ⟨_, rfl⟩
    rw [hl] at q0 q1 q3
    have c0 := cell_below hS.bel (Nat.le_refl _) hbl q0
    have HS := hide hS; have HL := hide hl; have HQ := hide q3
    clear q0 hS hl q3 F1
    go_wp2_with (
                    go_at_call 268
                    refine (pairs_any _ _ _ _).mono ?_
                    rintro e w2 ⟨rfl, hw2⟩
                    have S2 := hide (show SM w w2 false Ds from hw2 ▸ HS.out.below (bal wr (.cells #[.slice Ai l.length ci] 319)))
                    have HB2 := hide (show w2.heap[wr.heap.size]? = some (.cells #[.slice Ai l.length ci] 319 (0, 0)) by rw [hw2]; exact heap_alloc_new wr _)
                    have HZ2 := hide (show w2.heap.size = wr.heap.size + 1 by rw [hw2]; exact Array.size_push _)
                    clear hw2)
    have hz2 := HZ2.out
    have hzr := HS.out.bel.size
    have hfl := (Array.getElem?_eq_some_iff.1 HS.out.fc).1
    have hDn : Hid (w2.heap.size ∉ Ds) := fun h => by
      have := (Array.getElem?_eq_some_iff.1 (HS.out.ds _ h).2).1
      omega
    refine wp_range2 (g := .tmp 15) rfl (enters_of Tryz.func285 (by kernel_rfl) rfl) ?_
    rintro W0 rec hl hD hb0 hz0 hst hpe htm hps has hbo
    have J0 : MJ w wr w2 W0 rec Ai ci l Ds 0 0 W0 := ⟨S2.out.below hb0, hl, hD, Nat.le_refl _, (hb0.block _ (by omega)).trans HB2.out, fun i j hj hi => by omega, fun j hj => by omega⟩
    refine pairs1_all l Ai ci 1 (w2.heap.size + 1) wr.heap.size W0 _ (fun p q W => MJ w wr w2 W0 rec Ai ci l Ds p q W) (fun p q W h => h.sz) q1 q2 J0 (fun p q W h => ⟨by simp [World.cell?, h.bx], HQ.out.of_below h.sm.bel (Nat.le_refl _)⟩) (fun p q W W' h hb => h.below hb) (fun p W _ h => h.next) ?hY ?hR
    case hR =>
      intro W v hJ
      refine ⟨⟨v, rfl⟩, rec, hJ.lp, by rw [hst]; simp, ?_⟩
      have H4 := hide (show ∀ r' : Loop, SM w (W.putObj (w2.heap.size + 1) (.loop r')) false (w2.heap.size :: Ds) from fun r' => (hJ.sm.put hJ.lp (by omega) r').more ((World.putObj_heap_other (by omega)).trans hJ.df) (by omega) hDn.out)
      have HN : Hid (∀ t, t < i + 1 → ¬ MeetL (L.getD t [])) := fun t ht => by
        rcases Nat.lt_succ_iff_lt_or_eq.1 ht with h5 | rfl
        · exact H.out t h5
        · rw [HL.out]
          rintro ⟨x, y, h1, h2, h3⟩
          rw [hJ.old x y h1 h2] at h3
          cases h3
      rw [hpe]
      clear J0 hl hD hb0 hst hpe htm hps has hbo hJ c0 H hz2 hz0 hzr
      go_wp2_with fail
      refine ⟨⟨i + 1, w2.heap.size :: Ds, _, _, _, _, _, _, _, by omega, rfl, H4.out _, HN⟩, ?_⟩
      simp [intOf]
      omega
    case hY =>
      intro p q W1 hq hp hJ
      obtain ⟨⟨alo, ahi⟩, hsa⟩ : ∃ x, l.getD q default = x := ⟨_, rfl⟩
      obtain ⟨⟨blo, bhi⟩, hsb⟩ : ∃ x, l.getD p default = x := ⟨_, rfl⟩
      rw [hsa, hsb]
      dsimp only
      refine yield_at hJ.lp (by rw [hps]; rfl) ?_
      rw [has, hps, htm]
      have HJ := hide hJ; have HST := hide hst; have HPE := hide hpe; have HBO := hide hbo; have HSA := hide hsa; have HSB := hide hsb
      clear J0 hl hD hb0 hst hpe htm hps has hbo hJ c0 hsa hsb
      gi_wp2
      have J2 := (HJ.out.below (bal W1 (.cells #[.int .i64 alo, .int .i64 ahi] 321))).below (bal _ (.cells #[.int .i64 blo, .int .i64 bhi] 321))
      refine ⟨rec, J2.lp, HST.out, ?_⟩
      have hn1 := heap_alloc_new W1 (.cells #[.int .i64 alo, .int .i64 ahi] 321)
      have hn2 := heap_alloc_new (W1.alloc (.cells #[.int .i64 alo, .int .i64 ahi] 321)) (.cells #[.int .i64 blo, .int .i64 bhi] 321)
      have hn1' := ((bal (W1.alloc (.cells #[.int .i64 alo, .int .i64 ahi] 321)) (.cells #[.int .i64 blo, .int .i64 bhi] 321)).block W1.heap.size (alloc_lt _ _)).trans hn1
      rw [show (W1.alloc (.cells #[.int .i64 alo, .int .i64 ahi] 321)).heap.size = W1.heap.size + 1 from Array.size_push _] at hn2
      have hk0 : ∀ k, k < W1.heap.size → ((W1.alloc (.cells #[.int .i64 alo, .int .i64 ahi] 321)).alloc (.cells #[.int .i64 blo, .int .i64 bhi] 321)).heap[k]? = W1.heap[k]? := fun k hk => (heap_alloc_old _ _ (Nat.lt_of_lt_of_le hk (Nat.le_of_lt (alloc_lt _ _)))).trans (heap_alloc_old _ _ hk)
      have hz1 : W1.heap.size ≤ ((W1.alloc (.cells #[.int .i64 alo, .int .i64 ahi] 321)).alloc (.cells #[.int .i64 blo, .int .i64 bhi] 321)).heap.size := Nat.le_trans (Nat.le_of_lt (alloc_lt _ _)) (Nat.le_of_lt (alloc_lt _ _))
      have hlr : w2.heap.size + 1 < W1.heap.size := (Array.getElem?_eq_some_iff.1 HJ.out.lp).1
      generalize ((W1.alloc (.cells #[.int .i64 alo, .int .i64 ahi] 321)).alloc (.cells #[.int .i64 blo, .int .i64 bhi] 321)) = W2 at J2 hn1' hn2 hk0 hz1 ⊢
      clear hn1
      have HSB3 := hide (J2.sm.put J2.lp (by omega) { rec with state := .busy })
      have HLP3 := hide (World.putObj_heap_same (w := W2) (r := w2.heap.size + 1) (o := .loop { rec with state := .busy }) (by omega))
      have ho3 : ∀ k, k ≠ w2.heap.size + 1 → (W2.putObj (w2.heap.size + 1) (.loop { rec with state := .busy })).heap[k]? = W2.heap[k]? := fun k hk => World.putObj_heap_other hk
      have hz3 : (W2.putObj (w2.heap.size + 1) (.loop { rec with state := .busy })).heap.size = W2.heap.size := by simp
      generalize W2.putObj (w2.heap.size + 1) (.loop { rec with state := .busy }) = W3 at HSB3 HLP3 ho3 hz3 ⊢
      have hna := (ho3 W1.heap.size (by omega)).trans hn1'
      have hnb := (ho3 (W1.heap.size + 1) (by omega)).trans hn2
      have a0 : W3.cell? ⟨W1.heap.size, 0, none⟩ = some (.int .i64 alo) := by simp [World.cell?, hna]
      have a1 : W3.cell? ⟨W1.heap.size, 1, none⟩ = some (.int .i64 ahi) := by simp [World.cell?, hna]
      have b0 : W3.cell? ⟨W1.heap.size + 1, 0, none⟩ = some (.int .i64 blo) := by simp [World.cell?, hnb]
      have b1 : W3.cell? ⟨W1.heap.size + 1, 1, none⟩ = some (.int .i64 bhi) := by simp [World.cell?, hnb]
      rw [HBO.out]
      clear hna hnb hn1' hn2
      have fc := HSB3.out.fc
      have f0 : W3.cell? ⟨w.heap.size, 0, none⟩ = some (.bool false) := by simp [World.cell?, fc]
      have f1 : W3.frozen? ⟨w.heap.size, 0, none⟩ = false := by simp [World.frozen?, fc]
      clear fc
      have hlw : w.heap.size ≠ w2.heap.size + 1 := by omega
      gi_wp2
      rotate_left
      · rename_i hno
        have hnm : meetS ⟨alo, ahi⟩ ⟨blo, bhi⟩ = false := by
          rw [← Bool.not_eq_true, meetS_iff]
          exact Int.not_lt.2 hno
        refine ⟨none, { rec with state := .busy }, rfl, HLP3.out, .inl ⟨rfl, ?_, ?_, ?_⟩⟩
        · refine ⟨HSB3.out.put HLP3.out (by omega) _, ?_, (World.putObj_heap_other (by omega)).trans ((ho3 _ (by omega)).trans J2.df), ?_, (World.putObj_heap_other (by omega)).trans ((ho3 _ (by omega)).trans J2.bx), J2.old, fun j hj => ?_⟩
          · rw [World.putObj_heap_same (by omega)]
            have h1 := HST.out; have h2 := HPE.out
            cases rec
            simp only at h1 h2
            subst h1 h2
            rfl
          · have := J2.sz
            simp only [World.putObj_size]
            omega
          · rcases Nat.lt_succ_iff_lt_or_eq.1 hj with h5 | rfl
            · exact J2.now j h5
            · rw [HSA.out, HSB.out]; exact hnm
        · simp only [World.putObj_size]
          omega
        · intro k hk1 hk2
          exact (World.putObj_heap_other (by omega)).trans ((ho3 k (by omega)).trans (hk0 k hk2))
      · rename_i hyes
        have hm : meetS ⟨alo, ahi⟩ ⟨blo, bhi⟩ = true := (meetS_iff _ _ _ _).2 hyes
        have hlp4 : (W3.setCell ⟨w.heap.size, 0, none⟩ (.bool true)).heap[w2.heap.size + 1]? = some (.loop { rec with state := .busy }) := by
          simp only [World.setCell, Array.getElem?_modify]
          rw [if_neg hlw]
          exact HLP3.out
        have hdf4 : (W3.setCell ⟨w.heap.size, 0, none⟩ (.bool true)).heap[w2.heap.size]? = some (.deferred (some [])) := by
          simp only [World.setCell, Array.getElem?_modify]
          rw [if_neg (by show w.heap.size ≠ w2.heap.size; omega)]
          exact (ho3 _ (by omega)).trans J2.df
        have S4 := HSB3.out.found
        generalize W3.setCell ⟨w.heap.size, 0, none⟩ (.bool true) = W4 at hlp4 hdf4 S4 ⊢
        have hl4 := (Array.getElem?_eq_some_iff.1 hlp4).1
        refine ⟨some (.exit 0), { rec with state := .busy }, rfl, hlp4, .inr ⟨rfl, fun v => ⟨⟨v, rfl⟩, { rec with state := .done, pending := some (.exit 0) }, World.putObj_heap_same hl4, by simp, ?_⟩⟩⟩
        have hwL : (∃ l ∈ L, MeetL l) := ⟨l, by rw [← HL.out, List.getD_eq_getElem?_getD, List.getElem?_eq_getElem hlt]; exact List.getElem_mem hlt, p, q, hq, hp, by rw [HSA.out, HSB.out]; exact hm⟩
        have S5 := hide (show ∀ r1 r2 : Loop, SM w ((W4.putObj (w2.heap.size + 1) (.loop r1)).putObj (w2.heap.size + 1) (.loop r2)) true (w2.heap.size :: Ds) from fun r1 r2 => ((S4.put hlp4 (by omega) r1).put (World.putObj_heap_same hl4) (by omega) r2).more ((World.putObj_heap_other (by omega)).trans ((World.putObj_heap_other (by omega)).trans hdf4)) (by omega) hDn.out)
        have HW := hide hwL
        have S6 := S5.out { rec with state := .done, pending := some (.exit 0) } { rec with state := .exhausted, pending := some (.exit 0) }
        have f6 := show (((W4.putObj (w2.heap.size + 1) (.loop { rec with state := .done, pending := some (.exit 0) })).putObj (w2.heap.size + 1) (.loop { rec with state := .exhausted, pending := some (.exit 0) }))).cell? ⟨w.heap.size, 0, none⟩ = some (.bool true) by unfold World.cell?; rw [S6.fc]; rfl
        have HS6 := hide S6
        clear S6 S5 hwL hm hyes S4 hlp4 hdf4 hl4 a0 a1 b0 b1 f0 f1 J2 hk0 ho3 HLP3 HSB3 hz1 hz2 hz3 hz0 hzr
        go_wp2
        rw [Exit.noGoto_ret]
        refine leaves_marked (w2.heap.size :: Ds) _ (fun D hD => (HS6.out.ds D hD).2) HS6.out.nd ?_
        intro W' o1 o2 o3 o4 o5
        refine ⟨.bool true, by simp [results, Tryz.results224, go_sem], true, rfl, by simp; exact HW.out, ?_⟩
        have hS6 := HS6.out
        exact hS6.bel.trans ⟨o1, o2, o3, by rw [o4]; exact Nat.le_refl _, fun k hk => o5 k (fun h => by have := (hS6.ds k h).1; omega)⟩
  · obtain rfl : i = L.length := by omega
    have f0 : wr.cell? ⟨w.heap.size, 0, none⟩ = some (.bool false) := by simp [World.cell?, hS.fc]
    have HS := hide hS
    clear hS
    go_wp2
    rw [Exit.noGoto_ret]
    refine leaves_marked Ds wr (fun D hD => (HS.out.ds D hD).2) HS.out.nd ?_
    intro W' o1 o2 o3 o4 o5
    have hS6 := HS.out
    refine ⟨.bool false, by simp [results, Tryz.results224, go_sem], false, rfl, ?_, hS6.bel.trans ⟨o1, o2, o3, by rw [o4]; exact Nat.le_refl _, fun k hk => o5 k (fun h => by have := (hS6.ds k h).1; omega)⟩⟩
    refine ⟨fun h => (by cases h), fun h => ?_⟩
    obtain ⟨x, hx, hm⟩ := h
    obtain ⟨t, ht, rfl⟩ := List.getElem_of_mem hx
    have := H.out t ht
    rw [List.getD_eq_getElem?_getD, List.getElem?_eq_getElem ht] at this
    exact absurd hm this
end Go.Proofs.YtmckidepbibpgaaGreatDoor
