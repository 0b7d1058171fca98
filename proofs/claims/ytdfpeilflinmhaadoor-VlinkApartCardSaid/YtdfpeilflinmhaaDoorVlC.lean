/-
  The message that stands in a link's place; links told one by one.
-/
import Derived.Test.YtdfpeilflinmhaaDoorVlB
import Derived.Sort.BigQuietIn
namespace Go.Proofs.YtdfpeilflinmhaaDoor
open Go.RowKit Go.Deep Go.Sort
attribute [local go_sem] Oper.semAt_some
set_option linter.unusedVariables false
set_option linter.unusedSimpArgs false

/-- the bytes of a message in a payload -/
def dataF (p : List Nat) (o s : Nat) : List Nat := (List.range s).map fun t => p.getD (o + 1 + t) 0
theorem dataF_len (p : List Nat) (o s : Nat) : (dataF p o s).length = s := by simp [dataF]
theorem dataF_get (p : List Nat) (o s : Nat) {t : Nat} (h : t < s) : (dataF p o s).getD t 0 = p.getD (o + 1 + t) 0 := by
  simp [dataF, List.getD_eq_getElem?_getD, h]
theorem dataF_bytes {w : World} {g o s : Nat} {p : List Nat} (h : Bytes w (some ⟨g, 0, none⟩) p) (hl : o + 1 + s ≤ p.length) (h1 : 1 ≤ s) : Bytes w (some ⟨g, o + 1, none⟩) (dataF p o s) := by
  refine ⟨fun c hc => ?_, .inr ?_⟩
  · obtain ⟨t, _, rfl⟩ := List.mem_map.1 hc
    exact h.byte _
  · obtain ⟨b, off, e, hb, hcell⟩ := h.at (show 0 < p.length by omega)
    injection e with e
    injection e with e1 e2
    subst e1 e2
    refine ⟨g, o + 1, rfl, hb, fun i hi => ?_⟩
    rw [dataF_len] at hi
    rw [dataF_get _ _ _ hi]
    have := hcell (o + 1 + i) (by omega)
    rwa [Nat.zero_add] at this
theorem dataF_self (p : List Nat) (o s : Nat) : (List.range s).map (fun t => (dataF p o s).getD t 0) = dataF p o s := by
  refine List.ext_getElem (by simp [dataF]) fun t h1 h2 => ?_
  simp at h1
  simp [dataF, List.getD_eq_getElem?_getD, h1]

/-- a message that was told: where it lies -/
def MsgAt (W : World) (base : Nat) (v : Value) (yes : Bool) (l : List Nat) : Prop := (yes = false ∧ v = .slice none 0 0) ∨ (yes = true ∧ ∃ g c, v = .slice (some ⟨g, 0, none⟩) l.length c ∧ OwnS W base g l.length c l)

theorem ne_one_u8 (q : Nat) (h : q ≠ 1) : (((q : Nat) : Int) != 1) = true := by
  rw [bne_iff_ne]; omega

set_option maxRecDepth 100000 in
set_option maxHeartbeats 1000000 in
theorem message_at (num src : Int) (v : Value) (g o s : Nat) (p : List Nat) (h : o + 1 + s ≤ 64) (h1 : 1 ≤ s) (w : World) (hp : Bytes w (some ⟨g, 0, none⟩) p) (hl : p.length = 64) :
    Calls Tryd.prog 51 #[.agg #[.int .i64 num, .int .i64 src, .int .i64 o, .int .i64 s, v], .pointer (some ⟨g, 0, none⟩)] w fun e w' =>
      ∃ dv, e = .returned (.tuple #[dv, .bool (decide (p.getD o 0 = 1))]) ∧ Below w.heap.size w w' ∧ MsgAt w' w.heap.size dv (decide (p.getD o 0 = 1)) (dataF p o s) := by
  have hb0 := bal w (.cells #[.int .i64 num, .int .i64 src, .int .i64 o, .int .i64 s, v] 134)
  obtain ⟨c2, c3⟩ := lr_new w num src o s v 134
  have hrow := heap_alloc_new w (.cells #[.int .i64 num, .int .i64 src, .int .i64 o, .int .i64 s, v] 134)
  have q0 : ∀ k u, #[Value.int .i64 num, .int .i64 src, .int .i64 o, .int .i64 s, v][k]? = some u → (w.alloc (.cells #[.int .i64 num, .int .i64 src, .int .i64 o, .int .i64 s, v] 134)).cell? ⟨w.heap.size, k, none⟩ = some u := fun k u hu => by rw [cell_of_row _ _ _ _ _ _ hrow]; exact hu
  have d0 := q0 0 _ rfl
  have d1 := q0 1 _ rfl
  have d4 := q0 4 _ rfl
  have hp1 := hp.of_below hb0 (Nat.le_refl _)
  obtain ⟨b, off, e, hb, hcell⟩ := hp1.at (show 0 < p.length by omega)
  injection e with e
  injection e with e1 e2
  subst e1 e2
  have ho := hcell o (by omega)
  rw [Nat.zero_add] at ho
  have HB := hide hb0
  have HP := hide hp1
  have HL := hide hl
  have HZ : Hid (w.heap.size < (w.alloc (.cells #[.int .i64 num, .int .i64 src, .int .i64 o, .int .i64 s, v] 134)).heap.size) := by show _ < _; simp
  generalize hq : p.getD o 0 = q at ho ⊢
  clear hcell hb hb0 hp1 hp hl hrow q0 hq
  by_cases hq1 : q = 1
  · subst hq1
    go_enter Tryd.func51, Tryd.ntmps51
    go_wp2_with fail
    go_quiet (fail)
    have HB2 := hide (vdrewN HB.out nq)
    have HP2 := hide (HP.out.of_below (vdrewN (Below.refl _ _) nq) (Nat.le_refl _))
    go_wp2_with fail
    refine (room_at num src v g o s h h1 _).mono ?_
    rintro e w1 ⟨rfl, hb1⟩
    have HP3 := hide (HP2.out.of_below hb1 (Nat.le_refl _))
    have HB3 := hide (HB2.out.trans (hb1.mono HB2.out.size))
    clear hb1 HB HP HB2 HP2 c2 c3 d0 d1 d4 ho
    go_wp2_with fail
    refine (clone_cap (dataF p o s) s ⟨g, o + 1, none⟩ (63 - o) w1 (dataF_len _ _ _) (by omega) (dataF_bytes HP3.out (by rw [HL.out]; exact h) h1)).mono ?_
    rintro e w2 ⟨A, c, rfl, k1, k2, k3, k4, k5⟩
    have HB4 := hide (HB3.out.trans (k5.mono HB3.out.size))
    have HM : Hid (MsgAt w2 w.heap.size (.slice A s c) true (dataF p o s)) := by
      show MsgAt _ _ _ _ _
      refine .inr ⟨rfl, ?_⟩
      rcases k3 with k3 | ⟨g', rfl, kg, kR⟩
      · omega
      · obtain ⟨g2, cur, ke, kg2, kh, ks⟩ := k4
        injection ke with ke
        injection ke with ke
        subst ke
        have := OwnS.of_row (base := w.heap.size) kh ks kR (fun t _ => (dataF_bytes HP3.out (by rw [HL.out]; exact h) h1).byte t) (by have := HB3.out.size; omega) k1 k2
        rw [dataF_self] at this
        exact ⟨g', c, by rw [dataF_len], by rw [dataF_len]; exact this⟩
    clear k1 k2 k3 k4 k5 HP3 HB3
    go_wp2
    go_ret2
    exact ⟨_, rfl, HB4.out, HM.out⟩
  · have hne := ne_one_u8 q hq1
    have HD : Hid (decide (q = 1) = false) := by show _ = _; simpa using hq1
    rw [HD.out]
    go_enter Tryd.func51, Tryd.ntmps51
    go_wp2_with fail
    go_quiet (fail)
    go_wp2
    go_ret2
    exact ⟨_, rfl, vdrewN HB.out _, .inl ⟨rfl, rfl⟩⟩

set_option maxRecDepth 100000 in
set_option maxHeartbeats 1000000 in
theorem links1_all {base : Nat} {v : Value} {P : List (Lr × Value)} {B : Nat} (d l : Nat) (W : World) (R : Ending → World → Prop) (I : Nat → World → Prop) (h0 : ∀ W', Below W.heap.size W W' → I 0 W') (hn : P.length ≤ 1000)
    (hI : ∀ n W', I n W' → W'.cell? ⟨B, 0, none⟩ = some v ∧ LrAt W' base v P)
    (hY : ∀ n p W1 W2, P[n]? = some p → I n W1 → Below W1.heap.size W1 W2 → YieldAt Fence.wide (d - 1) Tryd.prog l #[.agg #[.int .i64 p.1.num, .int .i64 p.1.src, .int .i64 p.1.off, .int .i64 p.1.siz, p.2]] W2 fun e W' => e = .returned (.bool true) ∧ I (n + 1) W')
    (hR : ∀ W' vv, I P.length W' → R (.returned vv) W') :
    CallsIn Fence.wide d Tryd.prog 79 (#[.func (.yield l) #[] #[]] ++ #[.pointer (some ⟨B, 0, none⟩)]) W R := by
  obtain ⟨b1, x0⟩ := hI 0 W (h0 W (Below.refl _ _))
  obtain ⟨A, cap, hv⟩ := ow_slice x0.row
  subst hv
  have H0 := hide h0; have HY := hide hY; have HI := hide hI
  clear x0 h0 hY hI
  refine callsIn_of_wp Tryd.func79 rfl trivial ?_ rfl
  simp only [Tryd.ntmps79, List.size_toArray, List.length_cons, List.length_nil, Nat.reduceAdd, Nat.reduceSub, Array.replicate_succ, Array.replicate_zero, List.push_toArray, List.append_toArray, List.nil_append, List.cons_append]
  gi_wp2
  gi_loopw [7] (fun i wr => ∃ n : Nat, n ≤ P.length ∧ i = .int .i64 n ∧ I n wr) (fun i _ => P.length - (intOf i).toNat)
  case atStart => exact ⟨0, by omega, rfl, H0.out _ (Below.refl _ _)⟩
  case round =>
    obtain ⟨n, hk, rfl, hi⟩ := hrel
    have HIn := hide hi
    clear hi H0 b1
    by_cases hlt : n < P.length
    · obtain ⟨p, hp⟩ : ∃ p, P[n]? = some p := ⟨_, List.getElem?_eq_getElem hlt⟩
      obtain ⟨b1, x⟩ := HI.out n wr HIn.out
      obtain ⟨g, c, he, hbg, hgl, _, _, hcell⟩ := ow_open x.row (show 0 < P.length by omega)
      simp only [Value.slice.injEq] at he
      obtain ⟨rfl, _, rfl⟩ := he
      have q0 : wr.cell? ⟨g, n * 5, none⟩ = some (.int .i64 p.1.num) := hcell _ _ (by rw [show n * 5 = n * 5 + 0 by rfl, fm_at lrC_len P n 0 p hp (by omega)]; rfl)
      have q1 : wr.cell? ⟨g, n * 5 + 1, none⟩ = some (.int .i64 p.1.src) := hcell _ _ (by rw [fm_at lrC_len P n 1 p hp (by omega)]; rfl)
      have q2 : wr.cell? ⟨g, n * 5 + 2, none⟩ = some (.int .i64 p.1.off) := hcell _ _ (by rw [fm_at lrC_len P n 2 p hp (by omega)]; rfl)
      have q3 : wr.cell? ⟨g, n * 5 + 3, none⟩ = some (.int .i64 p.1.siz) := hcell _ _ (by rw [fm_at lrC_len P n 3 p hp (by omega)]; rfl)
      have q4 : wr.cell? ⟨g, n * 5 + 4, none⟩ = some p.2 := hcell _ _ (by rw [fm_at lrC_len P n 4 p hp (by omega)]; rfl)
      obtain ⟨dA, dc, hdv⟩ := ow_slice (x.ds p (List.mem_of_getElem? hp))
      obtain ⟨fn, tmps, assign, body, hy, hRR⟩ := HY.out n p wr _ hp HIn.out (bal wr (.cells #[.int .i64 p.1.num, .int .i64 p.1.src, .int .i64 p.1.off, .int .i64 p.1.siz, p.2] 134))
      have HP := hide hp
      clear x hcell hp hbg hgl b1
      obtain ⟨⟨num, src, off, siz, dests⟩, dv⟩ := p
      dsimp only at q0 q1 q2 q3 q4 hdv hRR hy
      subst hdv
      gi_wp2
      refine ⟨(fun h => by cases h), hRR.mono ?_⟩
      rintro e W3 ⟨rfl, hi'⟩
      have HI' := hide hi'
      clear hi' hy hRR HY
      gi_wp2
      go_roundw
      case rel => exact ⟨n + 1, by omega, by go_num, HI'.out⟩
      case measure => simp [intOf]; omega
    · obtain rfl : n = P.length := by omega
      gi_wp2
      go_end0
      exact hR _ _ HIn.out
end Go.Proofs.YtdfpeilflinmhaaDoor
