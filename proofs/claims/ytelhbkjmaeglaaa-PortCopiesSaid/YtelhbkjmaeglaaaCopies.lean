/-
  The walk of PortCopies.
-/
import Derived.Test.YtelhbkjmaeglaaaRefuses
namespace Go.Proofs.Ytelhbkjmaeglaaa
open Go.RowKit Go.Shelf Go.ChangeShapes
set_option linter.unusedVariables false

section
variable {W W' : World} {base b1 b2 b3 : Nat} {P : Prm} {h1 h2 h3 h' : Value} {ms1 ms2 ms3 ms' : List Msg} {S1 S2 S3 S : St}
theorem Pair.with (t : Pair W base b1 b2 P h1 h2 ms1 ms2 S1 S2) (y : BoxS W' base b1 P h' ms' S) (k : KeepH base b1 h1 h' W W') : Pair W' base b1 b2 P h' h2 ms' ms2 S S2 :=
  ⟨y, { t.x2 with box := t.x1.box.beside k.toKeep t.x2.box t.nb t.nh }, t.nb, apart_after k t.x2.box t.nh⟩
/-- three boxes side by side -/
structure Trio (W : World) (base b1 b2 b3 : Nat) (P : Prm) (h1 h2 h3 : Value) (ms1 ms2 ms3 : List Msg) (S1 S2 S3 : St) : Prop where
  ab : Pair W base b1 b2 P h1 h2 ms1 ms2 S1 S2
  ac : Pair W base b1 b3 P h1 h3 ms1 ms3 S1 S3
  bc : Pair W base b2 b3 P h2 h3 ms2 ms3 S2 S3
theorem Trio.first (t : Trio W base b1 b2 b3 P h1 h2 h3 ms1 ms2 ms3 S1 S2 S3) (g : Went W W' base b1 P h1 ms1 S) : ∃ h1' ms1', Trio W' base b1 b2 b3 P h1' h2 h3 ms1' ms2 ms3 S S2 S3 := by
  obtain ⟨h', ms', y, k, _⟩ := g.is
  have u := t.ab.with y k; have v := t.ac.with y k
  exact ⟨h', ms', u, v, u.x2, v.x2, t.bc.nb, t.bc.nh⟩
theorem Trio.second (t : Trio W base b1 b2 b3 P h1 h2 h3 ms1 ms2 ms3 S1 S2 S3) (g : Went W W' base b2 P h2 ms2 S) : ∃ h2' ms2', Trio W' base b1 b2 b3 P h1 h2' h3 ms1 ms2' ms3 S1 S S3 := by
  obtain ⟨h', ms', y, k, _⟩ := g.is
  have u := t.ab.swap.with y k; have v := t.bc.with y k
  exact ⟨h', ms', u.swap, ⟨u.x2, v.x2, t.ac.nb, t.ac.nh⟩, v⟩
/-- a copy: as much as is known of it -/
theorem BoxS.copied (x : BoxS W base b1 P h1 ms1 S) (ok : Okay P) :
    Calls Try.prog 21 #[.pointer (some ⟨b1, 0, none⟩)] W fun e W' => (∃ (b2 : Nat) (h2 : Value) (ms2 : List Msg), e = .returned (.pointer (some ⟨b2, 0, none⟩)) ∧ BoxS W' base b2 P h2 ms2 S ∧ W.heap.size ≤ b2 ∧ ∀ k, h2.ownBlock = some k → W.heap.size ≤ k) ∧ Below W.heap.size W W' := by
  have g1 : P.p.oneCell' = true ∧ P.g.oneCell' = true := by
    rcases ok.is with ⟨_, _, hp, hg⟩ | ⟨_, _, hp, hg, _⟩ | ⟨_, _, hp, hg, _⟩ | ⟨_, _, hp, hg, _⟩ <;> rw [hp, hg] <;> exact ⟨rfl, rfl⟩
  have g2 := ok.s2
  refine (copy_at x.box g1.1 g1.2 (fun m hm => by have := x.size m hm; omega) (by have := x.few; omega)).mono ?_
  rintro e W' ⟨⟨b2, h', ms', rfl, y, ht⟩, hb⟩
  have t := pair_of x hb y ht
  exact ⟨⟨b2, h', ms', rfl, t.x2, y.lo, fun k hk => (y.own_lt hk).2.1⟩, hb⟩
theorem pair_new (x : BoxS W base b1 P h1 ms1 S1) (hb : Below W.heap.size W W') (y : BoxS W' base b2 P h2 ms2 S2) (hl : W.heap.size ≤ b2) (ho : ∀ k, h2.ownBlock = some k → W.heap.size ≤ k) : Pair W' base b1 b2 P h1 h2 ms1 ms2 S1 S2 := by
  have hbl := x.box.lt
  refine ⟨x.later hb, y, by omega, fun k hk e => ?_⟩
  have := (x.box.own_lt hk).1; have := ho k e; omega
end
/-- what calls make of what a box holds -/
def runF (P : Prm) (L : List OpD) (S : St) : Nat → St
  | 0 => S
  | j + 1 => (askF P (runF P L S j) (L.getD j default).k (L.getD j default).l (L.getD j default).z).2

set_option maxRecDepth 100000 in
set_option maxHeartbeats 4000000 in
theorem copies_any (pt k d s e f : Int) (L : List OpD) (N : Nat) (A : Option Addr) (cap : Nat) (R : List OpD) (M : Nat) (A2 : Option Addr) (cap2 : Nat) (w : World) (hN : L.length = N) (hcap : N ≤ cap) (hmax : cap ≤ maxLen) (hL : Ops w A L) (hM : R.length = M) (hcap2 : M ≤ cap2) (hmax2 : cap2 ≤ maxLen) (hR : Ops w A2 R) :
    Calls Try.prog 7 #[.agg #[.int .i64 pt, .int .i64 k, .int .i64 d, .int .i64 s, .int .i64 e, .int .i64 f], .slice A N cap, .slice A2 M cap2] w fun e w' => e = .returned (.bool true) ∧ Below w.heap.size w w' := by
  unfold maxLen at hmax hmax2
  have HL := hide hL; have HN := hide hN; have HM := hide hM; have HR := hide hR
  clear hL hN hM hR
  have hb1 := bal w (.cells #[.int .i64 pt, .int .i64 k, .int .i64 d, .int .i64 s, .int .i64 e, .int .i64 f] 23)
  have hr1 := heap_alloc_new w (.cells #[.int .i64 pt, .int .i64 k, .int .i64 d, .int .i64 s, .int .i64 e, .int .i64 f] 23)
  have hz1 : w.heap.size < (w.alloc (.cells #[.int .i64 pt, .int .i64 k, .int .i64 d, .int .i64 s, .int .i64 e, .int .i64 f] 23)).heap.size := by simp
  obtain ⟨w1, hw1⟩ : ∃ w1, w.alloc (.cells #[.int .i64 pt, .int .i64 k, .int .i64 d, .int .i64 s, .int .i64 e, .int .i64 f] 23) = w1 := ⟨_, rfl⟩
  rw [hw1] at hb1 hr1 hz1
  have B1 := hide hb1; have R1 := hide hr1
  clear hb1 hr1
  go_enter Try.func7, Try.ntmps7
  go_wp2_with fail
  refine (alive_any w1).mono ?_
  rintro e' w2 ⟨rfl, hb2⟩
  have B2 := hide (B1.out.trans (hb2.mono (by omega)))
  have hz2 := hb2.size
  have r1 := (hb2.block w.heap.size (by omega)).trans R1.out
  have p0 : w2.cell? ⟨w.heap.size, 0, none⟩ = some (.int .i64 pt) := by rw [cell_of_row _ _ _ _ _ _ r1]; rfl
  have p1 : w2.cell? ⟨w.heap.size, 1, none⟩ = some (.int .i64 k) := by rw [cell_of_row _ _ _ _ _ _ r1]; rfl
  have p2 : w2.cell? ⟨w.heap.size, 2, none⟩ = some (.int .i64 d) := by rw [cell_of_row _ _ _ _ _ _ r1]; rfl
  have p3 : w2.cell? ⟨w.heap.size, 3, none⟩ = some (.int .i64 s) := by rw [cell_of_row _ _ _ _ _ _ r1]; rfl
  have p4 : w2.cell? ⟨w.heap.size, 4, none⟩ = some (.int .i64 e) := by rw [cell_of_row _ _ _ _ _ _ r1]; rfl
  have p5 : w2.cell? ⟨w.heap.size, 5, none⟩ = some (.int .i64 f) := by rw [cell_of_row _ _ _ _ _ _ r1]; rfl
  clear hb2 r1 R1 hw1
  by_cases hlen : 500 < N
  · go_wp2
    go_ret
    exact ⟨rfl, B2.out⟩
  by_cases hlen2 : 500 < M
  · go_wp2
    go_ret
    exact ⟨rfl, B2.out⟩
  go_wp2_with fail
  refine (new_any pt k d s e f w2).mono ?_
  rintro e' w3 ⟨h3, hb3⟩
  have B3 := hide (B2.out.trans (hb3.mono (by omega)))
  have hz3 := hb3.size
  clear hb3 p0 p1 p2 p3 p4 p5
  rcases h3 with ⟨_, b, rfl, ok, x0⟩ | ⟨_, rfl⟩
  case inr =>
    go_wp2
    go_ret
    exact ⟨rfl, B3.out⟩
  obtain ⟨P, hP⟩ : ∃ P, prm pt k d s e f = P := ⟨_, rfl⟩
  rw [hP] at ok x0
  have OK := hide ok; have X0 := hide x0
  clear ok x0 hP
  go_wp2_with fail
  go_loopg [10] N (fun r i wr => ∃ (j : Nat) (h : Value) (ms : List Msg) (S : St), j + r = N ∧ i = .int .i64 j ∧ BoxS wr w2.heap.size b P h ms S ∧ Below w.heap.size w wr)
  case atStart => exact ⟨0, _, [], ([], false), by omega, rfl, X0.out, B3.out⟩
  case round =>
    obtain ⟨j, h, ms, S, hj, rfl, x1, hb⟩ := hrel
    have X1 := hide x1; have HB := hide hb
    clear x1 hb X0 B3
    have hzr : w2.heap.size ≤ wr.heap.size := by have := X1.out.box.lt; have := X1.out.box.lo; omega
    by_cases hlt : j < N
    · as_aux_lemma =>
        obtain ⟨bA, off, hAe, hbA, ⟨Aj, cj, q0, q1, q2, hby⟩, hk64, hz64⟩ := (HL.out.of_below HB.out (Nat.le_refl _)).at (k := j) (by rw [HN.out]; omega)
        subst hAe
        generalize L.getD j default = y at q0 q1 q2 hby hz64
        have hc := ask_any X1.out OK.out y.k y.l y.l.length Aj cj y.z hz64.le rfl hby
        obtain ⟨Z, hZ⟩ : ∃ Z, askF P S y.k y.l y.z = Z := ⟨_, rfl⟩
        rw [hZ] at hc
        generalize y.k = yk at q0 hc
        generalize y.z = yz at q2 hc
        generalize y.l.length = yn at q1 hc
        clear hZ hby hk64 hz64
        go_wp2_with fail
        refine hc.mono ?_
        rintro e' w4 ⟨rfl, g⟩
        have hgb := g.bel
        obtain ⟨h', ms', x', k', hm'⟩ := g.is
        have X4 := hide x'; have HB4 := hide (HB.out.trans (hgb.mono (by omega)))
        clear hc g hgb x' k' hm' q0 q1 q2
        go_wp2
        go_roundg (N - j - 1)
        case measure => omega
        case rel => exact ⟨j + 1, h', ms', Z.2, by omega, by go_num, X4.out, HB4.out⟩
    · obtain rfl : j = N := by omega
      go_wp2_with fail
      refine (X1.out.copied OK.out).mono ?_
      rintro e' w4 ⟨⟨b2, h2, ms2, rfl, y2, l2, o2⟩, hb4⟩
      have T4 := hide (pair_new X1.out hb4 y2 l2 o2); have HB4 := hide (HB.out.trans (hb4.mono (by omega)))
      have hz4 := hb4.size
      clear y2 l2 o2 hb4 X1 HB
      go_wp2_with fail
      refine (T4.out.x1.copied OK.out).mono ?_
      rintro e' w5 ⟨⟨b3, h3, ms3, rfl, y3, l3, o3⟩, hb5⟩
      have T5 := hide (show Trio w5 w2.heap.size b b2 b3 P h h2 h3 ms ms2 ms3 S S S from ⟨T4.out.later hb5, pair_new T4.out.x1 hb5 y3 l3 o3, pair_new T4.out.x2 hb5 y3 l3 o3⟩)
      have HB5 := hide (HB4.out.trans (hb5.mono (by omega)))
      have hz5 := hb5.size
      clear y3 l3 o3 hb5 T4 HB4
      go_wp2_with fail
      go_loopg [13] M (fun r i wr => ∃ (j : Nat) (h1 h2 : Value) (ms1 ms2 : List Msg), j + r = M ∧ i = .int .i64 j ∧ Trio wr w2.heap.size b b2 b3 P h1 h2 h3 ms1 ms2 ms3 (runF P R S j) (runF P R S j) S ∧ Below w.heap.size w wr)
      case atStart => exact ⟨0, h, h2, ms, ms2, by omega, rfl, T5.out, HB5.out⟩
      case round =>
        clear T5 HB5
        obtain ⟨j, h1, h2, ms1, ms2, hj, rfl, t, hb⟩ := hrel
        have T := hide t; have HB := hide hb
        clear t hb
        have hzr : w2.heap.size ≤ wr.heap.size := by have := T.out.ab.x1.box.lt; have := T.out.ab.x1.box.lo; omega
        by_cases hlt : j < M
        · as_aux_lemma =>
            obtain ⟨bA, off, hAe, hbA, ⟨Aj, cj, Q0', Q1', Q2', HBY'⟩, hk64, hz64⟩ := HR.out.at (k := j) (by rw [HM.out]; omega)
            subst hAe
            have hzz : runF P R S (j + 1) = (askF P (runF P R S j) (R.getD j default).k (R.getD j default).l (R.getD j default).z).2 := rfl
            generalize R.getD j default = y at Q0' Q1' Q2' HBY' hz64 hzz
            have hc1 := fun (W : World) (h : Value) (ms : List Msg) (x : BoxS W w2.heap.size b P h ms (runF P R S j)) (hb : Bytes W Aj y.l) => ask_any x OK.out y.k y.l y.l.length Aj cj y.z hz64.le rfl hb
            have hc2 := fun (W : World) (h : Value) (ms : List Msg) (x : BoxS W w2.heap.size b2 P h ms (runF P R S j)) (hb : Bytes W Aj y.l) => ask_any x OK.out y.k y.l y.l.length Aj cj y.z hz64.le rfl hb
            obtain ⟨Z, hZ⟩ : ∃ Z, askF P (runF P R S j) y.k y.l y.z = Z := ⟨_, rfl⟩
            rw [hZ] at hzz
            simp only [hZ] at hc1 hc2
            have HZ := hide hzz
            have hby := HBY'.of_below HB.out (Nat.le_refl _)
            have HBY := hide HBY'
            generalize y.k = yk at Q0' hc1 hc2
            generalize y.z = yz at Q2' hc1 hc2
            generalize y.l.length = yn at Q1' hc1 hc2
            have q0 := (bcl HB.out hbA).trans Q0'
            have q1 := (bcl HB.out hbA).trans Q1'
            have q2 := (bcl HB.out hbA).trans Q2'
            have Q0 := hide Q0'; have Q1 := hide Q1'; have Q2 := hide Q2'
            clear hZ hzz hk64 hz64 Q0' Q1' Q2' HBY'
            go_wp2_with fail
            refine (hc1 _ _ _ T.out.ab.x1 hby).mono ?_
            rintro e' w6 ⟨rfl, g⟩
            have hgb := g.bel
            obtain ⟨h1', ms1', t6⟩ := T.out.first g
            have T6 := hide t6; have HB6 := hide (HB.out.trans (hgb.mono (by omega)))
            have hzg := g.siz
            have q06 := (bcl HB6.out hbA).trans Q0.out
            have q16 := (bcl HB6.out hbA).trans Q1.out
            have q26 := (bcl HB6.out hbA).trans Q2.out
            have hby6 := HBY.out.of_below HB6.out (Nat.le_refl _)
            clear g hgb t6 q0 q1 q2 T
            go_wp2_with fail
            refine (hc2 _ _ _ T6.out.ab.x2 hby6).mono ?_
            rintro e' w7 ⟨rfl, g⟩
            have hgb := g.bel
            obtain ⟨h2', ms2', t7⟩ := T6.out.second g
            have T7 := hide t7; have HB7 := hide (HB6.out.trans (hgb.mono (by omega)))
            clear g hgb t7 q06 q16 q26 T6 hc1 hc2 hby hby6
            go_wp2_with fail
            go_roundg (M - j - 1)
            case measure => omega
            case rel => exact ⟨j + 1, h1', h2', ms1', ms2', by omega, by go_num, by rw [HZ.out]; exact T7.out, HB7.out⟩
        · obtain rfl : j = M := by omega
          obtain ⟨S', hS'⟩ : ∃ S', runF P R S j = S' := ⟨_, rfl⟩
          rw [hS'] at T
          have HS' := hide hS'
          clear hS'
          go_wp2_with fail
          go_loopg [18] j (fun r i wr => ∃ (q : Nat) (h1 : Value) (ms1 : List Msg) (S1 : St), q + r = j ∧ i = .int .i64 q ∧ Trio wr w2.heap.size b b2 b3 P h1 h2 h3 ms1 ms2 ms3 S1 S' S ∧ Below w.heap.size w wr)
          case atStart => exact ⟨0, h1, ms1, _, by omega, rfl, T.out, HB.out⟩
          case round =>
            clear T HB
            obtain ⟨q, h1, ms1, S1, hq, rfl, t, hb⟩ := hrel
            have T := hide t; have HB := hide hb
            clear t hb
            have hzr : w2.heap.size ≤ wr.heap.size := by have := T.out.ab.x1.box.lt; have := T.out.ab.x1.box.lo; omega
            by_cases hlt : q < j
            · as_aux_lemma =>
                obtain ⟨u, hu⟩ : ∃ u : Nat, j - 1 - q = u := ⟨_, rfl⟩
                have hu2 : u < j := by omega
                have v1 : IntKind.i64.wrap ((j : Int) - 1) = (j : Int) - 1 := i64_id (by omega) (by omega)
                have v2 : IntKind.i64.wrap ((j : Int) - 1 - q) = (u : Int) := by rw [i64_id (by omega) (by omega)]; omega
                clear hu
                obtain ⟨bA, off, hAe, hbA, ⟨Aj, cj, q0, q1, q2, hby⟩, hk64, hz64⟩ := (HR.out.of_below HB.out (Nat.le_refl _)).at (k := u) (by rw [HM.out]; omega)
                subst hAe
                generalize R.getD u default = y at q0 q1 q2 hby hz64
                have hc := ask_any T.out.ab.x1 OK.out y.k y.l y.l.length Aj cj y.z hz64.le rfl hby
                obtain ⟨Z, hZ⟩ : ∃ Z, askF P S1 y.k y.l y.z = Z := ⟨_, rfl⟩
                rw [hZ] at hc
                generalize y.k = yk at q0 hc
                generalize y.z = yz at q2 hc
                generalize y.l.length = yn at q1 hc
                clear hZ hby hk64 hz64
                go_wp2_with fail
                refine hc.mono ?_
                rintro e' w6 ⟨rfl, g⟩
                have hgb := g.bel
                obtain ⟨h1', ms1', t6⟩ := T.out.first g
                have T6 := hide t6; have HB6 := hide (HB.out.trans (hgb.mono (by omega)))
                clear hc g hgb t6 q0 q1 q2 T
                go_wp2
                go_roundg (j - q - 1)
                case measure => omega
                case rel => exact ⟨q + 1, h1', ms1', Z.2, by omega, by go_num, T6.out, HB6.out⟩
            · obtain rfl : q = j := by omega
              go_wp2_with fail
              refine (T.out.ac.x2.copied OK.out).mono ?_
              rintro e' w6 ⟨⟨b4, h4, ms4, rfl, y4, l4, o4⟩, hb6⟩
              have T6 := hide (pair_new T.out.ab.x2 hb6 y4 l4 o4)
              have HB6 := hide (HB.out.trans (hb6.mono (by omega)))
              clear y4 l4 o4 hb6 T HB
              go_wp2_with fail
              go_loopg [20] q (fun r i wr => ∃ (j : Nat) (h4 : Value) (ms4 : List Msg), j + r = q ∧ i = .int .i64 j ∧ Pair wr w2.heap.size b2 b4 P h2 h4 ms2 ms4 S' (runF P R S j) ∧ Below w.heap.size w wr)
              case atStart => exact ⟨0, h4, ms4, by omega, rfl, T6.out, HB6.out⟩
              case round =>
                clear T6 HB6
                obtain ⟨j, h4, ms4, hj, rfl, t, hb⟩ := hrel
                have T := hide t; have HB := hide hb
                clear t hb
                have hzr : w2.heap.size ≤ wr.heap.size := by have := T.out.x1.box.lt; have := T.out.x1.box.lo; omega
                by_cases hlt : j < q
                · as_aux_lemma =>
                    obtain ⟨bA, off, hAe, hbA, ⟨Aj, cj, q0, q1, q2, hby⟩, hk64, hz64⟩ := (HR.out.of_below HB.out (Nat.le_refl _)).at (k := j) (by rw [HM.out]; omega)
                    subst hAe
                    have hzz : runF P R S (j + 1) = (askF P (runF P R S j) (R.getD j default).k (R.getD j default).l (R.getD j default).z).2 := rfl
                    generalize R.getD j default = y at q0 q1 q2 hby hz64 hzz
                    have hc := ask_any T.out.x2 OK.out y.k y.l y.l.length Aj cj y.z hz64.le rfl hby
                    obtain ⟨Z, hZ⟩ : ∃ Z, askF P (runF P R S j) y.k y.l y.z = Z := ⟨_, rfl⟩
                    rw [hZ] at hc hzz
                    have HZ := hide hzz
                    generalize y.k = yk at q0 hc
                    generalize y.z = yz at q2 hc
                    generalize y.l.length = yn at q1 hc
                    clear hZ hzz hby hk64 hz64
                    go_wp2_with fail
                    refine hc.mono ?_
                    rintro e' w7 ⟨rfl, g⟩
                    have hgb := g.bel
                    obtain ⟨h4', ms4', t7⟩ := T.out.second g
                    have T7 := hide t7; have HB7 := hide (HB.out.trans (hgb.mono (by omega)))
                    clear hc g hgb t7 q0 q1 q2 T
                    go_wp2
                    go_roundg (q - j - 1)
                    case measure => omega
                    case rel => exact ⟨j + 1, h4', ms4', by omega, by go_num, by rw [HZ.out]; exact T7.out, HB7.out⟩
                · obtain rfl : j = q := by omega
                  have T2 := hide (show Pair wr w2.heap.size b2 b4 P h2 h4 ms2 ms4 S' S' by have h := T.out; rw [HS'.out] at h; exact h)
                  have hl1 := len_at T2.out.x1.box
                  have hl2 := len_at T2.out.x2.box
                  rw [T2.out.x1.len] at hl1
                  rw [T2.out.x2.len] at hl2
                  generalize S'.1.length = N2 at hl1 hl2
                  have hsm := same_any T2.out OK.out
                  clear T
                  go_wp2_with fail
                  refine hl2.mono ?_
                  rintro e' w7 ⟨rfl, rfl⟩
                  go_wp2_with fail
                  refine hl1.mono ?_
                  rintro e' w7 ⟨rfl, rfl⟩
                  go_wp2_with fail
                  refine hsm.mono ?_
                  rintro e' w7 ⟨rfl, hb7⟩
                  have HB7 := hide (HB.out.trans (hb7.mono (by omega)))
                  clear hb7 hl1 hl2 hsm
                  go_wp2
                  go_ret
                  exact ⟨rfl, HB7.out⟩
end Go.Proofs.Ytelhbkjmaeglaaa
