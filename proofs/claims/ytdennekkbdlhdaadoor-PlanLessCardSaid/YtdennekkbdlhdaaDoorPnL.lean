/-
  What each node is asked for, as the program says it.
-/
import Derived.Test.YtdennekkbdlhdaaDoorPnS
import Derived.Test.YtdennekkbdlhdaaDoorFcF
import Derived.StillTailTactics
import Derived.Deep.Cut
namespace Go.Proofs.YtdennekkbdlhdaaDoor
open Go.RowKit Go.Shelf
attribute [local go_sem] Oper.semAt_some
set_option linter.unusedVariables false
set_option linter.unusedSimpArgs false
set_option maxRecDepth 100000

theorem sum_bound {α : Type} {f : α → Int} {B : Int} : ∀ {l : List α}, (∀ a ∈ l, f a ≤ B) → sumI f l ≤ l.length * B
  | [], _ => by simp [sumI]
  | a :: l, h => by
    have h1 := h a (List.mem_cons_self ..)
    have h2 := sum_bound (f := f) (B := B) (l := l) fun b hb => h b (List.mem_cons_of_mem _ hb)
    simp only [sumI, List.length_cons]
    rw [show ((l.length + 1 : Nat) : Int) = (l.length : Int) + 1 by omega, Int.add_mul, Int.one_mul]
    omega
theorem sum_small {α : Type} {f : α → Int} {B : Int} {l : List α} (h : ∀ a ∈ l, f a ≤ B) (hB : 0 ≤ B) (hl : l.length ≤ 100) (k : Nat) : sumI f (l.take k) ≤ 100 * B := by
  have h1 := sum_bound (f := f) (B := B) (l := l.take k) fun a ha => h a (List.mem_of_mem_take ha)
  have h2 : (l.take k).length ≤ 100 := by rw [List.length_take]; omega
  have h3 : ((l.take k).length : Int) * B ≤ 100 * B := Int.mul_le_mul_of_nonneg_right (by omega) hB
  omega
/-- what stands while loads are summed up -/
structure LdS (w W : World) (d : Dm) (a : Da) (N g1 g2 g3 k j : Nat) : Prop where
  bel : Below w.heap.size w W
  dm : DmB W w.heap.size d a
  m : NumsB W g1 (tblTo N memOf d.tasks k)
  s : NumsB W g2 (tblTo N shareOf d.tasks k)
  p : NumsB W g3 (tblTo N (loadOf d.tasks) d.streams j)
  lo : w.heap.size < g1 ∧ w.heap.size < g2 ∧ w.heap.size < g3
  ne : g1 ≠ g2 ∧ g1 ≠ g3 ∧ g2 ≠ g3
theorem LdS.below {w W W' : World} {d : Dm} {a : Da} {N g1 g2 g3 k j : Nat} (h : LdS w W d a N g1 g2 g3 k j) (hb : Below W.heap.size W W') : LdS w W' d a N g1 g2 g3 k j :=
  ⟨h.bel.trans (hb.mono h.bel.size), h.dm.below hb h.dm.lt, h.m.on (hb.block _ h.m.lt), h.s.on (hb.block _ h.s.lt), h.p.on (hb.block _ h.p.lt), h.lo, h.ne⟩

set_option maxHeartbeats 8000000 in
theorem load_at (d : Dm) (a : Da) (w : World) (h : DmAt w d a) :
    Calls Tryd.prog 8 #[d.val a] w fun e w' => Below w.heap.size w w' ∧
      ((mayD d = false ∧ e = .returned (.tuple #[.slice none 0 0, .slice none 0 0, .slice none 0 0])) ∨
       (mayD d = true ∧ ∃ N A1 A2 A3, Okd d N ∧ e = .returned (.tuple #[.slice A1 N N, .slice A2 N N, .slice A3 N N]) ∧ Ints w' A1 (tblTo N memOf d.tasks d.tasks.length) ∧ Ints w' A2 (tblTo N shareOf d.tasks d.tasks.length) ∧ Ints w' A3 (tblTo N (loadOf d.tasks) d.streams d.streams.length))) := by
  have HD := hide (fun W (hb : Below w.heap.size w W) => h.of_below hb (Nat.le_refl _))
  have HMay := hide (fun W (hb : Below w.heap.size w W) => may_at d a W (h.of_below hb (Nat.le_refl _)))
  have HBx := hide (dm_box w d a 25)
  have HB := hide (bal w (.cells (d.cells a) 25))
  unfold Dm.val Dm.cells at *
  obtain ⟨T, hTe⟩ : ∃ T, T = d.tasks.length := ⟨_, rfl⟩
  obtain ⟨R, hRe⟩ : ∃ R, R = d.streams.length := ⟨_, rfl⟩
  have HT := hide hTe
  have HR := hide hRe
  rw [← hTe, ← hRe] at HMay HBx HB ⊢
  clear hTe hRe h
  go_enter Tryd.func8, Tryd.ntmps8
  cases hmay : mayD d with
  | false =>
    go_wp2_with fail
    refine (HMay.out _ HB.out).mono ?_
    rintro e w1 ⟨rfl, hb1⟩
    rw [hmay]
    have HB1 := hide (HB.out.trans (hb1.mono (by simp)))
    clear hb1
    go_wp2_with fail
    refine bodyPost_ret (v := .tuple #[.slice none 0 0, .slice none 0 0, .slice none 0 0]) ?_ rfl ⟨HB1.out, (by first | exact .inl ⟨rfl, rfl⟩ | rfl)⟩
    simp [results, Tryd.results8, go_sem]
  | true =>
    obtain ⟨N, ho⟩ := okd_of hmay
    have hN := ho.hN
    have HNn := hide hN
    rw [← hN] at HMay HBx HB ⊢
    clear hN
    have h16 := ho.n16
    have hT32 := ho.tl
    have hR64 := ho.sl
    rw [← HT.out] at hT32
    rw [← HR.out] at hR64
    have HOk := hide ho
    clear ho
    go_wp2_with fail
    refine (HMay.out _ HB.out).mono ?_
    rintro e w1 ⟨rfl, hb1⟩
    rw [hmay]
    have HB1 := hide (HB.out.trans (hb1.mono (by simp)))
    have HX1 := hide (HBx.out.below hb1 HBx.out.lt)
    have hz1 := HX1.out.lt
    clear hb1 HB HBx
    obtain ⟨dl, a0, a1, a2, a3, a4, a5, a6⟩ := HX1.out
    rw [← HNn.out] at a0
    have hmk := make_ints N (by omega)
    have HP3 := hide (fun g1 g2 g3 (x1 : g1 = w1.heap.size ∨ g1 = w1.heap.size + 1 ∨ g1 = w1.heap.size + 1 + 1) (x2 : g2 = w1.heap.size ∨ g2 = w1.heap.size + 1 ∨ g2 = w1.heap.size + 1 + 1) (x3 : g3 = w1.heap.size ∨ g3 = w1.heap.size + 1 ∨ g3 = w1.heap.size + 1 + 1) (y1 : g1 ≠ g2) (y2 : g1 ≠ g3) (y3 : g2 ≠ g3) =>
      show LdS w (((w1.drew.alloc (.cells (Array.replicate N (Value.int .i64 0)) 3)).alloc (.cells (Array.replicate N (Value.int .i64 0)) 3)).alloc (.cells (Array.replicate N (Value.int .i64 0)) 3)) d a N g1 g2 g3 0 0 from by
        have hd0 : Below w1.heap.size w1 w1.drew := below_drewN (Below.refl _ _) 1
        have b1 := bal w1.drew (.cells (Array.replicate N (Value.int .i64 0)) 3)
        have b2 := bal (w1.drew.alloc (.cells (Array.replicate N (Value.int .i64 0)) 3)) (.cells (Array.replicate N (Value.int .i64 0)) 3)
        have b3 := bal ((w1.drew.alloc (.cells (Array.replicate N (Value.int .i64 0)) 3)).alloc (.cells (Array.replicate N (Value.int .i64 0)) 3)) (.cells (Array.replicate N (Value.int .i64 0)) 3)
        have n1 := nums_new w1.drew N
        have n2 := nums_new (w1.drew.alloc (.cells (Array.replicate N (Value.int .i64 0)) 3)) N
        have n3 := nums_new ((w1.drew.alloc (.cells (Array.replicate N (Value.int .i64 0)) 3)).alloc (.cells (Array.replicate N (Value.int .i64 0)) 3)) N
        simp only [World.size_alloc] at b2 b3 n2 n3
        have hz0 : w1.drew.heap.size = w1.heap.size := rfl
        rw [hz0] at b1 b2 b3 n1 n2 n3
        have N1 := (n1.on (b2.block _ (by omega))).on (b3.block _ (by omega))
        have N2 := n2.on (b3.block _ (by omega))
        have hg : ∀ g, (g = w1.heap.size ∨ g = w1.heap.size + 1 ∨ g = w1.heap.size + 1 + 1) → NumsB (((w1.drew.alloc (.cells (Array.replicate N (Value.int .i64 0)) 3)).alloc (.cells (Array.replicate N (Value.int .i64 0)) 3)).alloc (.cells (Array.replicate N (Value.int .i64 0)) 3)) g (List.replicate N 0) := fun g hg => by
          rcases hg with rfl | rfl | rfl
          · exact N1
          · exact N2
          · exact n3
        have hb := hd0.trans (b1.trans ((b2.mono (by omega)).trans (b3.mono (by omega))))
        refine ⟨HB1.out.trans (hb.mono HB1.out.size), HX1.out.below hb HX1.out.lt, by rw [tbl_zero]; exact hg _ x1, by rw [tbl_zero]; exact hg _ x2, by rw [tbl_zero]; exact hg _ x3, by omega, by omega⟩)
    go_wp2_with fail
    refine wp_cut2 (fun a' W => ∃ g1 g2 g3, a' = { tmps := #[.agg #[.int .i64 (N : Nat), .int .i64 d.drift, .int .i64 d.reading, .int .i64 d.rejoin, .int .i64 d.quota, .slice a.tA T a.tC, .slice a.sA R a.sC], .pointer (some ⟨w.heap.size, 0, none⟩), .slice (some ⟨g1, 0, none⟩) N N, .slice (some ⟨g2, 0, none⟩) N N, .slice (some ⟨g3, 0, none⟩) N N, undef, undef, undef, undef, .agg #[.int .i64 (N : Nat), .int .i64 d.drift, .int .i64 d.reading, .int .i64 d.rejoin, .int .i64 d.quota, .slice a.tA T a.tC, .slice a.sA R a.sC], .bool true, .bool false, .pointer (some ⟨w.heap.size, 0, none⟩), .int .i64 (N : Nat), .slice (some ⟨g1, 0, none⟩) N N, .pointer (some ⟨w.heap.size, 0, none⟩), .int .i64 (N : Nat), .slice (some ⟨g2, 0, none⟩) N N, .pointer (some ⟨w.heap.size, 0, none⟩), .int .i64 (N : Nat), .slice (some ⟨g3, 0, none⟩) N N, undef, undef, undef, undef, undef, undef, undef, undef, undef, undef, undef, undef, undef, undef, undef, undef, undef, undef, undef, undef, undef, undef, undef, undef, undef, undef, undef, undef, undef, undef, undef, undef, undef, undef, undef, undef, undef, undef, undef, undef, undef, undef, undef, undef, undef, undef, undef, undef, undef, undef, undef], defers := [] } ∧ LdS w W d a N g1 g2 g3 0 0) ?cut3 ?rest
    case cut3 =>
      refine wp_region_held_drew (S := fun w' => w'.cell? ⟨w.heap.size, 0, none⟩ = some (.int .i64 (N : Nat))) (by kernel_rfl) (a0) (fun hHeld => ?_)
      refine wpAnyH_take (i := 0) (v := ?v1) rfl (by kernel_rfl) (by kernel_rfl) (by kernel_rfl) (fun _ _ _ h => by cases h.1) (Or.inl ⟨by kernel_rfl, ?y1⟩) (by assumption) ?r1
      case y1 => (intro W hSW; (try dsimp only at hSW); go_simp; (try with_reducible rfl))
      change wpAnyH _ _ _ _ _ _ _ (Act.put _ (some 12) _) _
      (try simp only [Act.put, List.setIfInBounds_toArray, List.set_cons_zero, List.set_cons_succ])
      refine wpAnyH_take (i := 1) (v := ?v2) rfl (by kernel_rfl) (by kernel_rfl) (by kernel_rfl) (fun _ _ _ h => by cases h.1) (Or.inl ⟨by kernel_rfl, ?y2⟩) (by assumption) ?r2
      case y2 => (intro W hSW; (try dsimp only at hSW); go_simp; (try with_reducible rfl))
      change wpAnyH _ _ _ _ _ _ _ (Act.put _ (some 13) _) _
      (try simp only [Act.put, List.setIfInBounds_toArray, List.set_cons_zero, List.set_cons_succ])
      refine wpAnyH_take (i := 3) (v := ?v3) rfl (by kernel_rfl) (by kernel_rfl) (by kernel_rfl) (fun _ _ _ h => by cases h.1) (Or.inl ⟨by kernel_rfl, ?y3⟩) (by assumption) ?r3
      case y3 => (intro W hSW; (try dsimp only at hSW); go_simp; (try with_reducible rfl))
      change wpAnyH _ _ _ _ _ _ _ (Act.put _ (some 15) _) _
      (try simp only [Act.put, List.setIfInBounds_toArray, List.set_cons_zero, List.set_cons_succ])
      refine wpAnyH_take (i := 4) (v := ?v4) rfl (by kernel_rfl) (by kernel_rfl) (by kernel_rfl) (fun _ _ _ h => by cases h.1) (Or.inl ⟨by kernel_rfl, ?y4⟩) (by assumption) ?r4
      case y4 => (intro W hSW; (try dsimp only at hSW); go_simp; (try with_reducible rfl))
      change wpAnyH _ _ _ _ _ _ _ (Act.put _ (some 16) _) _
      (try simp only [Act.put, List.setIfInBounds_toArray, List.set_cons_zero, List.set_cons_succ])
      refine wpAnyH_take (i := 6) (v := ?v5) rfl (by kernel_rfl) (by kernel_rfl) (by kernel_rfl) (fun _ _ _ h => by cases h.1) (Or.inl ⟨by kernel_rfl, ?y5⟩) (by assumption) ?r5
      case y5 => (intro W hSW; (try dsimp only at hSW); go_simp; (try with_reducible rfl))
      change wpAnyH _ _ _ _ _ _ _ (Act.put _ (some 18) _) _
      (try simp only [Act.put, List.setIfInBounds_toArray, List.set_cons_zero, List.set_cons_succ])
      refine wpAnyH_take (i := 7) (v := ?v6) rfl (by kernel_rfl) (by kernel_rfl) (by kernel_rfl) (fun _ _ _ h => by cases h.1) (Or.inl ⟨by kernel_rfl, ?y6⟩) (by assumption) ?r6
      case y6 => (intro W hSW; (try dsimp only at hSW); go_simp; (try with_reducible rfl))
      change wpAnyH _ _ _ _ _ _ _ (Act.put _ (some 19) _) _
      (try simp only [Act.put, List.setIfInBounds_toArray, List.set_cons_zero, List.set_cons_succ])
      refine wpAnyH_ready (rs := [2, 5, 8]) (by kernel_rfl) (by simp) ?_
      refine AllReadyH.cons rfl (fun K hK => ?_) (AllReadyH.cons rfl (fun K hK => ?_) (AllReadyH.cons rfl (fun K hK => ?_) (AllReadyH.nil)))
      · rw [if_pos (by rfl)]
        go_simp
        refine hK.out _ _ ((bcl (bal _ _) (World.block_lt_of_cell? _ _ hHeld)).trans hHeld) (fun hHeld => ?_)
        clear hK K
        (try simp only [Act.put, List.setIfInBounds_toArray, List.set_cons_zero, List.set_cons_succ])
        refine wpAnyH_take (i := 9) (v := ?v7) rfl (by kernel_rfl) (by kernel_rfl) (by kernel_rfl) (fun _ _ _ h => by cases h.1) (Or.inl ⟨by kernel_rfl, ?y7⟩) (by assumption) ?r7
        case y7 => (intro W hSW; (try dsimp only at hSW); go_simp; (try with_reducible rfl))
        change wpAnyH _ _ _ _ _ _ _ (Act.put _ (some 2) _) _
        (try simp only [Act.put, List.setIfInBounds_toArray, List.set_cons_zero, List.set_cons_succ])
        refine wpAnyH_ready (rs := [5, 8]) (by kernel_rfl) (by simp) ?_
        refine AllReadyH.cons rfl (fun K hK => ?_) (AllReadyH.cons rfl (fun K hK => ?_) (AllReadyH.nil))
        · rw [if_pos (by rfl)]
          go_simp
          refine hK.out _ _ ((bcl (bal _ _) (World.block_lt_of_cell? _ _ hHeld)).trans hHeld) (fun hHeld => ?_)
          clear hK K
          (try simp only [Act.put, List.setIfInBounds_toArray, List.set_cons_zero, List.set_cons_succ])
          refine wpAnyH_take (i := 10) (v := ?v8) rfl (by kernel_rfl) (by kernel_rfl) (by kernel_rfl) (fun _ _ _ h => by cases h.1) (Or.inl ⟨by kernel_rfl, ?y8⟩) (by assumption) ?r8
          case y8 => (intro W hSW; (try dsimp only at hSW); go_simp; (try with_reducible rfl))
          change wpAnyH _ _ _ _ _ _ _ (Act.put _ (some 3) _) _
          (try simp only [Act.put, List.setIfInBounds_toArray, List.set_cons_zero, List.set_cons_succ])
          refine wpAnyH_ready (rs := [8]) (by kernel_rfl) (by simp) ?_
          refine AllReadyH.cons rfl (fun K hK => ?_) (AllReadyH.nil)
          · rw [if_pos (by rfl)]
            go_simp
            refine hK.out _ _ ((bcl (bal _ _) (World.block_lt_of_cell? _ _ hHeld)).trans hHeld) (fun hHeld => ?_)
            clear hK K
            (try simp only [Act.put, List.setIfInBounds_toArray, List.set_cons_zero, List.set_cons_succ])
            refine wpAnyH_take (i := 11) (v := ?v9) rfl (by kernel_rfl) (by kernel_rfl) (by kernel_rfl) (fun _ _ _ h => by cases h.1) (Or.inl ⟨by kernel_rfl, ?y9⟩) (by assumption) ?r9
            case y9 => (intro W hSW; (try dsimp only at hSW); go_simp; (try with_reducible rfl))
            change wpAnyH _ _ _ _ _ _ _ (Act.put _ (some 4) _) _
            (try simp only [Act.put, List.setIfInBounds_toArray, List.set_cons_zero, List.set_cons_succ])
            refine wpAnyH_done (by kernel_rfl) ?_ _
            exact ⟨rfl, _, _, _, rfl, HP3.out _ _ _ (by omega) (by omega) (by omega) (by omega) (by omega) (by omega)⟩
        · rw [if_pos (by rfl)]
          go_simp
          refine hK.out _ _ ((bcl (bal _ _) (World.block_lt_of_cell? _ _ hHeld)).trans hHeld) (fun hHeld => ?_)
          clear hK K
          (try simp only [Act.put, List.setIfInBounds_toArray, List.set_cons_zero, List.set_cons_succ])
          refine wpAnyH_ready (rs := [5]) (by kernel_rfl) (by simp) ?_
          refine AllReadyH.cons rfl (fun K hK => ?_) (AllReadyH.nil)
          · rw [if_pos (by rfl)]
            go_simp
            refine hK.out _ _ ((bcl (bal _ _) (World.block_lt_of_cell? _ _ hHeld)).trans hHeld) (fun hHeld => ?_)
            clear hK K
            (try simp only [Act.put, List.setIfInBounds_toArray, List.set_cons_zero, List.set_cons_succ])
            refine wpAnyH_take (i := 10) (v := ?v10) rfl (by kernel_rfl) (by kernel_rfl) (by kernel_rfl) (fun _ _ _ h => by cases h.1) (Or.inl ⟨by kernel_rfl, ?y10⟩) (by assumption) ?r10
            case y10 => (intro W hSW; (try dsimp only at hSW); go_simp; (try with_reducible rfl))
            change wpAnyH _ _ _ _ _ _ _ (Act.put _ (some 3) _) _
            (try simp only [Act.put, List.setIfInBounds_toArray, List.set_cons_zero, List.set_cons_succ])
            refine wpAnyH_take (i := 11) (v := ?v11) rfl (by kernel_rfl) (by kernel_rfl) (by kernel_rfl) (fun _ _ _ h => by cases h.1) (Or.inl ⟨by kernel_rfl, ?y11⟩) (by assumption) ?r11
            case y11 => (intro W hSW; (try dsimp only at hSW); go_simp; (try with_reducible rfl))
            change wpAnyH _ _ _ _ _ _ _ (Act.put _ (some 4) _) _
            (try simp only [Act.put, List.setIfInBounds_toArray, List.set_cons_zero, List.set_cons_succ])
            refine wpAnyH_done (by kernel_rfl) ?_ _
            exact ⟨rfl, _, _, _, rfl, HP3.out _ _ _ (by omega) (by omega) (by omega) (by omega) (by omega) (by omega)⟩
      · rw [if_pos (by rfl)]
        go_simp
        refine hK.out _ _ ((bcl (bal _ _) (World.block_lt_of_cell? _ _ hHeld)).trans hHeld) (fun hHeld => ?_)
        clear hK K
        (try simp only [Act.put, List.setIfInBounds_toArray, List.set_cons_zero, List.set_cons_succ])
        refine wpAnyH_ready (rs := [2, 8]) (by kernel_rfl) (by simp) ?_
        refine AllReadyH.cons rfl (fun K hK => ?_) (AllReadyH.cons rfl (fun K hK => ?_) (AllReadyH.nil))
        · rw [if_pos (by rfl)]
          go_simp
          refine hK.out _ _ ((bcl (bal _ _) (World.block_lt_of_cell? _ _ hHeld)).trans hHeld) (fun hHeld => ?_)
          clear hK K
          (try simp only [Act.put, List.setIfInBounds_toArray, List.set_cons_zero, List.set_cons_succ])
          refine wpAnyH_take (i := 9) (v := ?v12) rfl (by kernel_rfl) (by kernel_rfl) (by kernel_rfl) (fun _ _ _ h => by cases h.1) (Or.inl ⟨by kernel_rfl, ?y12⟩) (by assumption) ?r12
          case y12 => (intro W hSW; (try dsimp only at hSW); go_simp; (try with_reducible rfl))
          change wpAnyH _ _ _ _ _ _ _ (Act.put _ (some 2) _) _
          (try simp only [Act.put, List.setIfInBounds_toArray, List.set_cons_zero, List.set_cons_succ])
          refine wpAnyH_take (i := 10) (v := ?v13) rfl (by kernel_rfl) (by kernel_rfl) (by kernel_rfl) (fun _ _ _ h => by cases h.1) (Or.inl ⟨by kernel_rfl, ?y13⟩) (by assumption) ?r13
          case y13 => (intro W hSW; (try dsimp only at hSW); go_simp; (try with_reducible rfl))
          change wpAnyH _ _ _ _ _ _ _ (Act.put _ (some 3) _) _
          (try simp only [Act.put, List.setIfInBounds_toArray, List.set_cons_zero, List.set_cons_succ])
          refine wpAnyH_ready (rs := [8]) (by kernel_rfl) (by simp) ?_
          refine AllReadyH.cons rfl (fun K hK => ?_) (AllReadyH.nil)
          · rw [if_pos (by rfl)]
            go_simp
            refine hK.out _ _ ((bcl (bal _ _) (World.block_lt_of_cell? _ _ hHeld)).trans hHeld) (fun hHeld => ?_)
            clear hK K
            (try simp only [Act.put, List.setIfInBounds_toArray, List.set_cons_zero, List.set_cons_succ])
            refine wpAnyH_take (i := 11) (v := ?v14) rfl (by kernel_rfl) (by kernel_rfl) (by kernel_rfl) (fun _ _ _ h => by cases h.1) (Or.inl ⟨by kernel_rfl, ?y14⟩) (by assumption) ?r14
            case y14 => (intro W hSW; (try dsimp only at hSW); go_simp; (try with_reducible rfl))
            change wpAnyH _ _ _ _ _ _ _ (Act.put _ (some 4) _) _
            (try simp only [Act.put, List.setIfInBounds_toArray, List.set_cons_zero, List.set_cons_succ])
            refine wpAnyH_done (by kernel_rfl) ?_ _
            exact ⟨rfl, _, _, _, rfl, HP3.out _ _ _ (by omega) (by omega) (by omega) (by omega) (by omega) (by omega)⟩
        · rw [if_pos (by rfl)]
          go_simp
          refine hK.out _ _ ((bcl (bal _ _) (World.block_lt_of_cell? _ _ hHeld)).trans hHeld) (fun hHeld => ?_)
          clear hK K
          (try simp only [Act.put, List.setIfInBounds_toArray, List.set_cons_zero, List.set_cons_succ])
          refine wpAnyH_ready (rs := [2]) (by kernel_rfl) (by simp) ?_
          refine AllReadyH.cons rfl (fun K hK => ?_) (AllReadyH.nil)
          · rw [if_pos (by rfl)]
            go_simp
            refine hK.out _ _ ((bcl (bal _ _) (World.block_lt_of_cell? _ _ hHeld)).trans hHeld) (fun hHeld => ?_)
            clear hK K
            (try simp only [Act.put, List.setIfInBounds_toArray, List.set_cons_zero, List.set_cons_succ])
            refine wpAnyH_take (i := 9) (v := ?v15) rfl (by kernel_rfl) (by kernel_rfl) (by kernel_rfl) (fun _ _ _ h => by cases h.1) (Or.inl ⟨by kernel_rfl, ?y15⟩) (by assumption) ?r15
            case y15 => (intro W hSW; (try dsimp only at hSW); go_simp; (try with_reducible rfl))
            change wpAnyH _ _ _ _ _ _ _ (Act.put _ (some 2) _) _
            (try simp only [Act.put, List.setIfInBounds_toArray, List.set_cons_zero, List.set_cons_succ])
            refine wpAnyH_take (i := 10) (v := ?v16) rfl (by kernel_rfl) (by kernel_rfl) (by kernel_rfl) (fun _ _ _ h => by cases h.1) (Or.inl ⟨by kernel_rfl, ?y16⟩) (by assumption) ?r16
            case y16 => (intro W hSW; (try dsimp only at hSW); go_simp; (try with_reducible rfl))
            change wpAnyH _ _ _ _ _ _ _ (Act.put _ (some 3) _) _
            (try simp only [Act.put, List.setIfInBounds_toArray, List.set_cons_zero, List.set_cons_succ])
            refine wpAnyH_take (i := 11) (v := ?v17) rfl (by kernel_rfl) (by kernel_rfl) (by kernel_rfl) (fun _ _ _ h => by cases h.1) (Or.inl ⟨by kernel_rfl, ?y17⟩) (by assumption) ?r17
            case y17 => (intro W hSW; (try dsimp only at hSW); go_simp; (try with_reducible rfl))
            change wpAnyH _ _ _ _ _ _ _ (Act.put _ (some 4) _) _
            (try simp only [Act.put, List.setIfInBounds_toArray, List.set_cons_zero, List.set_cons_succ])
            refine wpAnyH_done (by kernel_rfl) ?_ _
            exact ⟨rfl, _, _, _, rfl, HP3.out _ _ _ (by omega) (by omega) (by omega) (by omega) (by omega) (by omega)⟩
      · rw [if_pos (by rfl)]
        go_simp
        refine hK.out _ _ ((bcl (bal _ _) (World.block_lt_of_cell? _ _ hHeld)).trans hHeld) (fun hHeld => ?_)
        clear hK K
        (try simp only [Act.put, List.setIfInBounds_toArray, List.set_cons_zero, List.set_cons_succ])
        refine wpAnyH_ready (rs := [2, 5]) (by kernel_rfl) (by simp) ?_
        refine AllReadyH.cons rfl (fun K hK => ?_) (AllReadyH.cons rfl (fun K hK => ?_) (AllReadyH.nil))
        · rw [if_pos (by rfl)]
          go_simp
          refine hK.out _ _ ((bcl (bal _ _) (World.block_lt_of_cell? _ _ hHeld)).trans hHeld) (fun hHeld => ?_)
          clear hK K
          (try simp only [Act.put, List.setIfInBounds_toArray, List.set_cons_zero, List.set_cons_succ])
          refine wpAnyH_take (i := 9) (v := ?v18) rfl (by kernel_rfl) (by kernel_rfl) (by kernel_rfl) (fun _ _ _ h => by cases h.1) (Or.inl ⟨by kernel_rfl, ?y18⟩) (by assumption) ?r18
          case y18 => (intro W hSW; (try dsimp only at hSW); go_simp; (try with_reducible rfl))
          change wpAnyH _ _ _ _ _ _ _ (Act.put _ (some 2) _) _
          (try simp only [Act.put, List.setIfInBounds_toArray, List.set_cons_zero, List.set_cons_succ])
          refine wpAnyH_ready (rs := [5]) (by kernel_rfl) (by simp) ?_
          refine AllReadyH.cons rfl (fun K hK => ?_) (AllReadyH.nil)
          · rw [if_pos (by rfl)]
            go_simp
            refine hK.out _ _ ((bcl (bal _ _) (World.block_lt_of_cell? _ _ hHeld)).trans hHeld) (fun hHeld => ?_)
            clear hK K
            (try simp only [Act.put, List.setIfInBounds_toArray, List.set_cons_zero, List.set_cons_succ])
            refine wpAnyH_take (i := 10) (v := ?v19) rfl (by kernel_rfl) (by kernel_rfl) (by kernel_rfl) (fun _ _ _ h => by cases h.1) (Or.inl ⟨by kernel_rfl, ?y19⟩) (by assumption) ?r19
            case y19 => (intro W hSW; (try dsimp only at hSW); go_simp; (try with_reducible rfl))
            change wpAnyH _ _ _ _ _ _ _ (Act.put _ (some 3) _) _
            (try simp only [Act.put, List.setIfInBounds_toArray, List.set_cons_zero, List.set_cons_succ])
            refine wpAnyH_take (i := 11) (v := ?v20) rfl (by kernel_rfl) (by kernel_rfl) (by kernel_rfl) (fun _ _ _ h => by cases h.1) (Or.inl ⟨by kernel_rfl, ?y20⟩) (by assumption) ?r20
            case y20 => (intro W hSW; (try dsimp only at hSW); go_simp; (try with_reducible rfl))
            change wpAnyH _ _ _ _ _ _ _ (Act.put _ (some 4) _) _
            (try simp only [Act.put, List.setIfInBounds_toArray, List.set_cons_zero, List.set_cons_succ])
            refine wpAnyH_done (by kernel_rfl) ?_ _
            exact ⟨rfl, _, _, _, rfl, HP3.out _ _ _ (by omega) (by omega) (by omega) (by omega) (by omega) (by omega)⟩
        · rw [if_pos (by rfl)]
          go_simp
          refine hK.out _ _ ((bcl (bal _ _) (World.block_lt_of_cell? _ _ hHeld)).trans hHeld) (fun hHeld => ?_)
          clear hK K
          (try simp only [Act.put, List.setIfInBounds_toArray, List.set_cons_zero, List.set_cons_succ])
          refine wpAnyH_ready (rs := [2]) (by kernel_rfl) (by simp) ?_
          refine AllReadyH.cons rfl (fun K hK => ?_) (AllReadyH.nil)
          · rw [if_pos (by rfl)]
            go_simp
            refine hK.out _ _ ((bcl (bal _ _) (World.block_lt_of_cell? _ _ hHeld)).trans hHeld) (fun hHeld => ?_)
            clear hK K
            (try simp only [Act.put, List.setIfInBounds_toArray, List.set_cons_zero, List.set_cons_succ])
            refine wpAnyH_take (i := 9) (v := ?v21) rfl (by kernel_rfl) (by kernel_rfl) (by kernel_rfl) (fun _ _ _ h => by cases h.1) (Or.inl ⟨by kernel_rfl, ?y21⟩) (by assumption) ?r21
            case y21 => (intro W hSW; (try dsimp only at hSW); go_simp; (try with_reducible rfl))
            change wpAnyH _ _ _ _ _ _ _ (Act.put _ (some 2) _) _
            (try simp only [Act.put, List.setIfInBounds_toArray, List.set_cons_zero, List.set_cons_succ])
            refine wpAnyH_take (i := 10) (v := ?v22) rfl (by kernel_rfl) (by kernel_rfl) (by kernel_rfl) (fun _ _ _ h => by cases h.1) (Or.inl ⟨by kernel_rfl, ?y22⟩) (by assumption) ?r22
            case y22 => (intro W hSW; (try dsimp only at hSW); go_simp; (try with_reducible rfl))
            change wpAnyH _ _ _ _ _ _ _ (Act.put _ (some 3) _) _
            (try simp only [Act.put, List.setIfInBounds_toArray, List.set_cons_zero, List.set_cons_succ])
            refine wpAnyH_take (i := 11) (v := ?v23) rfl (by kernel_rfl) (by kernel_rfl) (by kernel_rfl) (fun _ _ _ h => by cases h.1) (Or.inl ⟨by kernel_rfl, ?y23⟩) (by assumption) ?r23
            case y23 => (intro W hSW; (try dsimp only at hSW); go_simp; (try with_reducible rfl))
            change wpAnyH _ _ _ _ _ _ _ (Act.put _ (some 4) _) _
            (try simp only [Act.put, List.setIfInBounds_toArray, List.set_cons_zero, List.set_cons_succ])
            refine wpAnyH_done (by kernel_rfl) ?_ _
            exact ⟨rfl, _, _, _, rfl, HP3.out _ _ _ (by omega) (by omega) (by omega) (by omega) (by omega) (by omega)⟩
    case rest =>
      rintro a' W2 ⟨g1, g2, g3, rfl, hL⟩
      clear hmk HP3 HB1 HX1 hz1 dl a0 a1 a2 a3 a4 a5 a6
      have HL := hide hL
      obtain ⟨dl, a0, a1, a2, a3, a4, a5, a6⟩ := hL.dm
      rw [← HT.out] at a5
      clear hL
      go_wp2_with fail
      clear dl a0 a1 a2 a3 a4 a5 a6
      generalize hwo : W2 = wo at *
      go_loopw [24] (fun kv wr => ∃ k : Nat, k ≤ T ∧ kv = .int .i64 k ∧ LdS w wr d a N g1 g2 g3 k 0) (fun kv _ => T - (intOf kv).toNat)
      case atStart => exact ⟨0, Nat.zero_le _, rfl, HL.out⟩
      case round =>
        clear hwo HL
        obtain ⟨k, hk, rfl, hL⟩ := hrel
        by_cases hlt : k < T
        · have hkl : k < d.tasks.length := by rw [← HT.out]; exact hlt
          obtain ⟨b, off, hA, hbl, c0, c1, c2⟩ := (HD.out _ hL.bel).tasks.at hkl
          rw [hA]
          have htm := getD_mem (l := d.tasks) (d := default) hkl
          obtain ⟨⟨t1, t2⟩, ⟨t3, t4⟩, ⟨t5, t6⟩⟩ := HOk.out.tk _ htm
          obtain ⟨n, hn⟩ := Int.eq_ofNat_of_zero_le t1
          have hnN : n < N := by have := HNn.out; omega
          have hsN : (d.tasks.getD k default).share ≤ 16 := by have := HNn.out; omega
          have HN1 := hide (tbl_next (f := memOf) (l := d.tasks) default hkl (z := n) hnN fun j hj => by unfold memOf; rw [if_neg (by rw [hn]; omega)])
          have HN2 := hide (tbl_next (f := shareOf) (l := d.tasks) default hkl (z := n) hnN fun j hj => by unfold shareOf; rw [if_neg (by rw [hn]; omega)])
          have hme : memOf (n : Int) (d.tasks.getD k default) = (d.tasks.getD k default).mem := by unfold memOf; rw [if_pos hn]
          have hse : shareOf (n : Int) (d.tasks.getD k default) = (d.tasks.getD k default).share := by unfold shareOf; rw [if_pos hn]
          rw [hme] at HN1
          rw [hse] at HN2
          have hT100 : d.tasks.length ≤ 100 := by rw [← HT.out]; omega
          have hmb := sum_small (f := memOf (n : Int)) (B := 256) (l := d.tasks) (fun t ht => by have := (HOk.out.tk t ht).2.1.2; unfold memOf; split <;> omega) (by omega) hT100 k
          have hm0 := sumI_nonneg (f := memOf (n : Int)) (l := d.tasks.take k) fun t ht => HOk.out.memOf0 _ t (List.mem_of_mem_take ht)
          have hsb := sum_small (f := shareOf (n : Int)) (B := 16) (l := d.tasks) (fun t ht => by have := (HOk.out.tk t ht).2.2.2; have := HNn.out; unfold shareOf; split <;> omega) (by omega) hT100 k
          have hs0 := sumI_nonneg (f := shareOf (n : Int)) (l := d.tasks.take k) fun t ht => HOk.out.shareOf0 _ t (List.mem_of_mem_take ht)
          generalize d.tasks.getD k default = t at *
          obtain ⟨tn, mem, share⟩ := t
          dsimp only at *
          subst hn
          have hb7 := bal wr (.cells #[.int .i64 (n : Nat), .int .i64 mem, .int .i64 share] 43)
          have HL7 := hide (hL.below hb7)
          have HW7 := hide (heap_alloc_new wr (.cells #[.int .i64 (n : Nat), .int .i64 mem, .int .i64 share] 43))
          have hgl : g1 < wr.heap.size ∧ g2 < wr.heap.size ∧ g3 < wr.heap.size := ⟨hL.m.lt, hL.s.lt, hL.p.lt⟩
          have HWs := hide (show (wr.alloc (.cells #[.int .i64 (n : Nat), .int .i64 mem, .int .i64 share] 43)).heap.size = wr.heap.size + 1 by simp)
          clear hL hb7 hme hse htm t1 t2 hA hkl
          go_upto_region 7 with fail
          clear c0 c1 c2
          generalize wr.alloc (.cells #[.int .i64 (n : Nat), .int .i64 mem, .int .i64 share] 43) = W7 at *
          have c0 : W7.drew.cell? ⟨wr.heap.size, 0, none⟩ = some (.int .i64 (n : Nat)) := by
            show W7.cell? _ = _
            rw [cell_of_row _ _ _ _ _ _ HW7.out]; rfl
          have c1 : W7.drew.cell? ⟨wr.heap.size, 1, none⟩ = some (.int .i64 mem) := by
            show W7.cell? _ = _
            rw [cell_of_row _ _ _ _ _ _ HW7.out]; rfl
          have q1 : W7.drew.cell? ⟨g1, n, none⟩ = some (.int .i64 (sumI (memOf (n : Int)) (d.tasks.take k))) := by
            have := HL7.out.m.cell (k := n) (by rw [tbl_len]; exact hnN)
            rw [tbl_at _ _ _ _ hnN] at this
            exact this
          have qf : W7.drew.frozen? ⟨g1, n, none⟩ = false := HL7.out.m.free n
          generalize sumI (memOf (n : Int)) (d.tasks.take k) = M at *
          go_still_tail 9, (by kernel_rfl)
          change wpList _ _ _ _ _ W7.drew
          have hw1 : IntKind.i64.wrap (M + mem) = M + mem := by rw [IntKind.wrap_i64]; omega
          have HL8 := hide (show LdS w W7.drew d a N g1 g2 g3 k 0 from HL7.out.below (below_drewN (Below.refl _ _) 1))
          have HW8 := hide (show W7.drew.heap[wr.heap.size]? = _ from HW7.out)
          have HWs8 := hide (show W7.drew.heap.size = wr.heap.size + 1 from HWs.out)
          clear HL7 HW7 HWs
          generalize W7.drew = W8 at *
          go_upto_region 8 with fail
          clear c0 c1 q1 qf
          have hM8 := HL8.out.m.put n (M + mem)
          rw [HN1.out] at hM8
          have hS8 : NumsB (W8.setCell ⟨g1, n, none⟩ (.int .i64 (M + mem))) g2 (tblTo N shareOf d.tasks k) := HL8.out.s.on (setCell_other (fun e => HL8.out.ne.1 e.symm))
          have hP8 : NumsB (W8.setCell ⟨g1, n, none⟩ (.int .i64 (M + mem))) g3 (tblTo N (loadOf d.tasks) d.streams 0) := HL8.out.p.on (setCell_other (fun e => HL8.out.ne.2.1 e.symm))
          have hD8 := HL8.out.dm.on (W' := W8.setCell ⟨g1, n, none⟩ (.int .i64 (M + mem))) (setCell_other (by have := HL8.out.lo; omega))
          have hB8 := HL8.out.bel.setCell (p := ⟨g1, n, none⟩) (by show w.heap.size ≤ g1; have := HL8.out.lo; omega) (.int .i64 (M + mem))
          have hW8 : (W8.setCell ⟨g1, n, none⟩ (.int .i64 (M + mem))).heap[wr.heap.size]? = some (.cells #[.int .i64 (n : Nat), .int .i64 mem, .int .i64 share] 43 (0, 0)) := (setCell_other (by omega)).trans HW8.out
          have hlo := HL8.out.lo
          have hne := HL8.out.ne
          have hz8 : (W8.setCell ⟨g1, n, none⟩ (.int .i64 (M + mem))).heap.size = wr.heap.size + 1 := by simp; exact HWs8.out
          clear HL8 HW8 HWs8
          generalize W8.setCell ⟨g1, n, none⟩ (.int .i64 (M + mem)) = W9 at *
          have c0 : W9.drew.cell? ⟨wr.heap.size, 0, none⟩ = some (.int .i64 (n : Nat)) := by
            show W9.cell? _ = _
            rw [cell_of_row _ _ _ _ _ _ hW8]; rfl
          have c2 : W9.drew.cell? ⟨wr.heap.size, 2, none⟩ = some (.int .i64 share) := by
            show W9.cell? _ = _
            rw [cell_of_row _ _ _ _ _ _ hW8]; rfl
          have q1 : W9.drew.cell? ⟨g2, n, none⟩ = some (.int .i64 (sumI (shareOf (n : Int)) (d.tasks.take k))) := by
            have := hS8.cell (k := n) (by rw [tbl_len]; exact hnN)
            rw [tbl_at _ _ _ _ hnN] at this
            exact this
          have qf : W9.drew.frozen? ⟨g2, n, none⟩ = false := hS8.free n
          generalize sumI (shareOf (n : Int)) (d.tasks.take k) = S at *
          go_still_tail 9, (by kernel_rfl)
          change wpList _ _ _ _ _ W9.drew
          have hw2 : IntKind.i64.wrap (S + share) = S + share := by rw [IntKind.wrap_i64]; omega
          have hS9 : NumsB W9.drew g2 (tblTo N shareOf d.tasks k) := hS8
          have HM9 := hide (show NumsB W9.drew g1 (tblTo N memOf d.tasks (k + 1)) from hM8)
          have HP9 := hide (show NumsB W9.drew g3 (tblTo N (loadOf d.tasks) d.streams 0) from hP8)
          have HD9 := hide (show DmB W9.drew w.heap.size d a from hD8.on rfl)
          have HB9 := hide (show Below w.heap.size w W9.drew from hB8.drew)
          have HS9 := hide (show NumsB (W9.drew.setCell ⟨g2, n, none⟩ (.int .i64 (S + share))) g2 (tblTo N shareOf d.tasks (k + 1)) from by rw [← HN2.out]; exact hS9.put n _)
          have hz9 : W9.drew.heap.size = wr.heap.size + 1 := hz8
          clear hM8 hS8 hP8 hD8 hB8 hW8 hS9 hz8
          generalize W9.drew = W10 at *
          go_wp2_with fail
          go_roundw
          case rel => exact ⟨k + 1, hlt, by go_num, HB9.out.setCell (p := ⟨g2, n, none⟩) (by show w.heap.size ≤ g2; omega) _, HD9.out.on (setCell_other (by omega)), HM9.out.on (setCell_other hne.1), HS9.out, HP9.out.on (setCell_other (fun e => hne.2.2 e.symm)), hlo, hne⟩
          case measure => simp [intOf]; omega
        · obtain rfl : k = T := by omega
          have HL := hide hL
          obtain ⟨dl, a0, a1, a2, a3, a4, a5, a6⟩ := hL.dm
          rw [← HR.out] at a6
          clear hL
          go_wp2_with fail
          clear dl a0 a1 a2 a3 a4 a5 a6
          generalize hwo : wr = wo at *
          go_loopw [50] (fun jv wr => ∃ j : Nat, j ≤ R ∧ jv = .int .i64 j ∧ LdS w wr d a N g1 g2 g3 k j) (fun jv _ => R - (intOf jv).toNat)
          case atStart => exact ⟨0, Nat.zero_le _, rfl, HL.out⟩
          case round =>
            clear hwo HL
            obtain ⟨j, hj, rfl, hL⟩ := hrel
            by_cases hjt : j < R
            · have hjl : j < d.streams.length := by rw [← HR.out]; exact hjt
              obtain ⟨b, off, As, cs, hA, hbl, c0, c1, c2, c3, c4, c5, _, _, _⟩ := (HD.out _ hL.bel).streams.at hjl
              rw [hA]
              have hsm := getD_mem (l := d.streams) (d := default) hjl
              have hso := HOk.out.sm _ hsm
              obtain ⟨nn1, nn2⟩ := HOk.out.node hsm
              obtain ⟨n, hn⟩ := Int.eq_ofNat_of_zero_le nn1
              have hnN : n < N := by have := HNn.out; omega
              have HN3 := hide (tbl_next (f := loadOf d.tasks) (l := d.streams) default hjl (z := n) hnN fun i hi => by unfold loadOf; rw [if_neg (by rw [hn]; omega)])
              have hle : loadOf d.tasks (n : Int) (d.streams.getD j default) = 1 + (d.streams.getD j default).size := by unfold loadOf; rw [if_pos hn]
              rw [hle] at HN3
              have hR100 : d.streams.length ≤ 100 := by rw [← HR.out]; omega
              have hpb := sum_small (f := loadOf d.tasks (n : Int)) (B := 33) (l := d.streams) (fun s hs => by have := (HOk.out.sm s hs).2.2.1.2; unfold loadOf; split <;> omega) (by omega) hR100 j
              have hp0 := sumI_nonneg (f := loadOf d.tasks (n : Int)) (l := d.streams.take j) fun s hs => HOk.out.loadOf0 _ s (List.mem_of_mem_take hs)
              obtain ⟨S, hS⟩ := Int.eq_ofNat_of_zero_le hso.1.1
              have hST : S < d.tasks.length := by omega
              obtain ⟨tb, toff, hTA, htl, t0, _, _⟩ := (HD.out wr hL.bel).tasks.at hST
              have hnd : (d.tasks.getD S default).node = (n : Int) := by
                have := hn
                unfold nodeOf at this
                rw [hS, Int.toNat_natCast] at this
                exact this
              rw [hnd] at t0
              rw [← HT.out] at hST
              have hS2 := hso.2.2.1
              generalize d.streams.getD j default = s at *
              have HTak := hide (fun W => taken_at s As cs W hS2.1 hS2.2)
              unfold Sm.v at HTak
              obtain ⟨mm, hmm⟩ : ∃ mm, mm = s.dests.length := ⟨_, rfl⟩
              rw [← hmm] at HTak c1
              rw [hS] at c0 HTak
              clear hmm
              have hb7 := bal wr (.cells #[.int .i64 (S : Nat), .slice As mm cs, .int .i64 s.kind, .int .i64 s.size, .int .i64 s.depth, .int .i64 s.fresh] 53)
              have HL7 := hide (hL.below hb7)
              have hbs := heap_alloc_new wr (.cells #[.int .i64 (S : Nat), .slice As mm cs, .int .i64 s.kind, .int .i64 s.size, .int .i64 s.depth, .int .i64 s.fresh] 53)
              have HBs := hide hbs
              have t0' := (bcl hb7 htl).trans t0
              have hdm := hL.dm.below hb7 hL.dm.lt
              have hgl : g1 < wr.heap.size ∧ g2 < wr.heap.size ∧ g3 < wr.heap.size := ⟨hL.m.lt, hL.s.lt, hL.p.lt⟩
              have HWs := hide (show (wr.alloc (.cells #[.int .i64 (S : Nat), .slice As mm cs, .int .i64 s.kind, .int .i64 s.size, .int .i64 s.depth, .int .i64 s.fresh] 53)).heap.size = wr.heap.size + 1 by simp)
              have hwl := hdm.lt
              have k5 : (wr.alloc (.cells #[.int .i64 (S : Nat), .slice As mm cs, .int .i64 s.kind, .int .i64 s.size, .int .i64 s.depth, .int .i64 s.fresh] 53)).cell? ⟨w.heap.size, 5, none⟩ = some (.slice (some ⟨tb, toff, none⟩) k a.tC) := by rw [hdm.c5, hTA, ← HT.out]
              have K5 := hide k5
              have T0 := hide t0'
              clear hL hb7 hbs t0' t0 hdm k5 hle hsm hso nn1 nn2 hA hjl hnd hTA
              go_upto_region 13 with fail
              clear c0 c1 c2 c3 c4 c5
              generalize wr.alloc (.cells #[.int .i64 (S : Nat), .slice As mm cs, .int .i64 s.kind, .int .i64 s.size, .int .i64 s.depth, .int .i64 s.fresh] 53) = W7 at *
              obtain ⟨bs, hbse⟩ : ∃ bs, bs = wr.heap.size := ⟨_, rfl⟩
              rw [← hbse] at HBs HWs hgl htl ⊢
              have hwz := HWs.out
              have hwd : W7.drew.heap.size = bs + 1 := HWs.out
              have r0 : W7.drew.cell? ⟨bs, 0, none⟩ = some (.int .i64 (S : Nat)) := by
                show W7.cell? _ = _
                rw [cell_of_row _ _ _ _ _ _ HBs.out]; rfl
              have r1 : W7.drew.cell? ⟨bs, 1, none⟩ = some (.slice As mm cs) := by
                show W7.cell? _ = _
                rw [cell_of_row _ _ _ _ _ _ HBs.out]; rfl
              have r2 : W7.drew.cell? ⟨bs, 2, none⟩ = some (.int .i64 s.kind) := by
                show W7.cell? _ = _
                rw [cell_of_row _ _ _ _ _ _ HBs.out]; rfl
              have r3 : W7.drew.cell? ⟨bs, 3, none⟩ = some (.int .i64 s.size) := by
                show W7.cell? _ = _
                rw [cell_of_row _ _ _ _ _ _ HBs.out]; rfl
              have r4 : W7.drew.cell? ⟨bs, 4, none⟩ = some (.int .i64 s.depth) := by
                show W7.cell? _ = _
                rw [cell_of_row _ _ _ _ _ _ HBs.out]; rfl
              have r5 : W7.drew.cell? ⟨bs, 5, none⟩ = some (.int .i64 s.fresh) := by
                show W7.cell? _ = _
                rw [cell_of_row _ _ _ _ _ _ HBs.out]; rfl
              have k5 : W7.drew.cell? ⟨w.heap.size, 5, none⟩ = some (.slice (some ⟨tb, toff, none⟩) k a.tC) := K5.out
              have t0 : W7.drew.cell? ⟨tb, toff + S * 3, none⟩ = some (.int .i64 (n : Nat)) := T0.out
              have q1 : W7.drew.cell? ⟨g3, n, none⟩ = some (.int .i64 (sumI (loadOf d.tasks (n : Int)) (d.streams.take j))) := by
                have := HL7.out.p.cell (k := n) (by rw [tbl_len]; exact hnN)
                rw [tbl_at _ _ _ _ hnN] at this
                exact this
              have qf : W7.drew.frozen? ⟨g3, n, none⟩ = false := HL7.out.p.free n
              generalize sumI (loadOf d.tasks (n : Int)) (d.streams.take j) = P at *
              have hw3 : IntKind.i64.wrap (P + (1 + s.size)) = P + (1 + s.size) := by rw [IntKind.wrap_i64]; omega
              refine wp_vals_store [.slice (some ⟨g3, 0, none⟩) N N, .pointer (some ⟨w.heap.size, 5, none⟩), .slice (some ⟨tb, toff, none⟩) k a.tC, .pointer (some ⟨bs, 0, none⟩), .int .i64 (S : Nat), .pointer (some ⟨tb, toff + S * 3, none⟩), .pointer (some ⟨tb, toff + S * 3, none⟩), .int .i64 (n : Nat), .pointer (some ⟨g3, n, none⟩), .int .i64 P, .agg #[.int .i64 (S : Nat), .slice As mm cs, .int .i64 s.kind, .int .i64 s.size, .int .i64 s.depth, .int .i64 s.fresh], .int .i64 (1 + s.size), .int .i64 (P + (1 + s.size)), .pointer (some ⟨g3, n, none⟩)] ⟨g3, n, none⟩ (.int .i64 (P + (1 + s.size))) rfl (by kernel_rfl) (by kernel_rfl) (by decide) ?r13_steps ?r13_fin
              case r13_steps =>
                refine AllFrom.cons (i := 0) (step_isW (by kernel_rfl) ?r13_0) (AllFrom.cons (i := 1) (step_isW (by kernel_rfl) ?r13_1) (AllFrom.cons (i := 2) (step_isW (by kernel_rfl) ?r13_2) (AllFrom.cons (i := 3) (step_isW (by kernel_rfl) ?r13_3) (AllFrom.cons (i := 4) (step_isW (by kernel_rfl) ?r13_4) (AllFrom.cons (i := 5) (step_isW (by kernel_rfl) ?r13_5) (AllFrom.cons (i := 6) (step_isW (by kernel_rfl) ?r13_6) (AllFrom.cons (i := 7) (step_isW (by kernel_rfl) ?r13_7) (AllFrom.cons (i := 8) (step_isW (by kernel_rfl) ?r13_8) (AllFrom.cons (i := 9) (step_isW (by kernel_rfl) ?r13_9) (AllFrom.cons (i := 10) (step_isW (by kernel_rfl) ?r13_10) (AllFrom.cons (i := 11) (step_fnW (by kernel_rfl) _ _ _ rfl (enters_of Tryd.func17 (by kernel_rfl) rfl) ?r13_11) (AllFrom.cons (i := 12) (step_isW (by kernel_rfl) ?r13_12) (AllFrom.cons (i := 13) (step_isW (by kernel_rfl) ?r13_13) (AllFrom.cons (i := 14) (step_runW (by kernel_rfl) ?r13_14) (trivial)))))))))))))))
                case r13_0 =>
                  intro L' vals W2 ρ hI hi hdep hnew hold hc
                  have hlast := hI.ahead hi 14 (by kernel_rfl)
                  have hbw := sb_at hI rfl hlast
                  have e0 : ρ (.tmp 4) = .slice (some ⟨g3, 0, none⟩) N N := (hold 4 (by kernel_rfl)).trans (by kernel_rfl)
                  refine ⟨.slice (some ⟨g3, 0, none⟩) N N, ?_, sF_val rfl (of_decide_eq_true (by kernel_rfl))⟩
                  simp [execOp, go_sem, e0]
                case r13_1 =>
                  intro L' vals W2 ρ hI hi hdep hnew hold hc
                  have hlast := hI.ahead hi 14 (by kernel_rfl)
                  have hbw := sb_at hI rfl hlast
                  have e0 : ρ (.tmp 1) = .pointer (some ⟨w.heap.size, 0, none⟩) := (hold 1 (by kernel_rfl)).trans (by kernel_rfl)
                  refine ⟨.pointer (some ⟨w.heap.size, 5, none⟩), ?_, sF_val rfl (of_decide_eq_true (by kernel_rfl))⟩
                  simp [execOp, go_sem, e0]
                case r13_2 =>
                  intro L' vals W2 ρ hI hi hdep hnew hold hc
                  have hlast := hI.ahead hi 14 (by kernel_rfl)
                  have hbw := sb_at hI rfl hlast
                  have e0 : ρ (.tmp 55) = .pointer (some ⟨w.heap.size, 5, none⟩) := (hnew 1 55 (dep hdep 1 (by kernel_rfl)) (by kernel_rfl) (of_decide_eq_true (by kernel_rfl)) (of_decide_eq_true (by kernel_rfl))).trans (sv_at hI (of_decide_eq_true (by kernel_rfl)) rfl (dep hdep 1 (by kernel_rfl)) rfl (of_decide_eq_true (by kernel_rfl)))
                  have p1 := (bcl hbw (by omega)).trans k5
                  refine ⟨.slice (some ⟨tb, toff, none⟩) k a.tC, ?_, sF_val rfl (of_decide_eq_true (by kernel_rfl))⟩
                  simp [execOp, go_sem, e0, p1]
                case r13_3 =>
                  intro L' vals W2 ρ hI hi hdep hnew hold hc
                  have hlast := hI.ahead hi 14 (by kernel_rfl)
                  have hbw := sb_at hI rfl hlast
                  have e0 : ρ (.tmp 8) = .pointer (some ⟨bs, 0, none⟩) := (hold 8 (by kernel_rfl)).trans (by kernel_rfl)
                  refine ⟨.pointer (some ⟨bs, 0, none⟩), ?_, sF_val rfl (of_decide_eq_true (by kernel_rfl))⟩
                  simp [execOp, go_sem, e0]
                case r13_4 =>
                  intro L' vals W2 ρ hI hi hdep hnew hold hc
                  have hlast := hI.ahead hi 14 (by kernel_rfl)
                  have hbw := sb_at hI rfl hlast
                  have e0 : ρ (.tmp 57) = .pointer (some ⟨bs, 0, none⟩) := (hnew 3 57 (dep hdep 3 (by kernel_rfl)) (by kernel_rfl) (of_decide_eq_true (by kernel_rfl)) (of_decide_eq_true (by kernel_rfl))).trans (sv_at hI (of_decide_eq_true (by kernel_rfl)) rfl (dep hdep 3 (by kernel_rfl)) rfl (of_decide_eq_true (by kernel_rfl)))
                  have p1 := (bcl hbw (by omega)).trans r0
                  refine ⟨.int .i64 (S : Nat), ?_, sF_val rfl (of_decide_eq_true (by kernel_rfl))⟩
                  simp [execOp, go_sem, e0, p1]
                case r13_5 =>
                  intro L' vals W2 ρ hI hi hdep hnew hold hc
                  have hlast := hI.ahead hi 14 (by kernel_rfl)
                  have hbw := sb_at hI rfl hlast
                  have e0 : ρ (.tmp 56) = .slice (some ⟨tb, toff, none⟩) k a.tC := (hnew 2 56 (dep hdep 2 (by kernel_rfl)) (by kernel_rfl) (of_decide_eq_true (by kernel_rfl)) (of_decide_eq_true (by kernel_rfl))).trans (sv_at hI (of_decide_eq_true (by kernel_rfl)) rfl (dep hdep 2 (by kernel_rfl)) rfl (of_decide_eq_true (by kernel_rfl)))
                  have e1 : ρ (.tmp 58) = .int .i64 (S : Nat) := (hnew 4 58 (dep hdep 4 (by kernel_rfl)) (by kernel_rfl) (of_decide_eq_true (by kernel_rfl)) (of_decide_eq_true (by kernel_rfl))).trans (sv_at hI (of_decide_eq_true (by kernel_rfl)) rfl (dep hdep 4 (by kernel_rfl)) rfl (of_decide_eq_true (by kernel_rfl)))
                  refine ⟨.pointer (some ⟨tb, toff + S * 3, none⟩), ?_, sF_val rfl (of_decide_eq_true (by kernel_rfl))⟩
                  simp [execOp, go_sem, e0, e1, hST]
                case r13_6 =>
                  intro L' vals W2 ρ hI hi hdep hnew hold hc
                  have hlast := hI.ahead hi 14 (by kernel_rfl)
                  have hbw := sb_at hI rfl hlast
                  have e0 : ρ (.tmp 59) = .pointer (some ⟨tb, toff + S * 3, none⟩) := (hnew 5 59 (dep hdep 5 (by kernel_rfl)) (by kernel_rfl) (of_decide_eq_true (by kernel_rfl)) (of_decide_eq_true (by kernel_rfl))).trans (sv_at hI (of_decide_eq_true (by kernel_rfl)) rfl (dep hdep 5 (by kernel_rfl)) rfl (of_decide_eq_true (by kernel_rfl)))
                  refine ⟨.pointer (some ⟨tb, toff + S * 3, none⟩), ?_, sF_val rfl (of_decide_eq_true (by kernel_rfl))⟩
                  simp [execOp, go_sem, e0]
                case r13_7 =>
                  intro L' vals W2 ρ hI hi hdep hnew hold hc
                  have hlast := hI.ahead hi 14 (by kernel_rfl)
                  have hbw := sb_at hI rfl hlast
                  have e0 : ρ (.tmp 60) = .pointer (some ⟨tb, toff + S * 3, none⟩) := (hnew 6 60 (dep hdep 6 (by kernel_rfl)) (by kernel_rfl) (of_decide_eq_true (by kernel_rfl)) (of_decide_eq_true (by kernel_rfl))).trans (sv_at hI (of_decide_eq_true (by kernel_rfl)) rfl (dep hdep 6 (by kernel_rfl)) rfl (of_decide_eq_true (by kernel_rfl)))
                  have p1 := (bcl hbw (by omega)).trans t0
                  refine ⟨.int .i64 (n : Nat), ?_, sF_val rfl (of_decide_eq_true (by kernel_rfl))⟩
                  simp [execOp, go_sem, e0, p1]
                case r13_8 =>
                  intro L' vals W2 ρ hI hi hdep hnew hold hc
                  have hlast := hI.ahead hi 14 (by kernel_rfl)
                  have hbw := sb_at hI rfl hlast
                  have e0 : ρ (.tmp 54) = .slice (some ⟨g3, 0, none⟩) N N := (hnew 0 54 (dep hdep 0 (by kernel_rfl)) (by kernel_rfl) (of_decide_eq_true (by kernel_rfl)) (of_decide_eq_true (by kernel_rfl))).trans (sv_at hI (of_decide_eq_true (by kernel_rfl)) rfl (dep hdep 0 (by kernel_rfl)) rfl (of_decide_eq_true (by kernel_rfl)))
                  have e1 : ρ (.tmp 61) = .int .i64 (n : Nat) := (hnew 7 61 (dep hdep 7 (by kernel_rfl)) (by kernel_rfl) (of_decide_eq_true (by kernel_rfl)) (of_decide_eq_true (by kernel_rfl))).trans (sv_at hI (of_decide_eq_true (by kernel_rfl)) rfl (dep hdep 7 (by kernel_rfl)) rfl (of_decide_eq_true (by kernel_rfl)))
                  refine ⟨.pointer (some ⟨g3, n, none⟩), ?_, sF_val rfl (of_decide_eq_true (by kernel_rfl))⟩
                  simp [execOp, go_sem, e0, e1, hnN]
                case r13_9 =>
                  intro L' vals W2 ρ hI hi hdep hnew hold hc
                  have hlast := hI.ahead hi 14 (by kernel_rfl)
                  have hbw := sb_at hI rfl hlast
                  have e0 : ρ (.tmp 62) = .pointer (some ⟨g3, n, none⟩) := (hnew 8 62 (dep hdep 8 (by kernel_rfl)) (by kernel_rfl) (of_decide_eq_true (by kernel_rfl)) (of_decide_eq_true (by kernel_rfl))).trans (sv_at hI (of_decide_eq_true (by kernel_rfl)) rfl (dep hdep 8 (by kernel_rfl)) rfl (of_decide_eq_true (by kernel_rfl)))
                  have p1 := (bcl hbw (by omega)).trans q1
                  refine ⟨.int .i64 P, ?_, sF_val rfl (of_decide_eq_true (by kernel_rfl))⟩
                  simp [execOp, go_sem, e0, p1]
                case r13_10 =>
                  intro L' vals W2 ρ hI hi hdep hnew hold hc
                  have hlast := hI.ahead hi 14 (by kernel_rfl)
                  have hbw := sb_at hI rfl hlast
                  have e0 : ρ (.tmp 8) = .pointer (some ⟨bs, 0, none⟩) := (hold 8 (by kernel_rfl)).trans (by kernel_rfl)
                  have p1 := (bcl hbw (by omega)).trans r0
                  have p2 := (bcl hbw (by omega)).trans r1
                  have p3 := (bcl hbw (by omega)).trans r2
                  have p4 := (bcl hbw (by omega)).trans r3
                  have p5 := (bcl hbw (by omega)).trans r4
                  have p6 := (bcl hbw (by omega)).trans r5
                  refine ⟨.agg #[.int .i64 (S : Nat), .slice As mm cs, .int .i64 s.kind, .int .i64 s.size, .int .i64 s.depth, .int .i64 s.fresh], ?_, sF_val rfl (of_decide_eq_true (by kernel_rfl))⟩
                  simp [execOp, go_sem, e0, p1, p2, p3, p4, p5, p6]
                case r13_11 =>
                  intro L' vals W2 ρ hI hi hdep hnew hold hc
                  have hlast := hI.ahead hi 14 (by kernel_rfl)
                  have hbw := sb_at hI rfl hlast
                  have e0 : ρ (.tmp 64) = .agg #[.int .i64 (S : Nat), .slice As mm cs, .int .i64 s.kind, .int .i64 s.size, .int .i64 s.depth, .int .i64 s.fresh] := (hnew 10 64 (dep hdep 10 (by kernel_rfl)) (by kernel_rfl) (of_decide_eq_true (by kernel_rfl)) (of_decide_eq_true (by kernel_rfl))).trans (sv_at hI (of_decide_eq_true (by kernel_rfl)) rfl (dep hdep 10 (by kernel_rfl)) rfl (of_decide_eq_true (by kernel_rfl)))
                  refine ⟨_, by simp [e0], (HTak.out W2).mono ?_⟩
                  rintro e W' ⟨rfl, hb'⟩
                  exact ⟨_, rfl, trivial, sF_val rfl (of_decide_eq_true (by kernel_rfl)), sF_keep hI rfl hlast (hbw.trans (hb'.mono hbw.size))⟩
                case r13_12 =>
                  intro L' vals W2 ρ hI hi hdep hnew hold hc
                  have hlast := hI.ahead hi 14 (by kernel_rfl)
                  have hbw := sb_at hI rfl hlast
                  have e0 : ρ (.tmp 63) = .int .i64 P := (hnew 9 63 (dep hdep 9 (by kernel_rfl)) (by kernel_rfl) (of_decide_eq_true (by kernel_rfl)) (of_decide_eq_true (by kernel_rfl))).trans (sv_at hI (of_decide_eq_true (by kernel_rfl)) rfl (dep hdep 9 (by kernel_rfl)) rfl (of_decide_eq_true (by kernel_rfl)))
                  have e1 : ρ (.tmp 65) = .int .i64 (1 + s.size) := (hnew 11 65 (dep hdep 11 (by kernel_rfl)) (by kernel_rfl) (of_decide_eq_true (by kernel_rfl)) (of_decide_eq_true (by kernel_rfl))).trans (sv_at hI (of_decide_eq_true (by kernel_rfl)) rfl (dep hdep 11 (by kernel_rfl)) rfl (of_decide_eq_true (by kernel_rfl)))
                  refine ⟨.int .i64 (P + (1 + s.size)), ?_, sF_val rfl (of_decide_eq_true (by kernel_rfl))⟩
                  simp [execOp, go_sem, e0, e1, hw3]
                case r13_13 =>
                  intro L' vals W2 ρ hI hi hdep hnew hold hc
                  have hlast := hI.ahead hi 14 (by kernel_rfl)
                  have hbw := sb_at hI rfl hlast
                  have e0 : ρ (.tmp 54) = .slice (some ⟨g3, 0, none⟩) N N := (hnew 0 54 (dep hdep 0 (by kernel_rfl)) (by kernel_rfl) (of_decide_eq_true (by kernel_rfl)) (of_decide_eq_true (by kernel_rfl))).trans (sv_at hI (of_decide_eq_true (by kernel_rfl)) rfl (dep hdep 0 (by kernel_rfl)) rfl (of_decide_eq_true (by kernel_rfl)))
                  have e1 : ρ (.tmp 61) = .int .i64 (n : Nat) := (hnew 7 61 (dep hdep 7 (by kernel_rfl)) (by kernel_rfl) (of_decide_eq_true (by kernel_rfl)) (of_decide_eq_true (by kernel_rfl))).trans (sv_at hI (of_decide_eq_true (by kernel_rfl)) rfl (dep hdep 7 (by kernel_rfl)) rfl (of_decide_eq_true (by kernel_rfl)))
                  refine ⟨.pointer (some ⟨g3, n, none⟩), ?_, sF_val rfl (of_decide_eq_true (by kernel_rfl))⟩
                  simp [execOp, go_sem, e0, e1, hnN]
                case r13_14 =>
                  intro L' vals W2 ρ hI hi hdep hnew hold hc
                  have hlast := hi
                  have hbw := sb_at hI rfl hlast
                  have e0 : ρ (.tmp 67) = .pointer (some ⟨g3, n, none⟩) := (hnew 13 67 (dep hdep 13 (by kernel_rfl)) (by kernel_rfl) (of_decide_eq_true (by kernel_rfl)) (of_decide_eq_true (by kernel_rfl))).trans (sv_at hI (of_decide_eq_true (by kernel_rfl)) rfl (dep hdep 13 (by kernel_rfl)) rfl (of_decide_eq_true (by kernel_rfl)))
                  have e1 : ρ (.tmp 66) = .int .i64 (P + (1 + s.size)) := (hnew 12 66 (dep hdep 12 (by kernel_rfl)) (by kernel_rfl) (of_decide_eq_true (by kernel_rfl)) (of_decide_eq_true (by kernel_rfl))).trans (sv_at hI (of_decide_eq_true (by kernel_rfl)) rfl (dep hdep 12 (by kernel_rfl)) rfl (of_decide_eq_true (by kernel_rfl)))
                  have p2 := (bcl hbw (by omega)).trans q1
                  have p3 := (bfr hbw (by omega)).trans qf
                  refine ⟨undef, W2.setCell ⟨g3, n, none⟩ (.int .i64 (P + (1 + s.size))), .inr ⟨rfl, ?_⟩, trivial, sF_end rfl hbw, sF_last hI rfl⟩
                  simp [execOp, go_sem, e0, e1, p2, p3]
              case r13_fin =>
                intro vals Wf Wf1 hCf hWf hVf
                have v0 := hVf 0 _ rfl
                have v1 := hVf 1 _ rfl
                have v2 := hVf 2 _ rfl
                have v3 := hVf 3 _ rfl
                have v4 := hVf 4 _ rfl
                have v5 := hVf 5 _ rfl
                have v6 := hVf 6 _ rfl
                have v7 := hVf 7 _ rfl
                have v8 := hVf 8 _ rfl
                have v9 := hVf 9 _ rfl
                have v10 := hVf 10 _ rfl
                have v11 := hVf 11 _ rfl
                have v12 := hVf 12 _ rfl
                have v13 := hVf 13 _ rfl
                simp [canon, dstOf, Act.put, v0, v1, v2, v3, v4, v5, v6, v7, v8, v9, v10, v11, v12, v13]
                have hb77 : Below W7.heap.size W7 Wf1 := (below_drewN (Below.refl _ _) 1 : Below _ W7 W7.drew).trans hCf
                have hL8 := HL7.out.below hb77
                have hL9 : LdS w Wf d a N g1 g2 g3 k (j + 1) := by
                  rw [hWf]
                  refine ⟨hL8.bel.setCell (p := ⟨g3, n, none⟩) (by show w.heap.size ≤ g3; have := hL8.lo; omega) _, hL8.dm.on (setCell_other (by have := hL8.lo; omega)), hL8.m.on (setCell_other hL8.ne.2.1), hL8.s.on (setCell_other hL8.ne.2.2), ?_, hL8.lo, hL8.ne⟩
                  rw [← HN3.out]
                  exact hL8.p.put n _
                have HL9 := hide hL9
                clear v0 v1 v2 v3 v4 v5 v6 v7 v8 v9 v10 v11 v12 v13 hVf hb77 hL8 hL9 hCf hWf
                go_wp2_with fail
                go_roundw
                case rel => exact ⟨j + 1, hjt, by go_num, HL9.out⟩
                case measure => simp [intOf]; omega
            · obtain rfl : j = R := by omega
              have HL := hide hL
              clear hL
              go_wp2_with fail
              have hL := HL.out
              have hi64 : ∀ {α : Type} (f : Int → α → Int) (l : List α) (q : Nat), (∀ m : Nat, m < N → 0 ≤ sumI (f (m : Int)) (l.take q) ∧ sumI (f (m : Int)) (l.take q) ≤ 25600) → ∀ z ∈ tblTo N f l q, I64 z := fun f l q hh z hz => by
                obtain ⟨m, hm, rfl⟩ := List.mem_map.1 hz
                have := hh m (List.mem_range.1 hm)
                unfold I64; omega
              have hT100 : d.tasks.length ≤ 100 := by rw [← HT.out]; omega
              have hR100 : d.streams.length ≤ 100 := by rw [← HR.out]; omega
              refine bodyPost_ret (v := .tuple #[.slice (some ⟨g1, 0, none⟩) N N, .slice (some ⟨g2, 0, none⟩) N N, .slice (some ⟨g3, 0, none⟩) N N]) ?_ rfl ⟨hL.bel, N, HOk.out, _, _, _, rfl, ?_, ?_, ?_⟩
              · simp [results, Tryd.results8, go_sem]
              · exact hL.m.ints (hi64 _ _ _ fun m hm => ⟨sumI_nonneg fun t ht => HOk.out.memOf0 _ t (List.mem_of_mem_take ht), sum_small (B := 256) (fun t ht => by have := (HOk.out.tk t ht).2.1.2; unfold memOf; split <;> omega) (by omega) hT100 _⟩)
              · exact hL.s.ints (hi64 _ _ _ fun m hm => ⟨sumI_nonneg fun t ht => HOk.out.shareOf0 _ t (List.mem_of_mem_take ht), Int.le_trans (sum_small (B := 16) (fun t ht => by have := (HOk.out.tk t ht).2.2.2; have := HNn.out; unfold shareOf; split <;> omega) (by omega) hT100 _) (by omega)⟩)
              · exact hL.p.ints (hi64 _ _ _ fun m hm => ⟨sumI_nonneg fun s hs => HOk.out.loadOf0 _ s (List.mem_of_mem_take hs), Int.le_trans (sum_small (B := 33) (fun s hs => by have := (HOk.out.sm s hs).2.2.1.2; unfold loadOf; split <;> omega) (by omega) hR100 _) (by omega)⟩)
end Go.Proofs.YtdennekkbdlhdaaDoor
