/-
  The walk of ConfigChecks.
-/
import Derived.Test.YtbodpnggkihllaaDoorRckI
import Derived.Test.YtbodpnggkihllaaDoorRckJ
import Derived.Test.YtbodpnggkihllaaDoorTwD
import Derived.Test.YtbodpnggkihllaaDoorCfgGreat
import Derived.Test.YtbodpnggkihllaaDoorTurns
namespace Go.Proofs.YtbodpnggkihllaaDoor
open Go.RowKit Go.Deep
set_option linter.unusedVariables false
set_option linter.unusedSimpArgs false

theorem precision_all (c : Conf) (d : Ad) (w : World) :
    Calls Tryd.prog 10 #[c.val d] w fun e w' => e = .returned (.int .i64 (precision c)) ∧ Below w.heap.size w w' := by
  unfold Conf.val
  go_enter Tryd.func10, Tryd.ntmps10
  go_wp2
  go_ret
  exact ⟨rfl, (Below.refl _ _).alloc (Nat.le_refl _) _⟩
theorem ix_first : ∀ (l : List Int) (n : Int), ixF l n = firstAt l n
  | [], n => rfl
  | x :: l, n => by
    have ih := ix_first l n
    unfold ixF
    rw [ih]
    unfold firstAt
    rw [List.findIdx?_cons]
    by_cases h : x = n
    · have hb : (x == n) = true := by simpa using h
      rw [if_pos h, hb]
      rfl
    · have hb : (x == n) = false := by simpa using h
      rw [if_neg h, hb]
      cases l.findIdx? (· == n) with
      | none => simp
      | some i =>
        show (if ((i : Nat) : Int) < 0 then (-1 : Int) else (i : Int) + 1) = ((i + 1 : Nat) : Int)
        rw [if_neg (by omega)]
        omega

/-- the configuration, and another one that is alike in memory of its own -/
structure ChS (w W : World) (c : Conf) (B : Nat) (d e : Ad) : Prop where
  bel : Below w.heap.size w W
  x : Boxed W w.heap.size c d
  g : Glo W
  cf : ConfAt W c d
  y : Boxed W B c e
  cy : ConfAt W c e
theorem ChS.below {w W W' : World} {c : Conf} {B : Nat} {d e : Ad} (h : ChS w W c B d e) (hb : Below W.heap.size W W') : ChS w W' c B d e :=
  ⟨h.bel.trans (hb.mono h.bel.size), h.x.below hb (Nat.le_refl _), h.g.below hb (Nat.le_refl _), h.cf.of_below hb (Nat.le_refl _), h.y.below hb (Nat.le_refl _), h.cy.of_below hb (Nat.le_refl _)⟩

set_option maxRecDepth 100000 in
set_option maxHeartbeats 8000000 in
theorem checks_walk (c : Conf) (d : Ad) (slot node : Int) (w : World) (hg : Glo w) (h : ConfAt w c d) (hB : Borne c) (hSm : great c = false → Small c) (hDs : great c = false → ∀ k, k < c.links.length → (c.links.getD k default).dests.length ≤ 1000) :
    Calls Tryd.prog 3 #[c.val d, .int .i64 slot, .int .i64 node] w fun e w' => e = .returned (.bool true) ∧ Below w.heap.size w w' := by
  have hS := CfS.first 28 hg h
  have HGr := hide (fun W (H : CfS w W c d) => great_any c d W H.cf hB)
  clear hB
  cases hgr : great c with
  | true =>
    rw [hgr] at HGr
    clear hSm hDs hg h hgr
    obtain ⟨oA, oC, pA, pC, wA, wC, qA, qC, lA, lC⟩ := d
    obtain ⟨nodes, owners, drift, reading, margin, bound, rejoin, quota, parts, windows, ports, links⟩ := c
    unfold Conf.val at HGr ⊢
    unfold Conf.cells at hS
    dsimp only at hS HGr ⊢
    obtain ⟨hb, ⟨hl, e0, e1, e2, e3, e4, e5, e6, e7, e8, e9, e10, e11⟩, hg, hc⟩ := id hS
    dsimp only at e0 e1 e2 e3 e4 e5 e6 e7 e8 e9 e10 e11
    have HS := hide hS
    clear hS hg hc
    go_enter Tryd.func3, Tryd.ntmps3
    go_wp2_with (go_at_call 6; refine (HGr.out _ HS.out).mono ?_; rintro e w1 ⟨rfl, hb1⟩; have HT := hide (HS.out.below hb1); clear hb1)
    go_ret
    exact ⟨rfl, HT.out.bel⟩
  | false =>
    rw [hgr] at HGr
    have HTw := hide (fun W (H : CfS w W c d) => twin_any c d W H.cf (hSm hgr))
    have hds := hDs hgr
    have HC1 := hide (fun B e W (H : ChS w W c B d e) => check_any c e W H.g H.cy)
    have HC3 := hide (fun B e W (H : ChS w W c B d e) => rcheck_any c d W H.g H.cf hds)
    have HC7 := hide (fun B e W (H : ChS w W c B d e) => precision_all c e W)
    have HC9 := hide (fun B e W (H : ChS w W c B d e) => rprecision_any c d W H.cf)
    have HC15 := hide (fun B e W (H : ChS w W c B d e) => owner_any c e slot W H.cy)
    have HC18 := hide (fun B e W (H : ChS w W c B d e) => rowner_any c d slot W H.cf)
    have HC24 := hide (fun B e W (H : ChS w W c B d e) => turn_any c e node W H.cy (Nat.le_trans H.cy.oLen.1 H.cy.oLen.2))
    have HC27 := hide (fun B e W (H : ChS w W c B d e) => rturn_any c d node W H.cf)
    have HC33 := hide (fun B e W (H : ChS w W c B d e) => rsame_true c e d W H.cy H.cf)
    have HOW : Hid (ownerOf c slot = ownF c slot) := rfl
    rw [HOW.out] at HC18
    rw [ix_first] at HC24
    clear hSm hDs hg h hgr hds HOW
    generalize checkF c = v1 at HC1 HC3
    generalize precision c = v2 at HC7 HC9
    generalize ownF c slot = v3 at HC15 HC18
    generalize firstAt c.owners node = v4 at HC24 HC27
    obtain ⟨oA, oC, pA, pC, wA, wC, qA, qC, lA, lC⟩ := d
    obtain ⟨nodes, owners, drift, reading, margin, bound, rejoin, quota, parts, windows, ports, links⟩ := c
    unfold Conf.val at HGr HTw HC1 HC3 HC7 HC9 HC15 HC18 HC24 HC27 HC33 ⊢
    unfold Conf.cells at hS
    dsimp only at hS HGr HTw HC1 HC3 HC7 HC9 HC15 HC18 HC24 HC27 HC33 ⊢
    obtain ⟨hb, ⟨hl, e0, e1, e2, e3, e4, e5, e6, e7, e8, e9, e10, e11⟩, hg, hc⟩ := id hS
    dsimp only at e0 e1 e2 e3 e4 e5 e6 e7 e8 e9 e10 e11
    have HS := hide hS
    clear hS hg hc hb
    go_enter Tryd.func3, Tryd.ntmps3
    go_upto_region 3 with (go_at_call 6; refine (HGr.out _ HS.out).mono ?_; rintro e w1 ⟨rfl, hb1⟩; have HT := hide (HS.out.below hb1); clear hb1 hl e0 e1 e2 e3 e4 e5 e6 e7 e8 e9 e10 e11; obtain ⟨_, ⟨hl, e0, e1, e2, e3, e4, e5, e6, e7, e8, e9, e10, e11⟩, _, _⟩ := HT.out; dsimp only at e0 e1 e2 e3 e4 e5 e6 e7 e8 e9 e10 e11)
    go_upto_region 4 with (go_at_call 7; refine (HTw.out _ HT.out).mono ?_; intro e w4 hp; obtain ⟨⟨⟨oB, oF, pB, pF, wB, wF, qB, qF, lB, lF⟩, b0, b1, b2, gO, gP, gQ, vs, xs, rfl, hT, hlow, h01⟩, hb4⟩ := hp; have HT4 := hide (HT.out.below hb4); have hcy := Twn.conf hT; have HCY := hide hcy; unfold Conf.val; dsimp only; clear hT hlow h01 hb4 hcy hl e0 e1 e2 e3 e4 e5 e6 e7 e8 e9 e10 e11; obtain ⟨_, ⟨hl, e0, e1, e2, e3, e4, e5, e6, e7, e8, e9, e10, e11⟩, _, _⟩ := HT4.out; dsimp only at e0 e1 e2 e3 e4 e5 e6 e7 e8 e9 e10 e11)
    have ha := (Below.refl w4.heap.size w4).alloc (Nat.le_refl _) (.cells #[.int .i64 nodes, .slice oB owners.length oF, .int .i64 drift, .int .i64 reading, .int .i64 margin, .int .i64 bound, .int .i64 rejoin, .int .i64 quota, .slice pB parts.length pF, .slice wB windows.length wF, .slice qB ports.length qF, .slice lB links.length lF] 28)
    have hd := (Below.refl (w4.alloc (.cells #[.int .i64 nodes, .slice oB owners.length oF, .int .i64 drift, .int .i64 reading, .int .i64 margin, .int .i64 bound, .int .i64 rejoin, .int .i64 quota, .slice pB parts.length pF, .slice wB windows.length wF, .slice qB ports.length qF, .slice lB links.length lF] 28)).heap.size (w4.alloc (.cells #[.int .i64 nodes, .slice oB owners.length oF, .int .i64 drift, .int .i64 reading, .int .i64 margin, .int .i64 bound, .int .i64 rejoin, .int .i64 quota, .slice pB parts.length pF, .slice wB windows.length wF, .slice qB ports.length qF, .slice lB links.length lF] 28))).drew
    have HT0 : Hid (ChS w (w4.alloc (.cells #[.int .i64 nodes, .slice oB owners.length oF, .int .i64 drift, .int .i64 reading, .int .i64 margin, .int .i64 bound, .int .i64 rejoin, .int .i64 quota, .slice pB parts.length pF, .slice wB windows.length wF, .slice qB ports.length qF, .slice lB links.length lF] 28)).drew ⟨nodes, owners, drift, reading, margin, bound, rejoin, quota, parts, windows, ports, links⟩ w4.heap.size ⟨oA, oC, pA, pC, wA, wC, qA, qC, lA, lC⟩ ⟨oB, oF, pB, pF, wB, wF, qB, qF, lB, lF⟩) := by
      have h1 := HT4.out.below ha
      exact ChS.below ⟨h1.bel, h1.x, h1.g, h1.cf, boxed_new w4 ⟨nodes, owners, drift, reading, margin, bound, rejoin, quota, parts, windows, ports, links⟩ ⟨oB, oF, pB, pF, wB, wF, qB, qF, lB, lF⟩ 28, HCY.out.of_below ha (Nat.le_refl _)⟩ hd
    clear ha hd HT4 HCY HT HS HGr HTw hl e0 e1 e2 e3 e4 e5 e6 e7 e8 e9 e10 e11
    generalize w4.heap.size = B at HT0 ⊢
    replace HC1 := hide (HC1.out B ⟨oB, oF, pB, pF, wB, wF, qB, qF, lB, lF⟩)
    replace HC3 := hide (HC3.out B ⟨oB, oF, pB, pF, wB, wF, qB, qF, lB, lF⟩)
    replace HC7 := hide (HC7.out B ⟨oB, oF, pB, pF, wB, wF, qB, qF, lB, lF⟩)
    replace HC9 := hide (HC9.out B ⟨oB, oF, pB, pF, wB, wF, qB, qF, lB, lF⟩)
    replace HC15 := hide (HC15.out B ⟨oB, oF, pB, pF, wB, wF, qB, qF, lB, lF⟩)
    replace HC18 := hide (HC18.out B ⟨oB, oF, pB, pF, wB, wF, qB, qF, lB, lF⟩)
    replace HC24 := hide (HC24.out B ⟨oB, oF, pB, pF, wB, wF, qB, qF, lB, lF⟩)
    replace HC27 := hide (HC27.out B ⟨oB, oF, pB, pF, wB, wF, qB, qF, lB, lF⟩)
    replace HC33 := hide (HC33.out B ⟨oB, oF, pB, pF, wB, wF, qB, qF, lB, lF⟩)
    dsimp only at HC1 HC3 HC7 HC9 HC15 HC18 HC24 HC27 HC33
    obtain ⟨_, ⟨hl, e0, e1, e2, e3, e4, e5, e6, e7, e8, e9, e10, e11⟩, _, _, ⟨hm, g0, g1, g2, g3, g4, g5, g6, g7, g8, g9, g10, g11⟩, _⟩ := HT0.out
    dsimp only at e0 e1 e2 e3 e4 e5 e6 e7 e8 e9 e10 e11 g0 g1 g2 g3 g4 g5 g6 g7 g8 g9 g10 g11
    refine wp_region_held_drew (S := fun w' => w'.cell? ⟨w.heap.size, 0, none⟩ = some (.int .i64 nodes) ∧ w'.cell? ⟨w.heap.size, 1, none⟩ = some (.slice oA owners.length oC) ∧ w'.cell? ⟨w.heap.size, 2, none⟩ = some (.int .i64 drift) ∧ w'.cell? ⟨w.heap.size, 3, none⟩ = some (.int .i64 reading) ∧ w'.cell? ⟨w.heap.size, 4, none⟩ = some (.int .i64 margin) ∧ w'.cell? ⟨w.heap.size, 5, none⟩ = some (.int .i64 bound) ∧ w'.cell? ⟨w.heap.size, 6, none⟩ = some (.int .i64 rejoin) ∧ w'.cell? ⟨w.heap.size, 7, none⟩ = some (.int .i64 quota) ∧ w'.cell? ⟨w.heap.size, 8, none⟩ = some (.slice pA parts.length pC) ∧ w'.cell? ⟨w.heap.size, 9, none⟩ = some (.slice wA windows.length wC) ∧ w'.cell? ⟨w.heap.size, 10, none⟩ = some (.slice qA ports.length qC) ∧ w'.cell? ⟨w.heap.size, 11, none⟩ = some (.slice lA links.length lC) ∧ w'.cell? ⟨B, 0, none⟩ = some (.int .i64 nodes) ∧ w'.cell? ⟨B, 1, none⟩ = some (.slice oB owners.length oF) ∧ w'.cell? ⟨B, 2, none⟩ = some (.int .i64 drift) ∧ w'.cell? ⟨B, 3, none⟩ = some (.int .i64 reading) ∧ w'.cell? ⟨B, 4, none⟩ = some (.int .i64 margin) ∧ w'.cell? ⟨B, 5, none⟩ = some (.int .i64 bound) ∧ w'.cell? ⟨B, 6, none⟩ = some (.int .i64 rejoin) ∧ w'.cell? ⟨B, 7, none⟩ = some (.int .i64 quota) ∧ w'.cell? ⟨B, 8, none⟩ = some (.slice pB parts.length pF) ∧ w'.cell? ⟨B, 9, none⟩ = some (.slice wB windows.length wF) ∧ w'.cell? ⟨B, 10, none⟩ = some (.slice qB ports.length qF) ∧ w'.cell? ⟨B, 11, none⟩ = some (.slice lB links.length lF)) (by kernel_rfl) (⟨e0, e1, e2, e3, e4, e5, e6, e7, e8, e9, e10, e11, g0, g1, g2, g3, g4, g5, g6, g7, g8, g9, g10, g11⟩) (fun hHeld => ?_)
    refine wpAnyH_take (i := 0) (v := ?v0) rfl (by kernel_rfl) (by kernel_rfl) (by kernel_rfl) (fun _ _ _ h => h) (Or.inl ⟨by kernel_rfl, ?y0⟩) (by assumption) ?r0
    case y0 => (intro W hSW; (try dsimp only at hSW); go_simp; (try with_reducible rfl))
    change wpAnyH _ _ _ _ _ _ _ (Act.put _ (some 12) _) _
    (try simp only [Act.put, List.setIfInBounds_toArray, List.set_cons_zero, List.set_cons_succ])
    refine wpAnyH_take (i := 2) (v := ?v2) rfl (by kernel_rfl) (by kernel_rfl) (by kernel_rfl) (fun _ _ _ h => h) (Or.inl ⟨by kernel_rfl, ?y2⟩) (by assumption) ?r2
    case y2 => (intro W hSW; (try dsimp only at hSW); go_simp; (try with_reducible rfl))
    change wpAnyH _ _ _ _ _ _ _ (Act.put _ (some 14) _) _
    (try simp only [Act.put, List.setIfInBounds_toArray, List.set_cons_zero, List.set_cons_succ])
    refine wpAnyH_ready (rs := [1]) (by kernel_rfl) (by simp) ?_
    refine AllReadyH.cons rfl (fun K hK => ?_) AllReadyH.nil
    rw [if_pos (by rfl)]
    go_simp
    refine (HC1.out _ HT0.out).mono ?_
    rintro e w1 ⟨rfl, hb1⟩
    have HT1 := hide (HT0.out.below hb1)
    clear hb1 hHeld e0 e1 e2 e3 e4 e5 e6 e7 e8 e9 e10 e11 g0 g1 g2 g3 g4 g5 g6 g7 g8 g9 g10 g11 hl hm
    obtain ⟨_, ⟨hl, e0, e1, e2, e3, e4, e5, e6, e7, e8, e9, e10, e11⟩, _, _, ⟨hm, g0, g1, g2, g3, g4, g5, g6, g7, g8, g9, g10, g11⟩, _⟩ := HT1.out
    dsimp only at e0 e1 e2 e3 e4 e5 e6 e7 e8 e9 e10 e11 g0 g1 g2 g3 g4 g5 g6 g7 g8 g9 g10 g11
    refine hK.out _ _ (⟨e0, e1, e2, e3, e4, e5, e6, e7, e8, e9, e10, e11, g0, g1, g2, g3, g4, g5, g6, g7, g8, g9, g10, g11⟩) (fun hHeld => ?_)
    clear hK K
    (try simp only [Act.put, List.setIfInBounds_toArray, List.set_cons_zero, List.set_cons_succ])
    refine wpAnyH_ready (rs := [3]) (by kernel_rfl) (by simp) ?_
    refine AllReadyH.cons rfl (fun K hK => ?_) AllReadyH.nil
    rw [if_pos (by rfl)]
    go_simp
    refine (HC3.out _ HT1.out).mono ?_
    rintro e w1 ⟨rfl, hb1⟩
    have HT2 := hide (HT1.out.below hb1)
    clear hb1 hHeld e0 e1 e2 e3 e4 e5 e6 e7 e8 e9 e10 e11 g0 g1 g2 g3 g4 g5 g6 g7 g8 g9 g10 g11 hl hm
    obtain ⟨_, ⟨hl, e0, e1, e2, e3, e4, e5, e6, e7, e8, e9, e10, e11⟩, _, _, ⟨hm, g0, g1, g2, g3, g4, g5, g6, g7, g8, g9, g10, g11⟩, _⟩ := HT2.out
    dsimp only at e0 e1 e2 e3 e4 e5 e6 e7 e8 e9 e10 e11 g0 g1 g2 g3 g4 g5 g6 g7 g8 g9 g10 g11
    refine hK.out _ _ (⟨e0, e1, e2, e3, e4, e5, e6, e7, e8, e9, e10, e11, g0, g1, g2, g3, g4, g5, g6, g7, g8, g9, g10, g11⟩) (fun hHeld => ?_)
    clear hK K
    (try simp only [Act.put, List.setIfInBounds_toArray, List.set_cons_zero, List.set_cons_succ])
    refine wpAnyH_take (i := 4) (v := ?v4) rfl (by kernel_rfl) (by kernel_rfl) (by kernel_rfl) (fun _ _ _ h => h) (Or.inl ⟨by kernel_rfl, ?y4⟩) (by assumption) ?r4
    case y4 => (intro W hSW; (try dsimp only at hSW); go_simp; (try with_reducible rfl))
    change wpAnyH _ _ _ _ _ _ _ (Act.put _ (some 16) _) _
    (try simp only [Act.put, List.setIfInBounds_toArray, List.set_cons_zero, List.set_cons_succ])
    refine wpAnyH_take (i := 5) (v := ?v5) rfl (by kernel_rfl) (by kernel_rfl) (by kernel_rfl) (fun _ _ _ h => h) (Or.inl ⟨by kernel_rfl, ?y5⟩) (by assumption) ?r5
    case y5 => (intro W hSW; (try dsimp only at hSW); go_simp; (try with_reducible rfl))
    change wpAnyH _ _ _ _ _ _ _ (Act.put _ (some 17) _) _
    (try simp only [Act.put, List.setIfInBounds_toArray, List.set_cons_zero, List.set_cons_succ])
    refine wpAnyH_take (i := 6) (v := ?v6) rfl (by kernel_rfl) (by kernel_rfl) (by kernel_rfl) (fun _ _ _ h => h) (Or.inl ⟨by kernel_rfl, ?y6⟩) (by assumption) ?r6
    case y6 => (intro W hSW; (try dsimp only at hSW); go_simp; (try with_reducible rfl))
    change wpAnyH _ _ _ _ _ _ _ (Act.put _ (some 18) _) _
    (try simp only [Act.put, List.setIfInBounds_toArray, List.set_cons_zero, List.set_cons_succ])
    refine wpAnyH_take (i := 8) (v := ?v8) rfl (by kernel_rfl) (by kernel_rfl) (by kernel_rfl) (fun _ _ _ h => h) (Or.inl ⟨by kernel_rfl, ?y8⟩) (by assumption) ?r8
    case y8 => (intro W hSW; (try dsimp only at hSW); go_simp; (try with_reducible rfl))
    change wpAnyH _ _ _ _ _ _ _ (Act.put _ (some 20) _) _
    (try simp only [Act.put, List.setIfInBounds_toArray, List.set_cons_zero, List.set_cons_succ])
    refine wpAnyH_ready (rs := [7]) (by kernel_rfl) (by simp) ?_
    refine AllReadyH.cons rfl (fun K hK => ?_) AllReadyH.nil
    rw [if_pos (by rfl)]
    go_simp
    refine (HC7.out _ HT2.out).mono ?_
    rintro e w1 ⟨rfl, hb1⟩
    have HT3 := hide (HT2.out.below hb1)
    clear hb1 hHeld e0 e1 e2 e3 e4 e5 e6 e7 e8 e9 e10 e11 g0 g1 g2 g3 g4 g5 g6 g7 g8 g9 g10 g11 hl hm
    obtain ⟨_, ⟨hl, e0, e1, e2, e3, e4, e5, e6, e7, e8, e9, e10, e11⟩, _, _, ⟨hm, g0, g1, g2, g3, g4, g5, g6, g7, g8, g9, g10, g11⟩, _⟩ := HT3.out
    dsimp only at e0 e1 e2 e3 e4 e5 e6 e7 e8 e9 e10 e11 g0 g1 g2 g3 g4 g5 g6 g7 g8 g9 g10 g11
    refine hK.out _ _ (⟨e0, e1, e2, e3, e4, e5, e6, e7, e8, e9, e10, e11, g0, g1, g2, g3, g4, g5, g6, g7, g8, g9, g10, g11⟩) (fun hHeld => ?_)
    clear hK K
    (try simp only [Act.put, List.setIfInBounds_toArray, List.set_cons_zero, List.set_cons_succ])
    refine wpAnyH_ready (rs := [9]) (by kernel_rfl) (by simp) ?_
    refine AllReadyH.cons rfl (fun K hK => ?_) AllReadyH.nil
    rw [if_pos (by rfl)]
    go_simp
    refine (HC9.out _ HT3.out).mono ?_
    rintro e w1 ⟨rfl, hb1⟩
    have HT4 := hide (HT3.out.below hb1)
    clear hb1 hHeld e0 e1 e2 e3 e4 e5 e6 e7 e8 e9 e10 e11 g0 g1 g2 g3 g4 g5 g6 g7 g8 g9 g10 g11 hl hm
    obtain ⟨_, ⟨hl, e0, e1, e2, e3, e4, e5, e6, e7, e8, e9, e10, e11⟩, _, _, ⟨hm, g0, g1, g2, g3, g4, g5, g6, g7, g8, g9, g10, g11⟩, _⟩ := HT4.out
    dsimp only at e0 e1 e2 e3 e4 e5 e6 e7 e8 e9 e10 e11 g0 g1 g2 g3 g4 g5 g6 g7 g8 g9 g10 g11
    refine hK.out _ _ (⟨e0, e1, e2, e3, e4, e5, e6, e7, e8, e9, e10, e11, g0, g1, g2, g3, g4, g5, g6, g7, g8, g9, g10, g11⟩) (fun hHeld => ?_)
    clear hK K
    (try simp only [Act.put, List.setIfInBounds_toArray, List.set_cons_zero, List.set_cons_succ])
    refine wpAnyH_take (i := 10) (v := ?v10) rfl (by kernel_rfl) (by kernel_rfl) (by kernel_rfl) (fun _ _ _ h => h) (Or.inl ⟨by kernel_rfl, ?y10⟩) (by assumption) ?r10
    case y10 => (intro W hSW; (try dsimp only at hSW); go_simp; (try with_reducible rfl))
    change wpAnyH _ _ _ _ _ _ _ (Act.put _ (some 22) _) _
    (try simp only [Act.put, List.setIfInBounds_toArray, List.set_cons_zero, List.set_cons_succ])
    refine wpAnyH_take (i := 11) (v := ?v11) rfl (by kernel_rfl) (by kernel_rfl) (by kernel_rfl) (fun _ _ _ h => h) (Or.inl ⟨by kernel_rfl, ?y11⟩) (by assumption) ?r11
    case y11 => (intro W hSW; (try dsimp only at hSW); go_simp; (try with_reducible rfl))
    change wpAnyH _ _ _ _ _ _ _ (Act.put _ (some 23) _) _
    (try simp only [Act.put, List.setIfInBounds_toArray, List.set_cons_zero, List.set_cons_succ])
    refine wpAnyH_take (i := 12) (v := ?v12) rfl (by kernel_rfl) (by kernel_rfl) (by kernel_rfl) (fun _ _ _ h => h) (Or.inl ⟨by kernel_rfl, ?y12⟩) (by assumption) ?r12
    case y12 => (intro W hSW; (try dsimp only at hSW); go_simp; (try with_reducible rfl))
    change wpAnyH _ _ _ _ _ _ _ (Act.put _ (some 24) _) _
    (try simp only [Act.put, List.setIfInBounds_toArray, List.set_cons_zero, List.set_cons_succ])
    refine wpAnyH_take (i := 13) (v := ?v13) rfl (by kernel_rfl) (by kernel_rfl) (by kernel_rfl) (fun _ _ _ h => h) (Or.inl ⟨by kernel_rfl, ?y13⟩) (by assumption) ?r13
    case y13 => (intro W hSW; (try dsimp only at hSW); go_simp; (try with_reducible rfl))
    change wpAnyH _ _ _ _ _ _ _ (Act.put _ (some 25) _) _
    (try simp only [Act.put, List.setIfInBounds_toArray, List.set_cons_zero, List.set_cons_succ])
    refine wpAnyH_take (i := 14) (v := ?v14) rfl (by kernel_rfl) (by kernel_rfl) (by kernel_rfl) (fun _ _ _ h => h) (Or.inl ⟨by kernel_rfl, ?y14⟩) (by assumption) ?r14
    case y14 => (intro W hSW; (try dsimp only at hSW); go_simp; (try with_reducible rfl))
    change wpAnyH _ _ _ _ _ _ _ (Act.put _ (some 26) _) _
    (try simp only [Act.put, List.setIfInBounds_toArray, List.set_cons_zero, List.set_cons_succ])
    refine wpAnyH_take (i := 16) (v := ?v16) rfl (by kernel_rfl) (by kernel_rfl) (by kernel_rfl) (fun _ _ _ h => h) (Or.inl ⟨by kernel_rfl, ?y16⟩) (by assumption) ?r16
    case y16 => (intro W hSW; (try dsimp only at hSW); go_simp; (try with_reducible rfl))
    change wpAnyH _ _ _ _ _ _ _ (Act.put _ (some 28) _) _
    (try simp only [Act.put, List.setIfInBounds_toArray, List.set_cons_zero, List.set_cons_succ])
    refine wpAnyH_take (i := 17) (v := ?v17) rfl (by kernel_rfl) (by kernel_rfl) (by kernel_rfl) (fun _ _ _ h => h) (Or.inl ⟨by kernel_rfl, ?y17⟩) (by assumption) ?r17
    case y17 => (intro W hSW; (try dsimp only at hSW); go_simp; (try with_reducible rfl))
    change wpAnyH _ _ _ _ _ _ _ (Act.put _ (some 29) _) _
    (try simp only [Act.put, List.setIfInBounds_toArray, List.set_cons_zero, List.set_cons_succ])
    refine wpAnyH_ready (rs := [15]) (by kernel_rfl) (by simp) ?_
    refine AllReadyH.cons rfl (fun K hK => ?_) AllReadyH.nil
    rw [if_pos (by rfl)]
    go_simp
    refine (HC15.out _ HT4.out).mono ?_
    rintro e w1 ⟨rfl, hb1⟩
    have HT5 := hide (HT4.out.below hb1)
    clear hb1 hHeld e0 e1 e2 e3 e4 e5 e6 e7 e8 e9 e10 e11 g0 g1 g2 g3 g4 g5 g6 g7 g8 g9 g10 g11 hl hm
    obtain ⟨_, ⟨hl, e0, e1, e2, e3, e4, e5, e6, e7, e8, e9, e10, e11⟩, _, _, ⟨hm, g0, g1, g2, g3, g4, g5, g6, g7, g8, g9, g10, g11⟩, _⟩ := HT5.out
    dsimp only at e0 e1 e2 e3 e4 e5 e6 e7 e8 e9 e10 e11 g0 g1 g2 g3 g4 g5 g6 g7 g8 g9 g10 g11
    refine hK.out _ _ (⟨e0, e1, e2, e3, e4, e5, e6, e7, e8, e9, e10, e11, g0, g1, g2, g3, g4, g5, g6, g7, g8, g9, g10, g11⟩) (fun hHeld => ?_)
    clear hK K
    (try simp only [Act.put, List.setIfInBounds_toArray, List.set_cons_zero, List.set_cons_succ])
    refine wpAnyH_ready (rs := [18]) (by kernel_rfl) (by simp) ?_
    refine AllReadyH.cons rfl (fun K hK => ?_) AllReadyH.nil
    rw [if_pos (by rfl)]
    go_simp
    refine (HC18.out _ HT5.out).mono ?_
    rintro e w1 ⟨rfl, hb1⟩
    have HT6 := hide (HT5.out.below hb1)
    clear hb1 hHeld e0 e1 e2 e3 e4 e5 e6 e7 e8 e9 e10 e11 g0 g1 g2 g3 g4 g5 g6 g7 g8 g9 g10 g11 hl hm
    obtain ⟨_, ⟨hl, e0, e1, e2, e3, e4, e5, e6, e7, e8, e9, e10, e11⟩, _, _, ⟨hm, g0, g1, g2, g3, g4, g5, g6, g7, g8, g9, g10, g11⟩, _⟩ := HT6.out
    dsimp only at e0 e1 e2 e3 e4 e5 e6 e7 e8 e9 e10 e11 g0 g1 g2 g3 g4 g5 g6 g7 g8 g9 g10 g11
    refine hK.out _ _ (⟨e0, e1, e2, e3, e4, e5, e6, e7, e8, e9, e10, e11, g0, g1, g2, g3, g4, g5, g6, g7, g8, g9, g10, g11⟩) (fun hHeld => ?_)
    clear hK K
    (try simp only [Act.put, List.setIfInBounds_toArray, List.set_cons_zero, List.set_cons_succ])
    refine wpAnyH_take (i := 19) (v := ?v19) rfl (by kernel_rfl) (by kernel_rfl) (by kernel_rfl) (fun _ _ _ h => h) (Or.inl ⟨by kernel_rfl, ?y19⟩) (by assumption) ?r19
    case y19 => (intro W hSW; (try dsimp only at hSW); go_simp; (try with_reducible rfl))
    change wpAnyH _ _ _ _ _ _ _ (Act.put _ (some 31) _) _
    (try simp only [Act.put, List.setIfInBounds_toArray, List.set_cons_zero, List.set_cons_succ])
    refine wpAnyH_take (i := 20) (v := ?v20) rfl (by kernel_rfl) (by kernel_rfl) (by kernel_rfl) (fun _ _ _ h => h) (Or.inl ⟨by kernel_rfl, ?y20⟩) (by assumption) ?r20
    case y20 => (intro W hSW; (try dsimp only at hSW); go_simp; (try with_reducible rfl))
    change wpAnyH _ _ _ _ _ _ _ (Act.put _ (some 32) _) _
    (try simp only [Act.put, List.setIfInBounds_toArray, List.set_cons_zero, List.set_cons_succ])
    refine wpAnyH_take (i := 21) (v := ?v21) rfl (by kernel_rfl) (by kernel_rfl) (by kernel_rfl) (fun _ _ _ h => h) (Or.inl ⟨by kernel_rfl, ?y21⟩) (by assumption) ?r21
    case y21 => (intro W hSW; (try dsimp only at hSW); go_simp; (try with_reducible rfl))
    change wpAnyH _ _ _ _ _ _ _ (Act.put _ (some 33) _) _
    (try simp only [Act.put, List.setIfInBounds_toArray, List.set_cons_zero, List.set_cons_succ])
    refine wpAnyH_take (i := 22) (v := ?v22) rfl (by kernel_rfl) (by kernel_rfl) (by kernel_rfl) (fun _ _ _ h => h) (Or.inl ⟨by kernel_rfl, ?y22⟩) (by assumption) ?r22
    case y22 => (intro W hSW; (try dsimp only at hSW); go_simp; (try with_reducible rfl))
    change wpAnyH _ _ _ _ _ _ _ (Act.put _ (some 34) _) _
    (try simp only [Act.put, List.setIfInBounds_toArray, List.set_cons_zero, List.set_cons_succ])
    refine wpAnyH_take (i := 23) (v := ?v23) rfl (by kernel_rfl) (by kernel_rfl) (by kernel_rfl) (fun _ _ _ h => h) (Or.inl ⟨by kernel_rfl, ?y23⟩) (by assumption) ?r23
    case y23 => (intro W hSW; (try dsimp only at hSW); go_simp; (try with_reducible rfl))
    change wpAnyH _ _ _ _ _ _ _ (Act.put _ (some 35) _) _
    (try simp only [Act.put, List.setIfInBounds_toArray, List.set_cons_zero, List.set_cons_succ])
    refine wpAnyH_take (i := 25) (v := ?v25) rfl (by kernel_rfl) (by kernel_rfl) (by kernel_rfl) (fun _ _ _ h => h) (Or.inl ⟨by kernel_rfl, ?y25⟩) (by assumption) ?r25
    case y25 => (intro W hSW; (try dsimp only at hSW); go_simp; (try with_reducible rfl))
    change wpAnyH _ _ _ _ _ _ _ (Act.put _ (some 37) _) _
    (try simp only [Act.put, List.setIfInBounds_toArray, List.set_cons_zero, List.set_cons_succ])
    refine wpAnyH_take (i := 26) (v := ?v26) rfl (by kernel_rfl) (by kernel_rfl) (by kernel_rfl) (fun _ _ _ h => h) (Or.inl ⟨by kernel_rfl, ?y26⟩) (by assumption) ?r26
    case y26 => (intro W hSW; (try dsimp only at hSW); go_simp; (try with_reducible rfl))
    change wpAnyH _ _ _ _ _ _ _ (Act.put _ (some 38) _) _
    (try simp only [Act.put, List.setIfInBounds_toArray, List.set_cons_zero, List.set_cons_succ])
    refine wpAnyH_ready (rs := [24]) (by kernel_rfl) (by simp) ?_
    refine AllReadyH.cons rfl (fun K hK => ?_) AllReadyH.nil
    rw [if_pos (by rfl)]
    go_simp
    refine (HC24.out _ HT6.out).mono ?_
    rintro e w1 ⟨rfl, hb1⟩
    have HT7 := hide (HT6.out.below hb1)
    clear hb1 hHeld e0 e1 e2 e3 e4 e5 e6 e7 e8 e9 e10 e11 g0 g1 g2 g3 g4 g5 g6 g7 g8 g9 g10 g11 hl hm
    obtain ⟨_, ⟨hl, e0, e1, e2, e3, e4, e5, e6, e7, e8, e9, e10, e11⟩, _, _, ⟨hm, g0, g1, g2, g3, g4, g5, g6, g7, g8, g9, g10, g11⟩, _⟩ := HT7.out
    dsimp only at e0 e1 e2 e3 e4 e5 e6 e7 e8 e9 e10 e11 g0 g1 g2 g3 g4 g5 g6 g7 g8 g9 g10 g11
    refine hK.out _ _ (⟨e0, e1, e2, e3, e4, e5, e6, e7, e8, e9, e10, e11, g0, g1, g2, g3, g4, g5, g6, g7, g8, g9, g10, g11⟩) (fun hHeld => ?_)
    clear hK K
    (try simp only [Act.put, List.setIfInBounds_toArray, List.set_cons_zero, List.set_cons_succ])
    refine wpAnyH_ready (rs := [27]) (by kernel_rfl) (by simp) ?_
    refine AllReadyH.cons rfl (fun K hK => ?_) AllReadyH.nil
    rw [if_pos (by rfl)]
    go_simp
    refine (HC27.out _ HT7.out).mono ?_
    rintro e w1 ⟨rfl, hb1⟩
    have HT8 := hide (HT7.out.below hb1)
    clear hb1 hHeld e0 e1 e2 e3 e4 e5 e6 e7 e8 e9 e10 e11 g0 g1 g2 g3 g4 g5 g6 g7 g8 g9 g10 g11 hl hm
    obtain ⟨_, ⟨hl, e0, e1, e2, e3, e4, e5, e6, e7, e8, e9, e10, e11⟩, _, _, ⟨hm, g0, g1, g2, g3, g4, g5, g6, g7, g8, g9, g10, g11⟩, _⟩ := HT8.out
    dsimp only at e0 e1 e2 e3 e4 e5 e6 e7 e8 e9 e10 e11 g0 g1 g2 g3 g4 g5 g6 g7 g8 g9 g10 g11
    refine hK.out _ _ (⟨e0, e1, e2, e3, e4, e5, e6, e7, e8, e9, e10, e11, g0, g1, g2, g3, g4, g5, g6, g7, g8, g9, g10, g11⟩) (fun hHeld => ?_)
    clear hK K
    (try simp only [Act.put, List.setIfInBounds_toArray, List.set_cons_zero, List.set_cons_succ])
    refine wpAnyH_take (i := 28) (v := ?v28) rfl (by kernel_rfl) (by kernel_rfl) (by kernel_rfl) (fun _ _ _ h => h) (Or.inl ⟨by kernel_rfl, ?y28⟩) (by assumption) ?r28
    case y28 => (intro W hSW; (try dsimp only at hSW); go_simp; (try with_reducible rfl))
    change wpAnyH _ _ _ _ _ _ _ (Act.put _ (some 40) _) _
    (try simp only [Act.put, List.setIfInBounds_toArray, List.set_cons_zero, List.set_cons_succ])
    refine wpAnyH_take (i := 29) (v := ?v29) rfl (by kernel_rfl) (by kernel_rfl) (by kernel_rfl) (fun _ _ _ h => h) (Or.inl ⟨by kernel_rfl, ?y29⟩) (by assumption) ?r29
    case y29 => (intro W hSW; (try dsimp only at hSW); go_simp; (try with_reducible rfl))
    change wpAnyH _ _ _ _ _ _ _ (Act.put _ (some 41) _) _
    (try simp only [Act.put, List.setIfInBounds_toArray, List.set_cons_zero, List.set_cons_succ])
    refine wpAnyH_take (i := 30) (v := ?v30) rfl (by kernel_rfl) (by kernel_rfl) (by kernel_rfl) (fun _ _ _ h => h) (Or.inl ⟨by kernel_rfl, ?y30⟩) (by assumption) ?r30
    case y30 => (intro W hSW; (try dsimp only at hSW); go_simp; (try with_reducible rfl))
    change wpAnyH _ _ _ _ _ _ _ (Act.put _ (some 42) _) _
    (try simp only [Act.put, List.setIfInBounds_toArray, List.set_cons_zero, List.set_cons_succ])
    refine wpAnyH_take (i := 31) (v := ?v31) rfl (by kernel_rfl) (by kernel_rfl) (by kernel_rfl) (fun _ _ _ h => h) (Or.inl ⟨by kernel_rfl, ?y31⟩) (by assumption) ?r31
    case y31 => (intro W hSW; (try dsimp only at hSW); go_simp; (try with_reducible rfl))
    change wpAnyH _ _ _ _ _ _ _ (Act.put _ (some 43) _) _
    (try simp only [Act.put, List.setIfInBounds_toArray, List.set_cons_zero, List.set_cons_succ])
    refine wpAnyH_take (i := 32) (v := ?v32) rfl (by kernel_rfl) (by kernel_rfl) (by kernel_rfl) (fun _ _ _ h => h) (Or.inl ⟨by kernel_rfl, ?y32⟩) (by assumption) ?r32
    case y32 => (intro W hSW; (try dsimp only at hSW); go_simp; (try with_reducible rfl))
    change wpAnyH _ _ _ _ _ _ _ (Act.put _ (some 44) _) _
    (try simp only [Act.put, List.setIfInBounds_toArray, List.set_cons_zero, List.set_cons_succ])
    refine wpAnyH_ready (rs := [33]) (by kernel_rfl) (by simp) ?_
    refine AllReadyH.cons rfl (fun K hK => ?_) AllReadyH.nil
    rw [if_pos (by rfl)]
    go_simp
    refine (HC33.out _ HT8.out).mono ?_
    rintro e w1 ⟨rfl, hb1⟩
    have HT9 := hide (HT8.out.below hb1)
    clear hb1 hHeld e0 e1 e2 e3 e4 e5 e6 e7 e8 e9 e10 e11 g0 g1 g2 g3 g4 g5 g6 g7 g8 g9 g10 g11 hl hm
    obtain ⟨_, ⟨hl, e0, e1, e2, e3, e4, e5, e6, e7, e8, e9, e10, e11⟩, _, _, ⟨hm, g0, g1, g2, g3, g4, g5, g6, g7, g8, g9, g10, g11⟩, _⟩ := HT9.out
    dsimp only at e0 e1 e2 e3 e4 e5 e6 e7 e8 e9 e10 e11 g0 g1 g2 g3 g4 g5 g6 g7 g8 g9 g10 g11
    refine hK.out _ _ (⟨e0, e1, e2, e3, e4, e5, e6, e7, e8, e9, e10, e11, g0, g1, g2, g3, g4, g5, g6, g7, g8, g9, g10, g11⟩) (fun hHeld => ?_)
    clear hK K
    (try simp only [Act.put, List.setIfInBounds_toArray, List.set_cons_zero, List.set_cons_succ])
    refine wpAnyH_take (i := 34) (v := ?v34) rfl (by kernel_rfl) (by kernel_rfl) (by kernel_rfl) (fun _ _ _ h => h) (Or.inl ⟨by kernel_rfl, ?y34⟩) (by assumption) ?r34
    case y34 => (intro W hSW; (try dsimp only at hSW); go_simp; (try with_reducible rfl))
    change wpAnyH _ _ _ _ _ _ _ (Act.put _ (some 46) _) _
    (try simp only [Act.put, List.setIfInBounds_toArray, List.set_cons_zero, List.set_cons_succ])
    refine wpAnyH_take (i := 35) (v := ?v35) rfl (by kernel_rfl) (by kernel_rfl) (by kernel_rfl) (fun _ _ _ h => h) (Or.inl ⟨by kernel_rfl, ?y35⟩) (by assumption) ?r35
    case y35 => (intro W hSW; (try dsimp only at hSW); go_simp; (try with_reducible rfl))
    change wpAnyH _ _ _ _ _ _ _ (Act.put _ (some 6) _) _
    (try simp only [Act.put, List.setIfInBounds_toArray, List.set_cons_zero, List.set_cons_succ])
    refine wpAnyH_done (by kernel_rfl) ?_ _
    have HBB := hide HT9.out.bel
    go_wp2_with fail
    go_ret
    exact ⟨by rfl, HBB.out⟩
end Go.Proofs.YtbodpnggkihllaaDoor
