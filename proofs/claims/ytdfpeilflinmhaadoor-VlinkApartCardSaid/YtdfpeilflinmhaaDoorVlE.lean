/-
  A node's links, as an iterator.
-/
import Derived.Test.YtdfpeilflinmhaaDoorVlD
namespace Go.Proofs.YtdfpeilflinmhaaDoor
open Go.RowKit Go.Deep
set_option linter.unusedVariables false
set_option linter.unusedSimpArgs false

theorem info_link : (Tryd.prog.info? 134).map (fun i => (i.zero, i.size, i.bytes)) = some (some (.agg #[.int .i64 0, .int .i64 0, .int .i64 0, .int .i64 0, .slice none 0 0]), 5, 56) := by kernel_rfl

/-- links, each with where its ports lie -/
def pairs (P : List (Lr × Value)) : List Lr := P.map Prod.fst
/-- what stands while a node's links are gathered: the list lies in the block b of its own, from lo on -/
structure OwV (w W : World) (c : Conf) (d : Ad) (v : Value) : Prop where
  cf : CfS w W c d
  box : W.heap[w.heap.size + 1]? = some (.cells #[v] 168 (0, 0))
  siz : w.heap.size + 2 ≤ W.heap.size
section
variable {w W W' : World} {c : Conf} {d : Ad} {v : Value}
theorem OwV.below (h : OwV w W c d v) (hb : Below W.heap.size W W') : OwV w W' c d v := by
  have hs := h.siz
  exact ⟨h.cf.below hb, (hb.block _ (by omega)).trans h.box, Nat.le_trans hs hb.size⟩
theorem OwV.grown (h0 : Glo w) (h1 : ConfAt w c d) (h : OwV w W c d v) {row : Option Nat} (hg : W.grownBy W' row) (hr : ∀ k, row = some k → w.heap.size + 2 ≤ k) : OwV w W' c d v := by
  have hs := h.siz
  have hne : ∀ j, j < w.heap.size + 2 → W'.heap[j]? = W.heap[j]? := fun j hj => hg.block j (by omega) fun e => by have := hr j e.symm; omega
  exact ⟨h.cf.only h0 h1 (h.cf.bel.grown hg h.cf.bel.size fun k e => by have := hr k e; omega) (hne _ (by omega)), (hne _ (by omega)).trans h.box, Nat.le_trans hs hg.size⟩
theorem OwV.set (h0 : Glo w) (h1 : ConfAt w c d) (h : OwV w W c d v) (v' : Value) : OwV w (W.setCell ⟨w.heap.size + 1, 0, none⟩ v') c d v' := by
  have hs := h.siz
  have hne : ∀ j, j ≠ w.heap.size + 1 → (W.setCell ⟨w.heap.size + 1, 0, none⟩ v').heap[j]? = W.heap[j]? := fun j hj => setCell_other hj
  exact ⟨h.cf.only h0 h1 (h.cf.bel.setCell (p := ⟨w.heap.size + 1, 0, none⟩) (by show _ ≤ _ + 1; omega) _) (hne _ (by omega)), by rw [vset_row h.box]; rfl, by rw [vset_size]; exact hs⟩
end
/-- what the operations have made that put a link behind -/
def owF (w : World) (c : Conf) (d : Ad) (v0 : Value) (P : List (Lr × Value)) (x : Lr) (n : Nat) (j : Nat) (vals : Nat → Value) (W : World) : Prop :=
  match j with
  | 0 => vals 0 = v0
  | 1 => vals 1 = c.val d
  | 2 => vals 2 = .int .i64 (n : Int)
  | 3 => ∃ dv, vals 3 = .agg #[.int .i64 x.num, .int .i64 x.src, .int .i64 x.off, .int .i64 x.siz, dv] ∧ DsAt W (w.heap.size + 2) dv x.dests
  | 4 => ∃ q dv, vals 4 = .slice (some ⟨q, 0, none⟩) 1 1 ∧ W.heap[q]? = some (.cells #[.int .i64 x.num, .int .i64 x.src, .int .i64 x.off, .int .i64 x.siz, dv] 134 (0, 0)) ∧ DsAt W (w.heap.size + 2) dv x.dests
  | 5 => ∃ dv, OwV w W c d v0 ∧ LrAt W (w.heap.size + 2) (vals 5) (P ++ [(x, dv)])
  | 6 => ∃ v dv, OwV w W c d v ∧ LrAt W (w.heap.size + 2) v (P ++ [(x, dv)])
  | 7 => OwV w W c d v0 ∧ LrAt W (w.heap.size + 2) v0 P
  | _ => True
def owT : Nat → Nat
  | 3 => 4 | 4 => 5 | 5 => 6 | 7 => 5 | _ => 100
def owM (j : Nat) : List Nat := if 7 ≤ j then [] else [j]
section
variable {w : World} {c : Conf} {d : Ad} {v0 : Value} {P : List (Lr × Value)} {x : Lr} {n : Nat}
theorem owF_sup : ∀ j vals vals' W, (∀ i ∈ owM j, vals i = vals' i) → owF w c d v0 P x n j vals W → owF w c d v0 P x n j vals' W := by
  intro j vals vals' W h hF
  unfold owM at h
  match j, hF with
  | 0, hF | 1, hF | 2, hF | 3, hF | 4, hF | 5, hF =>
    simp only [owF] at hF ⊢
    rw [← h _ (by simp)]; exact hF
  | 6, hF | 7, hF => exact hF
  | _ + 8, _ => trivial
theorem owF_later {W W' : World} (hb : Below W.heap.size W W') (j : Nat) (vals : Nat → Value) (h : owF w c d v0 P x n j vals W) : owF w c d v0 P x n j vals W' := by
  match j, h with
  | 0, h | 1, h | 2, h => exact h
  | 3, ⟨dv, h1, h2⟩ => exact ⟨dv, h1, ow_below h2 hb⟩
  | 4, ⟨q, dv, h1, h2, h3⟩ => exact ⟨q, dv, h1, (hb.block _ (Array.getElem?_eq_some_iff.1 h2).1).trans h2, ow_below h3 hb⟩
  | 5, ⟨dv, h1, h2⟩ => exact ⟨dv, h1.below hb, h2.below hb⟩
  | 6, ⟨v, dv, h1, h2⟩ => exact ⟨v, dv, h1.below hb, h2.below hb⟩
  | 7, ⟨h1, h2⟩ => exact ⟨h1.below hb, h2.below hb⟩
  | _ + 8, _ => trivial
end

set_option maxRecDepth 100000 in
set_option maxHeartbeats 4000000 in
theorem linksOf_at (c : Conf) (d : Ad) (node : Int) (w : World) (hg : Glo w) (h : ConfAt w c d) (hm : MayK c) :
    Calls Tryd.prog 49 #[c.val d, .int .i64 node] w fun e w' => ∃ B v P, e = .returned (.func (.func 79) #[] #[.pointer (some ⟨B, 0, none⟩)]) ∧ (w.heap.size ≤ B ∧ B < w'.heap.size) ∧ w'.heap[B]? = some (.cells #[v] 168 (0, 0)) ∧
      LrAt w' w.heap.size v P ∧ P.map Prod.fst = ownL c node c.links.length ∧ Below w.heap.size w w' := by
  have hS := CfS.first 28 hg h
  have HNO := hide (fun k (hk : k < c.links.length) W (H : CfS w W c d) => nodeOf_at c d (c.links.getD k default).source W H.g H.cf (hm.src hk) (hm.ofp (hm.src hk)))
  have HLO := hide (fun k (hk : k < c.links.length) W (H : CfS w W c d) => linkOf_at c d k W H.g H.cf hm hk)
  have HLS := hide (fun k => ownL_succ c node k)
  have HLE := hide (fun k => ownL_len c node k)
  have HMB : Hid (∀ k, mineB c node k = decide (nodeF c (c.links.getD k default).source = node)) := fun _ => rfl
  have hnl := hm.nl
  have HLK := hide (fun W (hb : Below w.heap.size w W) k (hk : k < c.links.length) => (h.links.of_below hb (Nat.le_refl _)).at hk)
  clear hm
  have HG := hide hg; have HC := hide h
  clear hg h
  obtain ⟨oA, oC, pA, pC, wA, wC, qA, qC, lA, lC⟩ := d
  unfold Conf.cells at hS
  dsimp only at hS HLK
  have HNV : Hid (c.val ⟨oA, oC, pA, pC, wA, wC, qA, qC, lA, lC⟩ = .agg #[.int .i64 c.nodes, .slice oA c.owners.length oC, .int .i64 c.drift, .int .i64 c.reading, .int .i64 c.margin, .int .i64 c.bound, .int .i64 c.rejoin, .int .i64 c.quota, .slice pA c.parts.length pC, .slice wA c.windows.length wC, .slice qA c.ports.length qC, .slice lA c.links.length lC]) := rfl
  rw [HNV.out]
  have HNW : Hid (∀ k (hk : k < c.links.length) W (H : CfS w W c ⟨oA, oC, pA, pC, wA, wC, qA, qC, lA, lC⟩), Calls Tryd.prog 77 #[.agg #[.int .i64 c.nodes, .slice oA c.owners.length oC, .int .i64 c.drift, .int .i64 c.reading, .int .i64 c.margin, .int .i64 c.bound, .int .i64 c.rejoin, .int .i64 c.quota, .slice pA c.parts.length pC, .slice wA c.windows.length wC, .slice qA c.ports.length qC, .slice lA c.links.length lC], .int .i64 (c.links.getD k default).source] W fun e w' => e = .returned (.int .i64 (nodeF c (c.links.getD k default).source)) ∧ Below W.heap.size W w') := HNO.out
  clear HNO
  have hzA : (w.alloc (.cells #[.int .i64 c.nodes, .slice oA c.owners.length oC, .int .i64 c.drift, .int .i64 c.reading, .int .i64 c.margin, .int .i64 c.bound, .int .i64 c.rejoin, .int .i64 c.quota, .slice pA c.parts.length pC, .slice wA c.windows.length wC, .slice qA c.ports.length qC, .slice lA c.links.length lC] 28)).heap.size = w.heap.size + 1 := by simp
  generalize hA : w.alloc (.cells #[.int .i64 c.nodes, .slice oA c.owners.length oC, .int .i64 c.drift, .int .i64 c.reading, .int .i64 c.margin, .int .i64 c.bound, .int .i64 c.rejoin, .int .i64 c.quota, .slice pA c.parts.length pC, .slice wA c.windows.length wC, .slice qA c.ports.length qC, .slice lA c.links.length lC] 28) = w1 at hS hzA
  have HA := hide hA
  have HS := hide hS
  have HZA := hide hzA
  clear hS hA hzA
  go_enter Tryd.func49, Tryd.ntmps49
  go_upto_region 2 with fail
  rw [HA.out]
  have hT := HS.out.below (bal w1 (.cells #[.slice none 0 0] 168))
  have hr := heap_alloc_new w1 (.cells #[.slice none 0 0] 168)
  have hz2 : (w1.alloc (.cells #[.slice none 0 0] 168)).heap.size = w.heap.size + 2 := by simp [HZA.out]
  have hV : OwV w (w1.alloc (.cells #[.slice none 0 0] 168)) c ⟨oA, oC, pA, pC, wA, wC, qA, qC, lA, lC⟩ (.slice none 0 0) := ⟨hT, by rw [HZA.out] at hr; exact hr, by omega⟩
  generalize w1.alloc (.cells #[.slice none 0 0] 168) = w2 at hV ⊢
  have HV := hide hV
  clear HS HA HZA hr hT hV hz2
  obtain ⟨_, ⟨_, _, _, _, _, _, _, _, _, _, _, _, e11⟩, _, _⟩ := HV.out.cf
  dsimp only at e11
  go_wp2_with fail
  clear e11
  go_loopw [11, 6, 7] (fun i s6 s7 W => ∃ k : Nat, k ≤ c.links.length ∧ i = .int .i64 k ∧ ∃ v P, OwV w W c ⟨oA, oC, pA, pC, wA, wC, qA, qC, lA, lC⟩ v ∧ LrAt W (w.heap.size + 2) v P ∧ P.map Prod.fst = ownL c node k) (fun i _ _ _ => c.links.length - (intOf i).toNat)
  case atStart => exact ⟨0, by omega, rfl, _, [], HV.out, LrAt.nil _ _, rfl⟩
  case round =>
    obtain ⟨k, hk, rfl, v0, P, hV, hL, hP⟩ := hrel
    clear HV
    have HV := hide hV; have HL := hide hL; have HP := hide hP
    clear hV hL hP
    by_cases hlt : k < c.links.length
    · obtain ⟨lb, lo, Ai, ci, hlA, hlb, g0, g1, g2, h3, h4, hI, _, _⟩ := HLK.out wr HV.out.cf.bel k hlt
      subst hlA
      have HN := hide (HNW.out k hlt)
      have HO := hide (HLO.out k hlt)
      have HSu := hide (HLS.out k)
      have HMk := hide (HMB.out k)
      have hpl : P.length ≤ 64 := by
        have h1 := congrArg List.length HP.out
        have h2 := HLE.out k
        simp at h1; omega
      generalize c.links.getD k default = lk at *
      obtain ⟨src, dests, off⟩ := lk
      dsimp only at g0 g1 g2 h3 h4 hI HN HMk
      clear HNW HLO HLS HMB h3 h4 hI HLE HLK
      obtain ⟨nd, hnd⟩ : ∃ nd, nodeF c src = nd := ⟨_, rfl⟩
      rw [hnd] at HN HMk
      have HV1 := hide (HV.out.below (bal wr (.cells #[.int .i64 src, .slice Ai dests.length ci, .int .i64 off] 46)))
      have HL1 := hide (HL.out.below (bal wr (.cells #[.int .i64 src, .slice Ai dests.length ci, .int .i64 off] 46)))
      clear hnd HV HL
      obtain ⟨_, ⟨_, e0, e1, e2, e3, e4, e5, e6, e7, e8, e9, e10, e11⟩, _, _⟩ := HV1.out.cf
      dsimp only at e0 e1 e2 e3 e4 e5 e6 e7 e8 e9 e10 e11
      by_cases hq : nd = node
      · subst hq
        have HS2 : Hid (ownL c nd (k + 1) = ownL c nd k ++ [lrF c k]) := by show _ = _; rw [HSu.out, HMk.out]; simp
        clear HSu HMk
        generalize lrF c k = x at *
        go_wp2_with fail
        refine (HN.out _ HV1.out.cf).mono ?_
        rintro e w4 ⟨rfl, hb4⟩
        have HV := hide (HV1.out.below hb4); have HL := hide (HL1.out.below hb4)
        clear HV1 HL1 hb4 HN g0 g1 g2 e0 e1 e2 e3 e4 e5 e6 e7 e8 e9 e10 e11
        go_wp2_with fail
        refine wp_region_factsW (fun _ => True) (owF w c ⟨oA, oC, pA, pC, wA, wC, qA, qC, some ⟨lb, lo, none⟩, lC⟩ v0 P x k) owT owM ?m0 ?mb owF_sup (by kernel_rfl) (by kernel_rfl) ?com ?ini ?steps ?fin
        case m0 =>
          intro j hj
          have hj' : 7 ≤ j := hj
          unfold owM; rw [if_pos hj']
        case mb =>
          intro j i hi hij
          unfold owM at hi
          split at hi
          · cases hi
          · exact absurd (List.mem_singleton.1 hi) hij
        case com => trivial
        case ini =>
          intro j hj
          have hj' : 7 ≤ j := hj
          match j, hj' with
          | 7, _ => exact ⟨HV.out.below (vdrewN (Below.refl _ _) 1), HL.out.below (vdrewN (Below.refl _ _) 1)⟩
          | _ + 8, _ => exact trivial
        case steps =>
          refine AllFrom.cons (step_isW (by kernel_rfl) ?s0) (AllFrom.cons (i := 1) (step_isW (by kernel_rfl) ?s1) (AllFrom.cons (i := 2) (step_isW (by kernel_rfl) ?s2) (AllFrom.cons (i := 3) (step_fnW (by kernel_rfl) 78 #[.tmp 23, .tmp 24] _ rfl (enters_of Tryd.func78 (by kernel_rfl) rfl) ?s3) (AllFrom.cons (i := 4) (step_runW (by kernel_rfl) ?s4) (AllFrom.cons (i := 5) ?s5 (AllFrom.cons (i := 6) (step_runW (by kernel_rfl) ?s6) (trivial)))))))
          case s0 =>
            intro L vals W ρ hI hi hdep hnew hold hc
            have e5 : ρ (.tmp 5) = .pointer (some ⟨w.heap.size + 1, 0, none⟩) := (hold 5 (by kernel_rfl)).trans (by kernel_rfl)
            obtain ⟨hV, hL⟩ : owF w c ⟨oA, oC, pA, pC, wA, wC, qA, qC, some ⟨lb, lo, none⟩, lC⟩ v0 P x k 7 vals W := hI.fact 7 (.inl (of_decide_eq_true (by kernel_rfl))) (hI.ahead hi 5 (by kernel_rfl))
            have cl : W.cell? ⟨w.heap.size + 1, 0, none⟩ = some v0 := by rw [cell_of_row _ _ _ _ _ _ hV.box]; rfl
            obtain ⟨dA, dc, hdv⟩ := ow_slice hL.row
            generalize P.length = pl at hdv
            subst hdv
            refine ⟨.slice dA pl dc, ?_, by simp [owF, upd]⟩
            simp [execOp, e5, cl, go_sem]
          case s1 =>
            intro L vals W ρ hI hi hdep hnew hold hc
            have p2 : ρ (.tmp 2) = .pointer (some ⟨w.heap.size, 0, none⟩) := (hold 2 (by kernel_rfl)).trans (by kernel_rfl)
            obtain ⟨hV, hL⟩ : owF w c ⟨oA, oC, pA, pC, wA, wC, qA, qC, some ⟨lb, lo, none⟩, lC⟩ v0 P x k 7 vals W := hI.fact 7 (.inl (of_decide_eq_true (by kernel_rfl))) (hI.ahead (hI.ahead hi 3 (by kernel_rfl)) 5 (by kernel_rfl))
            obtain ⟨_, ⟨_, e0, e1, e2, e3, e4, e5, e6, e7, e8, e9, e10, e11⟩, _, _⟩ := hV.cf
            dsimp only at e0 e1 e2 e3 e4 e5 e6 e7 e8 e9 e10 e11
            refine ⟨c.val ⟨oA, oC, pA, pC, wA, wC, qA, qC, some ⟨lb, lo, none⟩, lC⟩, ?_, rfl⟩
            simp [execOp, p2, e0, e1, e2, e3, e4, e5, e6, e7, e8, e9, e10, e11, HNV.out, go_sem]
          case s2 =>
            intro L vals W ρ hI hi hdep hnew hold hc
            have e6 : ρ (.tmp 6) = .int .i64 (k : Int) := (hold 6 (by kernel_rfl)).trans (by kernel_rfl)
            refine ⟨.int .i64 (k : Int), ?_, by simp [owF, upd]⟩
            simp [execOp, e6, go_sem]
          case s3 =>
            intro L vals W ρ hI hi hdep hnew hold hc
            have e23 : ρ (.tmp 23) = c.val ⟨oA, oC, pA, pC, wA, wC, qA, qC, some ⟨lb, lo, none⟩, lC⟩ := (hnew 1 23 (dep hdep 1 (by kernel_rfl)) (by kernel_rfl) (of_decide_eq_true (by kernel_rfl)) (of_decide_eq_true (by kernel_rfl))).trans (hI.fact 1 (.inr (dep hdep 1 (by kernel_rfl))) (neverW hI (of_decide_eq_true (by kernel_rfl))))
            have e24 : ρ (.tmp 24) = .int .i64 (k : Int) := (hnew 2 24 (dep hdep 2 (by kernel_rfl)) (by kernel_rfl) (of_decide_eq_true (by kernel_rfl)) (of_decide_eq_true (by kernel_rfl))).trans (hI.fact 2 (.inr (dep hdep 2 (by kernel_rfl))) (neverW hI (of_decide_eq_true (by kernel_rfl))))
            obtain ⟨hV, hL⟩ : owF w c ⟨oA, oC, pA, pC, wA, wC, qA, qC, some ⟨lb, lo, none⟩, lC⟩ v0 P x k 7 vals W := hI.fact 7 (.inl (of_decide_eq_true (by kernel_rfl))) (hI.ahead hi 5 (by kernel_rfl))
            have hsz := hV.siz
            refine ⟨#[c.val ⟨oA, oC, pA, pC, wA, wC, qA, qC, some ⟨lb, lo, none⟩, lC⟩, .int .i64 (k : Int)], by simp [e23, e24], (HO.out W hV.cf).mono ?_⟩
            rintro e W' ⟨dv, rfl, hd', hb'⟩
            exact ⟨_, rfl, trivial, ⟨dv, by simp [upd], ow_from hd' hsz⟩, fun j _ _ hj hT => owF_later hb' j vals (hI.fact j hj hT)⟩
          case s4 =>
            intro L vals W ρ hI hi hdep hnew hold hc
            obtain ⟨dv, f3, h3⟩ : owF w c ⟨oA, oC, pA, pC, wA, wC, qA, qC, some ⟨lb, lo, none⟩, lC⟩ v0 P x k 3 vals W := hI.fact 3 (.inr (dep hdep 3 (by kernel_rfl))) hi
            have e25 : ρ (.tmp 25) = .agg #[.int .i64 x.num, .int .i64 x.src, .int .i64 x.off, .int .i64 x.siz, dv] := (hnew 3 25 (dep hdep 3 (by kernel_rfl)) (by kernel_rfl) (of_decide_eq_true (by kernel_rfl)) (of_decide_eq_true (by kernel_rfl))).trans f3
            obtain ⟨dA, dc, hdv⟩ := ow_slice h3
            generalize hnn : x.dests.length = nn at hdv
            subst hdv
            have hb' := bal W (.cells #[.int .i64 x.num, .int .i64 x.src, .int .i64 x.off, .int .i64 x.siz, .slice dA nn dc] 134)
            refine ⟨.slice (some ⟨W.heap.size, 0, none⟩) 1 1, W.alloc (.cells #[.int .i64 x.num, .int .i64 x.src, .int .i64 x.off, .int .i64 x.siz, .slice dA nn dc] 134), .inl ?_, trivial, ⟨W.heap.size, .slice dA nn dc, by simp [upd], heap_alloc_new W _, ow_below h3 hb'⟩, fun j _ _ hj hT => owF_later hb' j vals (hI.fact j hj hT)⟩
            simp [execOp, e25, go_sem]
          case s5 =>
            intro L vals W hI hi hdep
            obtain ⟨q, dv, f4, h4, d4⟩ : owF w c ⟨oA, oC, pA, pC, wA, wC, qA, qC, some ⟨lb, lo, none⟩, lC⟩ v0 P x k 4 vals W := hI.fact 4 (.inr (dep hdep 4 (by kernel_rfl))) hi
            have f0 : vals 0 = v0 := hI.fact 0 (.inr (dep hdep 0 (by kernel_rfl))) (neverW hI (of_decide_eq_true (by kernel_rfl)))
            obtain ⟨hV, hL⟩ : owF w c ⟨oA, oC, pA, pC, wA, wC, qA, qC, some ⟨lb, lo, none⟩, lC⟩ v0 P x k 7 vals W := hI.fact 7 (.inl (of_decide_eq_true (by kernel_rfl))) hi
            have hsz := hV.siz
            obtain ⟨dA, dc, hdv⟩ := ow_slice d4
            refine wp_one (.tmp 22) (.tmp 26) 168 rfl 134 _ 5 56 Tryd.underlying168 info_link rfl (by decide) (by decide) (w.heap.size + 2) v0 P.length (P.flatMap lrC) ((ev_get (by kernel_rfl) 0 22 (dep hdep 0 (by kernel_rfl)) (by kernel_rfl) (of_decide_eq_true (by kernel_rfl)) (of_decide_eq_true (by kernel_rfl))).trans f0) hL.row q 1 [.int .i64 x.num, .int .i64 x.src, .int .i64 x.off, .int .i64 x.siz, dv] ((ev_get (by kernel_rfl) 4 26 (dep hdep 4 (by kernel_rfl)) (by kernel_rfl) (of_decide_eq_true (by kernel_rfl)) (of_decide_eq_true (by kernel_rfl))).trans f4) h4 rfl (by rw [hdv]; simp [Value.oneCell']) (by omega) (by omega) ?_
            intro v' W' hown hgr _
            refine ⟨v', rfl, trivial, ⟨dv, hV.grown HG.out HC.out hgr fun k hk => (ow_block hL.row hk).2.1, ?_⟩, fun j hj5 hT5 hj hT => ?_⟩
            · show LrAt W' _ (upd vals 5 v' 5) _
              rw [show upd vals 5 v' 5 = v' from rfl]
              exact hL.more (p := (x, dv)) d4 hown hgr
            have hf := hI.fact j hj hT
            match j, hf, hT5, hj5, hT, hj with
            | 0, hf, _, _, _, _ | 1, hf, _, _, _, _ | 2, hf, _, _, _, _ => exact hf
            | 3, _, _, _, hT, _ => exact absurd (dep hdep 4 (by kernel_rfl)) (by rw [show L.getD 4 false = false from hT]; simp)
            | 4, _, hT5, _, _, _ | 7, _, hT5, _, _, _ => exact absurd rfl hT5
            | 5, _, _, hj5, _, _ => exact absurd rfl hj5
            | 6, _, _, _, _, hj => exact absurd (hj.resolve_left (by exact of_decide_eq_false (by kernel_rfl))) (by rw [hI.ahead hi 6 (by kernel_rfl)]; simp)
            | _ + 8, _, _, _, _, _ => trivial
          case s6 =>
            intro L vals W ρ hI hi hdep hnew hold hc
            have e5 : ρ (.tmp 5) = .pointer (some ⟨w.heap.size + 1, 0, none⟩) := (hold 5 (by kernel_rfl)).trans (by kernel_rfl)
            obtain ⟨dv, hV, hL⟩ : owF w c ⟨oA, oC, pA, pC, wA, wC, qA, qC, some ⟨lb, lo, none⟩, lC⟩ v0 P x k 5 vals W := hI.fact 5 (.inr (dep hdep 5 (by kernel_rfl))) hi
            have e27 : ρ (.tmp 27) = vals 5 := hnew 5 27 (dep hdep 5 (by kernel_rfl)) (by kernel_rfl) (of_decide_eq_true (by kernel_rfl)) (of_decide_eq_true (by kernel_rfl))
            have cl : W.cell? ⟨w.heap.size + 1, 0, none⟩ = some v0 := by rw [cell_of_row _ _ _ _ _ _ hV.box]; rfl
            have fl : W.frozen? ⟨w.heap.size + 1, 0, none⟩ = false := by unfold World.frozen?; rw [hV.box]; rfl
            obtain ⟨dA, dc, hdv⟩ := ow_slice hL.row
            rw [hdv] at e27 hL
            refine ⟨undef, W.setCell ⟨w.heap.size + 1, 0, none⟩ (.slice dA (P ++ [(x, dv)]).length dc), .inr ⟨rfl, ?_⟩, trivial, ⟨_, dv, hV.set HG.out HC.out _, hL.stands fun j hj _ => setCell_other (by omega)⟩, fun j hj6 hT6 hj hT => ?_⟩
            · generalize (P ++ [(x, dv)]).length = nn at *
              simp [execOp, e5, e27, cl, fl, go_sem]
            have hf := hI.fact j hj hT
            match j, hf, hT6, hj6, hT, hj with
            | 0, hf, _, _, _, _ | 1, hf, _, _, _, _ | 2, hf, _, _, _, _ => exact hf
            | 3, _, _, _, hT, _ => exact absurd (hI.clo 5 _ rfl (dep hdep 5 (by kernel_rfl)) ⟨4, .data⟩ (by simp) rfl) (by rw [show L.getD 4 false = false from hT]; simp)
            | 4, _, _, _, hT, _ | 7, _, _, _, hT, _ => exact absurd (dep hdep 5 (by kernel_rfl)) (by rw [show L.getD 5 false = false from hT]; simp)
            | 5, _, hT6, _, _, _ => exact absurd rfl hT6
            | 6, _, _, hj6, _, _ => exact absurd rfl hj6
            | _ + 8, _, _, _, _, _ => trivial
        case fin =>
          intro vals W _ hF
          obtain ⟨v', dv, hV', hL'⟩ : owF w c ⟨oA, oC, pA, pC, wA, wC, qA, qC, some ⟨lb, lo, none⟩, lC⟩ v0 P x k 6 vals W := hF 6 (of_decide_eq_true (by kernel_rfl)) (of_decide_eq_true (by kernel_rfl))
          have HV' := hide hV'; have HL' := hide hL'
          clear hV' hL' hF HV HL HO
          simp [canon, dstOf, Act.put]
          go_wp2
          go_roundw
          case rel => exact ⟨k + 1, by omega, by go_num, v', _, HV'.out, HL'.out, by rw [HS2.out, List.map_append, HP.out]; rfl⟩
          case measure => simp [intOf]; omega
      · have HS2 : Hid (ownL c node (k + 1) = ownL c node k) := by show _ = _; rw [HSu.out, HMk.out, decide_eq_false hq]; simp
        clear HSu HMk HO
        go_wp2_with fail
        refine (HN.out _ HV1.out.cf).mono ?_
        rintro e w4 ⟨rfl, hb4⟩
        have HV := hide (HV1.out.below hb4); have HL := hide (HL1.out.below hb4)
        clear HV1 HL1 hb4 HN g0 g1 g2 e0 e1 e2 e3 e4 e5 e6 e7 e8 e9 e10 e11
        go_wp2
        go_roundw
        case rel => exact ⟨k + 1, by omega, by go_num, v0, P, HV.out, HL.out, by rw [HS2.out]; exact HP.out⟩
        case measure => simp [intOf]; omega
    · obtain rfl : k = c.links.length := by omega
      go_wp2
      go_ret
      exact ⟨w.heap.size + 1, v0, P, rfl, ⟨by omega, by have := HV.out.siz; omega⟩, HV.out.box, ⟨ow_from HL.out.row (by omega), fun p hp => ow_from (HL.out.ds p hp) (by omega)⟩, HP.out, HV.out.cf.bel⟩
end Go.Proofs.YtdfpeilflinmhaaDoor
