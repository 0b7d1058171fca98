/-
  keep.
-/
import Derived.Test.YtdimllmbalponaaPlA
import Derived.Test.YtdimllmbalponaaFactsW
namespace Go.Proofs.Ytdimllmbalponaa
open Go.RowKit Go.Shelf
set_option linter.unusedVariables false

/-- what the operations have made that put what a message says behind; from 12 on: what stood before -/
def kpF (base kb B : Nat) (hT hW : Value) (tW : List Rw) (r0 : Rw) (j : Nat) (vals : Nat → Value) (W : World) : Prop :=
  match j with
  | 0 => vals 0 = .pointer (some ⟨kb, 0, none⟩)
  | 1 => vals 1 = .pointer (some ⟨kb, 0, none⟩)
  | 2 => vals 2 = .pointer (some ⟨kb, 0, none⟩)
  | 3 => vals 3 = .pointer (some ⟨kb, 1, none⟩)
  | 4 => vals 4 = hW
  | 5 => vals 5 = r0.cell
  | 6 => ∃ r : Rw, vals 6 = r.cell ∧ r.txt = r0.txt ∧ r.at W B
  | 7 => ∃ (q : Nat) (r : Rw), vals 7 = .slice (some ⟨q, 0, none⟩) 1 1 ∧ W.heap[q]? = some (.cells #[r.cell] 37 (0, 0)) ∧ r.txt = r0.txt ∧ r.at W B
  | 8 => ∃ r : Rw, r.txt = r0.txt ∧ Rws W base (vals 8) (tW ++ [r]) ∧ B ≤ r.blk ∧ ((vals 8).ownBlock = hW.ownBlock ∨ ∀ k, (vals 8).ownBlock = some k → B ≤ k)
  | 9 => vals 9 = .pointer (some ⟨kb, 0, none⟩)
  | 10 => vals 10 = .pointer (some ⟨kb, 1, none⟩)
  | 11 => ∃ (hW' : Value) (r : Rw), r.txt = r0.txt ∧ B ≤ r.blk ∧ W.heap[kb]? = some (.cells #[hT, hW'] 36 (0, 0)) ∧ Rws W base hW' (tW ++ [r]) ∧ (hW'.ownBlock = hW.ownBlock ∨ ∀ k, hW'.ownBlock = some k → B ≤ k)
  | 12 => W.heap[kb]? = some (.cells #[hT, hW] 36 (0, 0)) ∧ Rws W base hW tW
  | 13 => W.heap[kb]? = some (.cells #[hT, hW] 36 (0, 0))
  | 14 => Bytes W (some ⟨r0.blk, 0, none⟩) r0.txt
  | _ => True
def kpT : Nat → Nat
  | 6 => 7 | 7 => 8 | 8 => 11 | 12 => 8 | 13 => 11 | 14 => 6 | _ => 100
def kpM (j : Nat) : List Nat := if 12 ≤ j then [] else [j]
section
variable {base kb B : Nat} {hT hW : Value} {tW : List Rw} {r0 : Rw}
theorem kpF_sup : ∀ j vals vals' W, (∀ i ∈ kpM j, vals i = vals' i) → kpF base kb B hT hW tW r0 j vals W → kpF base kb B hT hW tW r0 j vals' W := by
  intro j vals vals' W h hF
  unfold kpM at h
  match j, hF with
  | 0, hF | 1, hF | 2, hF | 3, hF | 4, hF | 5, hF | 6, hF | 7, hF | 8, hF | 9, hF | 10, hF =>
    simp only [kpF] at hF ⊢
    rw [← h _ (by simp)]; exact hF
  | 11, hF | 12, hF | 13, hF | 14, hF => exact hF
  | _ + 15, _ => trivial
theorem kpF_later {W W' : World} (hb : Below W.heap.size W W') (j : Nat) (vals : Nat → Value) (h : kpF base kb B hT hW tW r0 j vals W) : kpF base kb B hT hW tW r0 j vals W' := by
  have key : ∀ {i : Nat} {o : Obj}, W.heap[i]? = some o → W'.heap[i]? = some o := fun h => (hb.block _ (Array.getElem?_eq_some_iff.1 h).1).trans h
  match j, h with
  | 0, h | 1, h | 2, h | 3, h | 4, h | 5, h | 9, h | 10, h => exact h
  | 6, ⟨r, h1, h2, h3⟩ => exact ⟨r, h1, h2, OwnS.later h3 hb (OwnS.blk h3)⟩
  | 7, ⟨q, r, h1, h2, h3, h4⟩ => exact ⟨q, r, h1, key h2, h3, OwnS.later h4 hb (OwnS.blk h4)⟩
  | 8, ⟨r, h1, h2, h3, h4⟩ => exact ⟨r, h1, h2.later hb, h3, h4⟩
  | 11, ⟨h', r, h1, h2, h3, h4, h5⟩ => exact ⟨h', r, h1, h2, key h3, h4.later hb, h5⟩
  | 12, ⟨h1, h2⟩ => exact ⟨key h1, h2.later hb⟩
  | 13, h => exact key h
  | 14, h => exact Bytes.of_below h hb (Nat.le_refl _)
  | _ + 15, _ => trivial
end
/-- what holds all along -/
structure KC (w : World) (base kb : Nat) (hW : Value) (W : World) : Prop where
  ch : Ch base (fun k => k = kb ∨ hW.ownBlock = some k) w W
  siz : base ≤ W.heap.size
theorem KC.later {w : World} {base kb : Nat} {hW : Value} {W W' : World} (h : KC w base kb hW W) (hb : Below W.heap.size W W') : KC w base kb hW W' :=
  ⟨h.ch.trans (Ch.of hb h.siz), by have := hb.size; have := h.siz; omega⟩
theorem KC.grown {w : World} {base kb : Nat} {hW : Value} {W W' : World} (h : KC w base kb hW W) (hg : W.grownBy W' hW.ownBlock) (hr : ∀ k, hW.ownBlock = some k → base ≤ k) : KC w base kb hW W' :=
  ⟨h.ch.trans (Ch.grown hg h.siz hr fun k hk => .inr hk), by have := hg.size; have := h.siz; omega⟩
theorem KC.set {w : World} {base kb : Nat} {hW : Value} {W : World} (h : KC w base kb hW W) (hl : base ≤ kb) (j : Nat) (v : Value) : KC w base kb hW (W.setCell ⟨kb, j, none⟩ v) := by
  have c : Ch base (fun k => k = kb ∨ hW.ownBlock = some k) W (W.setCell ⟨kb, j, none⟩ v) := Ch.set hl (.inl rfl)
  exact ⟨h.ch.trans c, by have := c.siz; have := h.siz; omega⟩

set_option maxRecDepth 100000 in
set_option maxHeartbeats 1000000 in
theorem keep_at {base zm kb : Nat} {hT hW : Value} {tT tW : List Rw} {w : World} (x : KeptW w base kb hT hW tT tW) (A : Option Addr) (n c : Nat) (l : List Nat) (hm : GotB w zm (.slice A n c) l) (hl : l.length = n) (hz1 : base ≤ zm) (hz2 : zm ≤ w.heap.size)
    (hd : ∀ r ∈ tT ++ tW, r.blk < zm) (hkb : kb < zm) (hto : ∀ k, hT.ownBlock = some k → k < zm) (hwo : ∀ k, hW.ownBlock = some k → k < zm) (hn : n ≤ 900) (hnt : tT.length ≤ 5000) :
    Calls Try.prog 18 #[.pointer (some ⟨kb, 0, none⟩), .slice A n c] w fun e w' => e = .returned (.tuple #[]) ∧
      ∃ (hT' hW' : Value) (a b : Rw), KeptW w' base kb hT' hW' (tT ++ [a]) (tW ++ [b]) ∧ zm ≤ a.blk ∧ zm ≤ b.blk ∧ (hT'.ownBlock = hT.ownBlock ∨ ∀ k, hT'.ownBlock = some k → w.heap.size ≤ k) ∧ (hW'.ownBlock = hW.ownBlock ∨ ∀ k, hW'.ownBlock = some k → w.heap.size ≤ k) ∧
        Ch base (fun k => k = kb ∨ (Value.slice A n c).ownBlock = some k ∨ hT.ownBlock = some k ∨ hW.ownBlock = some k) w w' := by
  have X := hide x; have GM := hide hm; have HL := hide hl; have HD := hide hd; have HTO := hide hto; have HWO := hide hwo
  clear x hm hl hd hto hwo
  go_enter Try.func18, Try.ntmps18
  go_wp2_with fail
  go_loopg [8] n (fun r i wr => ∃ (j : Nat) (l' : List Nat), j + r = n ∧ i = .int .i64 j ∧ l'.length = n ∧ GotB wr zm (.slice A n c) l' ∧ Ch zm (fun k => (Value.slice A n c).ownBlock = some k) w wr)
  case atStart => exact ⟨0, l, by omega, rfl, HL.out, GM.out, Ch.refl _ _ _⟩
  case round =>
    obtain ⟨j, l', hj, rfl, hl', gm, ch⟩ := hrel
    have GM2 := hide gm; have HL2 := hide hl'; have CH := hide ch
    clear gm hl' ch
    by_cases hlt : j < n
    · obtain ⟨g, rfl, _, own⟩ := GM2.out.has (by rw [HL2.out]; omega)
      have OW := hide own
      obtain ⟨q0, f0⟩ := own.cell j (by rw [HL2.out]; exact hlt)
      obtain ⟨v, hv⟩ : ∃ v, l'.getD j 0 = v := ⟨_, rfl⟩
      rw [hv] at q0
      obtain ⟨u, hu, hul⟩ : ∃ u : Nat, IntKind.u8.wrap ((v : Int) + 1) = (u : Int) ∧ u < 256 := ⟨(v + 1) % 256, by show ((v : Int) + 1) % 256 = _; omega, by omega⟩
      clear own hv
      go_wp2
      go_roundg (n - j - 1)
      case measure => omega
      case rel => exact ⟨j + 1, l'.set j u, by omega, by go_num, by rw [List.length_set]; exact HL2.out, .inr ⟨g, c, by rw [List.length_set, HL2.out], by rw [List.length_set]; exact OW.out.store j u hul (by rw [HL2.out]; exact hlt)⟩, CH.out.trans (Ch.set OW.out.base rfl)⟩
    · obtain rfl : j = n := by omega
      have hzr := CH.out.siz
      have HVZ := hide (fun k (hk : (Value.slice A j c).ownBlock = some k) => (GM2.out.blk hk).2.1)
      have xr := X.out.ch CH.out (fun e => by have := HVZ.out _ e; omega) (fun k hk e => by have := HTO.out k hk; have := HVZ.out _ e; omega) (fun k hk e => by have := HWO.out k hk; have := HVZ.out _ e; omega) (fun r hr e => by have := HD.out r (List.mem_append_left _ hr); have := HVZ.out _ e; omega) (fun r hr e => by have := HD.out r (List.mem_append_right _ hr); have := HVZ.out _ e; omega)
      have XR := hide xr
      have hbase : base ≤ wr.heap.size := by omega
      have hlen2 := HL2.out
      obtain ⟨A1, c1, rfl, _, _⟩ := XR.out.told.len
      obtain ⟨A2, c2, rfl, _, _⟩ := XR.out.was.len
      have hTl : (.slice A1 tT.length c1 : Value).oneCell' = true := rfl
      go_wp2_with (first
        | (at_builtin
           refine wpList_got_append rfl (.tmp 20) (.tmp 21) rfl zm (.slice A j c) l' rfl (GM2.out.later (bal wr (.cells #[.int .u8 77] 5))) wr.heap.size 1 77 rfl (by omega) (by simp) (by rw [cell_of_row _ _ _ _ _ _ (heap_alloc_new wr _)]; rfl) (by omega) (by simp; omega) ?_
           intro r5 w5 ht5 ha5 hg5
           have CH5 := hide ((CH.out.trans (Ch.of (bal wr (.cells #[.int .u8 77] 5)) (by omega))).trans (Ch.grown hg5 (by simp; omega) (fun k hk => (GM2.out.blk hk).2.1) (fun k hk => hk)))
           have X5 := hide (X.out.ch CH5.out (fun e => by have := HVZ.out _ e; omega) (fun k hk e => by have := HTO.out k hk; have := HVZ.out _ e; omega) (fun k hk e => by have := HWO.out k hk; have := HVZ.out _ e; omega) (fun r hr e => by have := HD.out r (List.mem_append_left _ hr); have := HVZ.out _ e; omega) (fun r hr e => by have := HD.out r (List.mem_append_right _ hr); have := HVZ.out _ e; omega))
           have HA5 := hide ha5; have HT5 := hide ht5
           have hz5 := CH5.out.siz
           have k0 : w5.cell? ⟨kb, 0, none⟩ = some (.slice A1 tT.length c1) := by rw [cell_of_row _ _ _ _ _ _ X5.out.row]; rfl
           have HR5 := hide (show r5.cell = .slice (some ⟨r5.blk, 0, none⟩) r5.txt.length r5.cap from rfl)
           obtain ⟨R1, hR1⟩ : ∃ R1, r5.cell = R1 := ⟨_, rfl⟩
           rw [hR1]
           have HR1 := hide hR1
           obtain ⟨A5, n5, c5, rfl⟩ : ∃ A n c, R1 = .slice A n c := ⟨_, _, _, hR1.symm⟩
           clear ht5 ha5 hg5 hR1)
        | (at_builtin
           refine wpList_row_append rfl (.tmp 27) (.tmp 29) rfl base (.slice A1 tT.length c1) tT rfl (X5.out.told.later (bal w5 (.cells #[.slice A5 n5 c5] 37))) w5.heap.size 1 r5 rfl (by rw [cell_of_row _ _ _ _ _ _ (heap_alloc_new w5 _), HR1.out]; rfl) (OwnS.later (OwnS.from HA5.out (by have := OwnS.base HA5.out; omega)) (bal w5 _) (OwnS.blk HA5.out)) (fun e => by
             obtain ⟨_, _, cur, hc⟩ := X5.out.told.blk e
             obtain ⟨cur', hc', _⟩ := OwnS.row HA5.out
             exact kept_ne hc hc' (by decide) rfl) (by omega) (by simp; omega) ?_
           intro h6 w6 y6 hg6 hw6
           have Y6 := hide y6; have HW6 := hide hw6
           have CH6 := hide (show Ch base (fun k => k = kb ∨ (Value.slice A j c).ownBlock = some k ∨ (Value.slice A1 tT.length c1).ownBlock = some k ∨ (Value.slice A2 tW.length c2).ownBlock = some k) w w6 from ((CH5.out.wide fun k _ hk => .inr (.inl hk)).mono hz1).trans ((Ch.of (bal w5 _) (by omega)).trans (Ch.grown hg6 (by simp; omega) (fun k hk => (X5.out.told.blk hk).2.1) (fun k hk => .inr (.inr (.inl hk))))))
           have hkl : kb < w5.heap.size := (Array.getElem?_eq_some_iff.1 X5.out.row).1
           have row6 : w6.heap[kb]? = some (.cells #[.slice A1 tT.length c1, .slice A2 tW.length c2] 36 (0, 0)) := (hg6.block kb (by simp; omega) (fun e => by
             obtain ⟨_, _, cur, hc⟩ := X5.out.told.blk e.symm
             exact kept_ne hc X5.out.row (by decide) rfl)).trans (((bal w5 (.cells #[.slice A5 n5 c5] 37)).block kb hkl).trans X5.out.row)
           have ROW6 := hide row6
           have c06 : w6.cell? ⟨kb, 0, none⟩ = some (.slice A1 tT.length c1) := by rw [cell_of_row _ _ _ _ _ _ row6]; rfl
           have f06 : w6.frozen? ⟨kb, 0, none⟩ = false := by unfold World.frozen?; rw [row6]; rfl
           have WAS6 := hide (show Rws w6 base (.slice A2 tW.length c2) tW from (X5.out.was.later (bal w5 (.cells #[.slice A5 n5 c5] 37))).stands (fun k hk => hg6.block k (by have := (X5.out.was.blk hk).1; simp; omega) (fun e => X5.out.nh k e.symm hk)) (fun r hr => hg6.block _ (by have := OwnS.blk (X5.out.was.each r hr); simp; omega) (fun e => by
             obtain ⟨_, _, cur, hc⟩ := X5.out.told.blk e.symm
             obtain ⟨cur', hc', _⟩ := OwnS.row (X5.out.was.each r hr)
             exact kept_ne hc hc' (by decide) rfl)))
           have BY6 := hide (Y6.out.each r5 (by simp))
           obtain ⟨A6, c6, rfl, _, _⟩ := y6.len
           clear y6 hg6 hw6 row6))
      have hlo : base ≤ kb := X.out.lo
      have hlen6 : (tT ++ [r5]).length = tT.length + 1 := by simp
      rw [hlen6] at Y6 HW6
      have hnw : tW.length ≤ 5000 := by have := congrArg List.length X.out.same; simp at this; omega
      have ROW7 := hide (show (w6.setCell ⟨kb, 0, none⟩ (.slice A6 (tT.length + 1) c6)).heap[kb]? = some (.cells #[.slice A6 (tT.length + 1) c6, .slice A2 tW.length c2] 36 (0, 0)) from by rw [setCell_row ROW6.out]; rfl)
      have TOLD7 := hide (Y6.out.set (j := 0) ROW6.out (by decide) (by decide) (.slice A6 (tT.length + 1) c6))
      have WAS7 := hide (WAS6.out.set (j := 0) ROW6.out (by decide) (by decide) (.slice A6 (tT.length + 1) c6))
      have CH7 := hide (CH6.out.trans (Ch.set (j := 0) (v := .slice A6 (tT.length + 1) c6) hlo (.inl rfl)))
      generalize w6.setCell ⟨kb, 0, none⟩ (.slice A6 (tT.length + 1) c6) = w7 at ROW7 TOLD7 WAS7 CH7 ⊢
      have BY7 := hide (OwnS.bytes (TOLD7.out.each r5 (by simp)))
      have hb7 := CH7.out.siz
      have hrl : 0 < r5.txt.length ∧ r5.txt.length ≤ 1000000 := ⟨by have := HT5.out; rw [this]; simp, by have := HT5.out; rw [this]; simp; omega⟩
      obtain ⟨hA, hhA⟩ : ∃ hA, Value.slice A6 (tT.length + 1) c6 = hA := ⟨_, rfl⟩
      obtain ⟨hB, hhB⟩ : ∃ hB, Value.slice A2 tW.length c2 = hB := ⟨_, rfl⟩
      rw [hhA] at ROW7 TOLD7 HW6
      rw [hhB] at ROW7 WAS7
      have hzr5 : zm ≤ r5.blk := OwnS.base HA5.out
      have hown6 : hA.ownBlock = (Value.slice A1 tT.length c1).ownBlock ∨ ∀ k, hA.ownBlock = some k → w.heap.size ≤ k := HW6.out.imp id fun h k hk => by have h1 := h k hk; simp at h1; omega
      have HOWN6 := hide hown6
      clear hown6
      clear k0 c06 f06 X5 HA5 ROW6 WAS6 BY6 Y6 XR xr GM GM2 CH CH5 CH6
      have NH7 := hide (show ∀ k, hA.ownBlock = some k → hB.ownBlock ≠ some k from fun k hk e => by
        rcases HOWN6.out with h | h
        · exact X.out.nh k (h ▸ hk) (by rw [hhB]; exact e)
        · have h1 := h k hk
          rw [← hhB] at e
          have := (X.out.was.blk e).1
          omega)
      refine wp_region_factsW (KC w7 base kb hB) (kpF base kb w7.heap.size hA hB tW r5) kpT kpM ?m0 ?mb kpF_sup (by kernel_rfl) (by kernel_rfl) ?com ?ini ?steps ?fin
      case m0 =>
        intro j hj
        have hj' : 12 ≤ j := hj
        unfold kpM; rw [if_pos hj']
      case mb =>
        intro j i hi hij
        unfold kpM at hi
        split at hi
        · cases hi
        · exact absurd (List.mem_singleton.1 hi) hij
      case com => exact ⟨Ch.of (below_drewN (Below.refl _ _) 1) (by omega), by show base ≤ w7.heap.size; omega⟩
      case ini =>
        intro j hj
        have hj' : 12 ≤ j := hj
        match j, hj' with
        | 12, _ => exact ⟨ROW7.out, WAS7.out.later (below_drewN (Below.refl _ _) 1)⟩
        | 13, _ => exact ROW7.out
        | 14, _ => exact BY7.out
        | _ + 15, _ => exact trivial
      case steps =>
        refine AllFrom.cons (step_isW (by kernel_rfl) ?s0) (AllFrom.cons (i := 1) (step_isW (by kernel_rfl) ?s1) (AllFrom.cons (i := 2) (step_isW (by kernel_rfl) ?s2) (AllFrom.cons (i := 3) (step_isW (by kernel_rfl) ?s3) (AllFrom.cons (i := 4) (step_isW (by kernel_rfl) ?s4) (AllFrom.cons (i := 5) (step_isW (by kernel_rfl) ?s5) (AllFrom.cons (i := 6) (step_fnW (by kernel_rfl) 13 #[.tmp 38] _ rfl (enters_of Try.func13 (by kernel_rfl) rfl) ?s6) (AllFrom.cons (i := 7) (step_runW (by kernel_rfl) ?s7) (AllFrom.cons (i := 8) ?s8 (AllFrom.cons (i := 9) (step_isW (by kernel_rfl) ?s9) (AllFrom.cons (i := 10) (step_isW (by kernel_rfl) ?s10) (AllFrom.cons (i := 11) (step_runW (by kernel_rfl) ?s11) (trivial))))))))))))
        case s0 =>
          intro L vals W ρ hI hi hdep hnew hold hc
          have e0 : ρ (.tmp 0) = .pointer (some ⟨kb, 0, none⟩) := (hold 0 (by kernel_rfl)).trans (by kernel_rfl)
          refine ⟨.pointer (some ⟨kb, 0, none⟩), ?_, by simp [kpF, upd]⟩
          simp [execOp, e0, go_sem]
        case s1 =>
          intro L vals W ρ hI hi hdep hnew hold hc
          have e0 : ρ (.tmp 0) = .pointer (some ⟨kb, 0, none⟩) := (hold 0 (by kernel_rfl)).trans (by kernel_rfl)
          refine ⟨.pointer (some ⟨kb, 0, none⟩), ?_, by simp [kpF, upd]⟩
          simp [execOp, e0, go_sem]
        case s2 =>
          intro L vals W ρ hI hi hdep hnew hold hc
          have e0 : ρ (.tmp 34) = .pointer (some ⟨kb, 0, none⟩) := (hnew 1 34 (dep hdep 1 (by kernel_rfl)) (by kernel_rfl) (of_decide_eq_true (by kernel_rfl)) (of_decide_eq_true (by kernel_rfl))).trans (hI.fact 1 (.inr (dep hdep 1 (by kernel_rfl))) (neverW hI (of_decide_eq_true (by kernel_rfl))))
          refine ⟨.pointer (some ⟨kb, 0, none⟩), ?_, by simp [kpF, upd]⟩
          simp [execOp, e0, go_sem]
        case s3 =>
          intro L vals W ρ hI hi hdep hnew hold hc
          have e0 : ρ (.tmp 35) = .pointer (some ⟨kb, 0, none⟩) := (hnew 2 35 (dep hdep 2 (by kernel_rfl)) (by kernel_rfl) (of_decide_eq_true (by kernel_rfl)) (of_decide_eq_true (by kernel_rfl))).trans (hI.fact 2 (.inr (dep hdep 2 (by kernel_rfl))) (neverW hI (of_decide_eq_true (by kernel_rfl))))
          refine ⟨.pointer (some ⟨kb, 1, none⟩), ?_, by simp [kpF, upd]⟩
          simp [execOp, e0, go_sem]
        case s4 =>
          intro L vals W ρ hI hi hdep hnew hold hc
          have e0 : ρ (.tmp 36) = .pointer (some ⟨kb, 1, none⟩) := (hnew 3 36 (dep hdep 3 (by kernel_rfl)) (by kernel_rfl) (of_decide_eq_true (by kernel_rfl)) (of_decide_eq_true (by kernel_rfl))).trans (hI.fact 3 (.inr (dep hdep 3 (by kernel_rfl))) (neverW hI (of_decide_eq_true (by kernel_rfl))))
          have hbx : W.heap[kb]? = some (.cells #[hA, hB] 36 (0, 0)) ∧ Rws W base hB tW := hI.fact 12 (.inl (of_decide_eq_true (by kernel_rfl))) (hI.ahead hi 8 (by kernel_rfl))
          have c : W.cell? ⟨kb, 1, none⟩ = some hB := by rw [cell_of_row _ _ _ _ _ _ hbx.1]; rfl
          refine ⟨hB, ?_, by simp [kpF, upd]⟩
          simp [execOp, e0, c, go_sem]
        case s5 =>
          intro L vals W ρ hI hi hdep hnew hold hc
          have e0 : ρ (.tmp 5) = .slice A5 n5 c5 := (hold 5 (by kernel_rfl)).trans (by kernel_rfl)
          refine ⟨.slice A5 n5 c5, ?_, by simp [kpF, upd, HR1.out]⟩
          simp [execOp, e0, go_sem]
        case s6 =>
          intro L vals W ρ hI hi hdep hnew hold hc
          have f5 : vals 5 = r5.cell := hI.fact 5 (.inr (dep hdep 5 (by kernel_rfl))) (neverW hI (of_decide_eq_true (by kernel_rfl)))
          have e0 : ρ (.tmp 38) = r5.cell := (hnew 5 38 (dep hdep 5 (by kernel_rfl)) (by kernel_rfl) (of_decide_eq_true (by kernel_rfl)) (of_decide_eq_true (by kernel_rfl))).trans f5
          have hby : Bytes W (some ⟨r5.blk, 0, none⟩) r5.txt := hI.fact 14 (.inl (of_decide_eq_true (by kernel_rfl))) hi
          refine ⟨#[r5.cell], by simp [e0], (twin_at (some ⟨r5.blk, 0, none⟩) r5.txt.length r5.cap r5.txt W rfl hby (by omega)).mono ?_⟩
          rintro e W' ⟨v, rfl, gg, hb'⟩
          obtain ⟨r', rfl, htx, hat⟩ := gg.own (by omega)
          have hsz := hI.com.ch.siz
          refine ⟨_, rfl, hI.com.later hb', ⟨r', by simp [upd], htx, OwnS.from hat (by have := OwnS.base hat; omega)⟩, fun j _ _ hj hT => kpF_later hb' j vals (hI.fact j hj hT)⟩
        case s7 =>
          intro L vals W ρ hI hi hdep hnew hold hc
          obtain ⟨r, f6, h6, h7⟩ : kpF base kb w7.heap.size hA hB tW r5 6 vals W := hI.fact 6 (.inr (dep hdep 6 (by kernel_rfl))) hi
          have e0 : ρ (.tmp 39) = r.cell := (hnew 6 39 (dep hdep 6 (by kernel_rfl)) (by kernel_rfl) (of_decide_eq_true (by kernel_rfl)) (of_decide_eq_true (by kernel_rfl))).trans f6
          have hb' := bal W (.cells #[r.cell] 37)
          refine ⟨.slice (some ⟨W.heap.size, 0, none⟩) 1 1, W.alloc (.cells #[r.cell] 37), .inl ?_, hI.com.later hb', ⟨W.heap.size, r, by simp [upd], heap_alloc_new W _, h6, OwnS.later h7 hb' (OwnS.blk h7)⟩, fun j _ _ hj hT => kpF_later hb' j vals (hI.fact j hj hT)⟩
          have er : r.cell = .slice (some ⟨r.blk, 0, none⟩) r.txt.length r.cap := rfl
          rw [er] at e0 ⊢
          simp [execOp, e0, go_sem]
        case s8 =>
          intro L vals W hI hi hdep
          obtain ⟨q, r, f7, h7, o7, r7⟩ : kpF base kb w7.heap.size hA hB tW r5 7 vals W := hI.fact 7 (.inr (dep hdep 7 (by kernel_rfl))) hi
          have f4 : vals 4 = hB := hI.fact 4 (.inr (dep hdep 4 (by kernel_rfl))) (neverW hI (of_decide_eq_true (by kernel_rfl)))
          have hbx : W.heap[kb]? = some (.cells #[hA, hB] 36 (0, 0)) ∧ Rws W base hB tW := hI.fact 12 (.inl (of_decide_eq_true (by kernel_rfl))) hi
          have hsz := hI.com.ch.siz; have hsb := hI.com.siz
          have hne : ∀ {k : Nat} {cs : Array Value} {t : TypeId}, W.heap[k]? = some (.cells cs t (0, 0)) → t ≠ 37 → some k ≠ hB.ownBlock := by
            intro k cs t hk ht hke
            obtain ⟨_, _, cur, hcur⟩ := hbx.2.blk hke.symm
            exact kept_ne hk hcur ht rfl
          have hrne : ∀ r' : Rw, ∀ B', r'.at W B' → some r'.blk ≠ hB.ownBlock := fun r' B' h => by
            obtain ⟨cur, h1, _⟩ := OwnS.row h
            exact hne h1 (by decide)
          refine wp_row_append (.tmp 37) (.tmp 40) rfl base hB tW ((ev_get (by kernel_rfl) 4 37 (dep hdep 4 (by kernel_rfl)) (by kernel_rfl) (of_decide_eq_true (by kernel_rfl)) (of_decide_eq_true (by kernel_rfl))).trans f4) hbx.2 q 1 r ((ev_get (by kernel_rfl) 7 40 (dep hdep 7 (by kernel_rfl)) (by kernel_rfl) (of_decide_eq_true (by kernel_rfl)) (of_decide_eq_true (by kernel_rfl))).trans f7) (by rw [cell_of_row _ _ _ _ _ _ h7]; rfl) (OwnS.from r7 (by have := OwnS.base r7; omega)) (fun e => hrne r _ r7 e.symm) (by omega) hsb ?_
          intro h' W' hown hgr hwh
          have hkl := (Array.getElem?_eq_some_iff.1 hbx.1).1
          refine ⟨h', rfl, hI.com.grown hgr (fun k hk => (hbx.2.blk hk).2.1), ⟨r, o7, by simpa [upd] using hown, OwnS.base r7, by simp only [upd]; exact hwh.imp id fun h k hk => Nat.le_trans hsz (h k hk)⟩, fun j hj8 hT8 hj hT => ?_⟩
          have hf := hI.fact j hj hT
          match j, hf, hT8, hj8, hT, hj with
          | 0, hf, _, _, _, _ | 1, hf, _, _, _, _ | 2, hf, _, _, _, _ | 3, hf, _, _, _, _ | 4, hf, _, _, _, _ | 5, hf, _, _, _, _ | 9, hf, _, _, _, _ | 10, hf, _, _, _, _ => exact hf
          | 6, _, _, _, hT, _ => exact absurd (dep hdep 7 (by kernel_rfl)) (by rw [show L.getD 7 false = false from hT]; simp)
          | 7, _, hT8, _, _, _ | 12, _, hT8, _, _, _ => exact absurd rfl hT8
          | 8, _, _, hj8, _, _ => exact absurd rfl hj8
          | 11, _, _, _, _, hj => exact absurd (hj.resolve_left (by exact of_decide_eq_false (by kernel_rfl))) (by rw [hI.ahead hi 11 (by kernel_rfl)]; simp)
          | 13, hf, _, _, _, _ => exact (hgr.block kb hkl (hne hf (by decide))).trans hf
          | 14, hf, _, _, _, hj => exact absurd (hI.clo 7 _ rfl (dep hdep 7 (by kernel_rfl)) ⟨6, .data⟩ (by simp) rfl) (by rw [show L.getD 6 false = false from (by assumption)]; simp)
          | _ + 15, _, _, _, _, _ => trivial
        case s9 =>
          intro L vals W ρ hI hi hdep hnew hold hc
          have e0 : ρ (.tmp 33) = .pointer (some ⟨kb, 0, none⟩) := (hnew 0 33 (dep hdep 0 (by kernel_rfl)) (by kernel_rfl) (of_decide_eq_true (by kernel_rfl)) (of_decide_eq_true (by kernel_rfl))).trans (hI.fact 0 (.inr (dep hdep 0 (by kernel_rfl))) (neverW hI (of_decide_eq_true (by kernel_rfl))))
          refine ⟨.pointer (some ⟨kb, 0, none⟩), ?_, by simp [kpF, upd]⟩
          simp [execOp, e0, go_sem]
        case s10 =>
          intro L vals W ρ hI hi hdep hnew hold hc
          have e0 : ρ (.tmp 42) = .pointer (some ⟨kb, 0, none⟩) := (hnew 9 42 (dep hdep 9 (by kernel_rfl)) (by kernel_rfl) (of_decide_eq_true (by kernel_rfl)) (of_decide_eq_true (by kernel_rfl))).trans (hI.fact 9 (.inr (dep hdep 9 (by kernel_rfl))) (neverW hI (of_decide_eq_true (by kernel_rfl))))
          refine ⟨.pointer (some ⟨kb, 1, none⟩), ?_, by simp [kpF, upd]⟩
          simp [execOp, e0, go_sem]
        case s11 =>
          intro L vals W ρ hI hi hdep hnew hold hc
          obtain ⟨r, hr1, hown, hr2, hwh⟩ : kpF base kb w7.heap.size hA hB tW r5 8 vals W := hI.fact 8 (.inr (dep hdep 8 (by kernel_rfl))) hi
          have hrow : W.heap[kb]? = some (.cells #[hA, hB] 36 (0, 0)) := hI.fact 13 (.inl (of_decide_eq_true (by kernel_rfl))) hi
          have e0 : ρ (.tmp 41) = vals 8 := hnew 8 41 (dep hdep 8 (by kernel_rfl)) (by kernel_rfl) (of_decide_eq_true (by kernel_rfl)) (of_decide_eq_true (by kernel_rfl))
          have e1 : ρ (.tmp 43) = .pointer (some ⟨kb, 1, none⟩) := (hnew 10 43 (dep hdep 10 (by kernel_rfl)) (by kernel_rfl) (of_decide_eq_true (by kernel_rfl)) (of_decide_eq_true (by kernel_rfl))).trans (hI.fact 10 (.inr (dep hdep 10 (by kernel_rfl))) (neverW hI (of_decide_eq_true (by kernel_rfl))))
          have c1 : W.cell? ⟨kb, 1, none⟩ = some hB := by rw [cell_of_row _ _ _ _ _ _ hrow]; rfl
          have f1 : W.frozen? ⟨kb, 1, none⟩ = false := by unfold World.frozen?; rw [hrow]; simp
          generalize vals 8 = h' at e0 hown hwh
          obtain ⟨A', c', rfl, _, _⟩ := hown.len
          refine ⟨undef, W.setCell ⟨kb, 1, none⟩ (.slice A' (tW ++ [r]).length c'), .inr ⟨rfl, ?_⟩, hI.com.set hlo 1 _, ⟨_, r, hr1, hr2, by rw [setCell_row hrow]; rfl, hown.set hrow (by decide) (by decide) _, hwh⟩, fun j hj11 hT11 hj hT => ?_⟩
          · simp [execOp, e0, e1, go_sem, c1, f1]
          · have hf := hI.fact j hj hT
            match j, hf, hT11, hj11, hT with
            | 0, hf, _, _, _ | 1, hf, _, _, _ | 2, hf, _, _, _ | 3, hf, _, _, _ | 4, hf, _, _, _ | 5, hf, _, _, _ | 9, hf, _, _, _ | 10, hf, _, _, _ => exact hf
            | 6, _, _, _, hT => exact absurd (hI.clo 8 _ rfl (dep hdep 8 (by kernel_rfl)) ⟨7, .data⟩ (by simp) rfl) (by rw [show L.getD 7 false = false from hT]; simp)
            | 7, _, _, _, hT | 12, _, _, _, hT => exact absurd (dep hdep 8 (by kernel_rfl)) (by rw [show L.getD 8 false = false from hT]; simp)
            | 8, _, hT11, _, _ | 13, _, hT11, _, _ => exact absurd rfl hT11
            | 11, _, _, hj11, _ => exact absurd rfl hj11
            | 14, _, _, _, hT => exact absurd (hI.clo 7 _ rfl (hI.clo 8 _ rfl (dep hdep 8 (by kernel_rfl)) ⟨7, .data⟩ (by simp) rfl) ⟨6, .data⟩ (by simp) rfl) (by rw [show L.getD 6 false = false from hT]; simp)
            | _ + 15, _, _, _, _ => trivial
      case fin =>
        intro vals W hC hF
        obtain ⟨hW', r, hr1, hr2, hrow, hown, hwh⟩ : kpF base kb w7.heap.size hA hB tW r5 11 vals W := hF 11 (of_decide_eq_true (by kernel_rfl)) (of_decide_eq_true (by kernel_rfl))
        simp [canon, dstOf, Act.put]
        have HC := hide hC; have HROW := hide hrow; have HOWN := hide hown; have HWH := hide hwh
        clear hF hC hrow hown hwh
        go_wp2
        go_end0
        refine ⟨rfl, hA, hW', r5, r, ⟨hlo, HROW.out, ?_, HOWN.out, ?_, ?_⟩, ?_, ?_, ?_, ?_, ?_⟩
        case refine_1 =>
          refine TOLD7.out.ch HC.out.ch (fun k hk e => ?_) (fun r' hr' e => ?_)
          · obtain ⟨_, _, cur, hc⟩ := TOLD7.out.blk hk
            rcases e with e | e
            · exact kept_ne hc ROW7.out (by decide) e
            · exact NH7.out k hk e
          · obtain ⟨cur, hc, _⟩ := OwnS.row (TOLD7.out.each r' hr')
            rcases e with e | e
            · exact kept_ne hc ROW7.out (by decide) e
            · obtain ⟨_, _, cur2, hc2⟩ := WAS7.out.blk e
              exact kept_ne hc hc2 (by decide) rfl
        case refine_2 => rw [List.map_append, List.map_append, X.out.same]; simp [hr1]
        case refine_3 =>
          intro k hk e
          rcases HWH.out with h | h
          · exact NH7.out k hk (h ▸ e)
          · have h1 := h k e; have h2 := (TOLD7.out.blk hk).1; omega
        case refine_4 => exact hzr5
        case refine_5 => omega
        case refine_6 => exact HOWN6.out
        case refine_7 =>
          rw [hhB]
          exact HWH.out.imp id fun h k hk => by have := h k hk; omega
        case refine_8 =>
          rw [hhB]
          rw [hhB] at CH7
          refine CH7.out.then HC.out.ch fun k _ e => ?_
          rcases e with e | e
          · exact .inl e
          · exact .inr (.inr (.inr e))
end Go.Proofs.Ytdimllmbalponaa
