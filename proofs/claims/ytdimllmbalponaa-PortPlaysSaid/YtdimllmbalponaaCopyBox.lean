/-
  Copy: a box like another one, in memory of its own.
-/
import Derived.Test.YtdimllmbalponaaCollect
namespace Go.Proofs.Ytdimllmbalponaa
open Go.RowKit Go.Shelf
set_option linter.unusedVariables false

def zbox : Array Value := #[.pointer none, .int .i64 0, .int .i64 0, .int .i64 0, .int .i64 0, .int .i64 0, .int .i64 0, .int .i64 0, .int .i64 0, .int .i64 0, .int .i64 0, .nilFunc, .nilFunc, .slice none 0 0, .bool false]
theorem ownsRow_mono {W : World} {B B' : Nat} {h : Value} {n : Nat} {xs : List Value} (x : W.ownsRow B 76 2 h n xs) (hb : B' ≤ B) : W.ownsRow B' 76 2 h n xs := by
  refine ⟨x.1, ?_⟩
  rcases x.2 with h1 | ⟨g, cap, cur, h1, h2, h3⟩
  · exact .inl h1
  · exact .inr ⟨g, cap, cur, h1, Nat.le_trans hb h2, h3⟩
/-- what the operations of Copy's last line have made -/
def bcF (w : World) (b : Nat) (P : Prm) (ms : List Msg) (lost : Bool) (j : Nat) (vals : Nat → Value) (W : World) : Prop :=
  match j with
  | 0 => vals 0 = (.pointer (some ⟨b, 0, none⟩))
  | 1 => vals 1 = (.pointer (some ⟨b, 0, none⟩))
  | 2 => vals 2 = (.pointer (some ⟨b, 1, none⟩))
  | 3 => vals 3 = (.agg #[.int .i64 P.pt, .int .i64 P.k, .int .i64 P.d, .int .i64 P.s, .int .i64 P.e, .int .i64 P.f])
  | 4 => vals 4 = (.pointer (some ⟨b, 0, none⟩))
  | 5 => vals 5 = (.pointer (some ⟨b, 0, none⟩))
  | 6 => vals 6 = (.pointer (some ⟨b, 7, none⟩))
  | 7 => vals 7 = (.agg #[.int .i64 P.dl, .int .i64 P.dm, .int .i64 P.fl, .int .i64 P.fm, P.p, P.g])
  | 8 => vals 8 = (.pointer (some ⟨b, 0, none⟩))
  | 11 => vals 11 = (.pointer (some ⟨b, 0, none⟩))
  | 12 => vals 12 = (.pointer (some ⟨b, 0, none⟩))
  | 13 => vals 13 = (.pointer (some ⟨b, 14, none⟩))
  | 14 => vals 14 = (.bool lost)
  | 9 => ∃ B : Nat, vals 9 = .func (.func 40) #[] #[.pointer (some ⟨B, 0, none⟩)] ∧ W.cell? ⟨B, 0, none⟩ = some (.pointer (some ⟨b, 0, none⟩))
  | 10 => ∃ ms' : List Msg, W.ownsRow w.heap.size 76 2 (vals 10) ms'.length (ms'.flatMap Msg.cells) ∧ (∀ m ∈ ms', m.at W w.heap.size) ∧ ms'.map Msg.tell = ms.map Msg.tell
  | 15 => ∃ (h' : Value) (ms' : List Msg), vals 15 = .agg #[.pointer none, .int .i64 P.pt, .int .i64 P.k, .int .i64 P.d, .int .i64 P.s, .int .i64 P.e, .int .i64 P.f, .int .i64 P.dl, .int .i64 P.dm, .int .i64 P.fl, .int .i64 P.fm, P.p, P.g, h', .bool lost] ∧ W.ownsRow w.heap.size 76 2 h' ms'.length (ms'.flatMap Msg.cells) ∧ (∀ m ∈ ms', m.at W w.heap.size) ∧ ms'.map Msg.tell = ms.map Msg.tell
  | 16 => ∃ (b2 : Nat) (h' : Value) (ms' : List Msg), vals 16 = .pointer (some ⟨b2, 0, none⟩) ∧ w.heap.size ≤ b2 ∧ W.heap[b2]? = some (.cells (pcs b2 P h' lost) 60 (0, 0)) ∧ W.ownsRow w.heap.size 76 2 h' ms'.length (ms'.flatMap Msg.cells) ∧ (∀ m ∈ ms', m.at W w.heap.size) ∧ ms'.map Msg.tell = ms.map Msg.tell
  | 17 => ∃ (b2 : Nat) (h' : Value) (ms' : List Msg), vals 17 = .pointer (some ⟨b2, 0, none⟩) ∧ w.heap.size ≤ b2 ∧ W.heap[b2]? = some (.cells (pcs b2 P h' lost) 60 (0, 0)) ∧ W.ownsRow w.heap.size 76 2 h' ms'.length (ms'.flatMap Msg.cells) ∧ (∀ m ∈ ms', m.at W w.heap.size) ∧ ms'.map Msg.tell = ms.map Msg.tell
  | _ => True
theorem bcF_sup {w : World} {b : Nat} {P : Prm} {ms : List Msg} {lost : Bool} : ∀ j vals vals' W, (∀ i ∈ [j], vals i = vals' i) → bcF w b P ms lost j vals W → bcF w b P ms lost j vals' W := by
  intro j vals vals' W h hF
  have hj := h j (by simp)
  unfold bcF at hF ⊢
  split <;> first | (rw [← hj]; exact hF) | trivial
theorem list_later {w W W' : World} {ms ms' : List Msg} {h' : Value} (hb : Below W.heap.size W W') (k : W.ownsRow w.heap.size 76 2 h' ms'.length (ms'.flatMap Msg.cells) ∧ (∀ m ∈ ms', m.at W w.heap.size) ∧ ms'.map Msg.tell = ms.map Msg.tell) :
    W'.ownsRow w.heap.size 76 2 h' ms'.length (ms'.flatMap Msg.cells) ∧ (∀ m ∈ ms', m.at W' w.heap.size) ∧ ms'.map Msg.tell = ms.map Msg.tell :=
  ⟨own_stands k.1 fun j hj => hb.block j (own_block k.1 hj).1, fun m hm => OwnS.later (k.2.1 m hm) hb (OwnS.blk (k.2.1 m hm)), k.2.2⟩
theorem bcF_later {w : World} {b : Nat} {P : Prm} {ms : List Msg} {lost : Bool} {W W' : World} (hb : Below W.heap.size W W') (j : Nat) (vals : Nat → Value) (h : bcF w b P ms lost j vals W) : bcF w b P ms lost j vals W' := by
  have key : ∀ {i : Nat} {o : Obj}, W.heap[i]? = some o → W'.heap[i]? = some o := fun h => (hb.block _ (Array.getElem?_eq_some_iff.1 h).1).trans h
  match j, h with
  | 0, h | 1, h | 2, h | 3, h | 4, h | 5, h | 6, h | 7, h | 8, h | 11, h | 12, h | 13, h | 14, h => exact h
  | 9, ⟨B, h1, h2⟩ => exact ⟨B, h1, (bcl hb (World.block_lt_of_cell? W _ h2)).trans h2⟩
  | 10, ⟨ms', h1⟩ => exact ⟨ms', list_later hb h1⟩
  | 15, ⟨h', ms', h0, h1⟩ => exact ⟨h', ms', h0, list_later hb h1⟩
  | 16, ⟨b2, h', ms', h0, h1, h2, h3⟩ => exact ⟨b2, h', ms', h0, h1, key h2, list_later hb h3⟩
  | 17, ⟨b2, h', ms', h0, h1, h2, h3⟩ => exact ⟨b2, h', ms', h0, h1, key h2, list_later hb h3⟩
  | _ + 18, _ => trivial

set_option maxRecDepth 100000 in
set_option maxHeartbeats 2000000 in
theorem copy_at {base b : Nat} {P : Prm} {h : Value} {ms : List Msg} {lost : Bool} {w : World} (x : BoxW w base b P h ms lost) (hp1 : P.p.oneCell' = true) (hg1 : P.g.oneCell' = true) (hs : ∀ m ∈ ms, m.txt.length ≤ 1000000) (hn : ms.length ≤ 1000) :
    Calls Try.prog 23 #[.pointer (some ⟨b, 0, none⟩)] w fun e w' => (∃ (b2 : Nat) (h' : Value) (ms' : List Msg), e = .returned (.pointer (some ⟨b2, 0, none⟩)) ∧ BoxW w' w.heap.size b2 P h' ms' lost ∧ ms'.map Msg.tell = ms.map Msg.tell) ∧ Below w.heap.size w w' := by
  have c0 := x.cell 0 _ rfl
  have hmade := isMade_at b w c0
  have hzb := (zero_of_info (show (Try.prog.info? 60).map (fun i => (i.zero, i.size)) = some (some (.agg zbox), 15) by kernel_rfl)).1
  have XB := hide x; have HS := hide hs
  clear c0 x hs
  go_enter Try.func23, Try.ntmps23
  go_wp2_with fail
  refine hmade.mono ?_
  rintro e w' ⟨rfl, rfl⟩
  clear hmade
  go_wp2_with fail
  refine wp_region_factsV (fun W => Below w.heap.size w W) (bcF w b P ms lost) (fun _ => 100) (fun j => [j]) ?mb bcF_sup (by kernel_rfl) (by kernel_rfl) (below_drewN (Below.refl _ _) 1) ?steps ?fin
  case mb =>
    intro j i hi hij
    exact absurd (List.mem_singleton.1 hi) hij
  case steps =>
    refine AllFrom.cons (step_isV (by kernel_rfl) ?s0) (AllFrom.cons (i := 1) (step_isV (by kernel_rfl) ?s1) (AllFrom.cons (i := 2) (step_isV (by kernel_rfl) ?s2) (AllFrom.cons (i := 3) (step_isV (by kernel_rfl) ?s3) (AllFrom.cons (i := 4) (step_isV (by kernel_rfl) ?s4) (AllFrom.cons (i := 5) (step_isV (by kernel_rfl) ?s5) (AllFrom.cons (i := 6) (step_isV (by kernel_rfl) ?s6) (AllFrom.cons (i := 7) (step_isV (by kernel_rfl) ?s7) (AllFrom.cons (i := 8) (step_isV (by kernel_rfl) ?s8) (AllFrom.cons (i := 9) (step_fnV (by kernel_rfl) 35 #[.tmp 14] _ rfl (enters_of Try.func35 (by kernel_rfl) rfl) ?s9) (AllFrom.cons (i := 10) (step_fnV (by kernel_rfl) 34 #[.tmp 15] _ rfl (enters_of Try.func34 (by kernel_rfl) rfl) ?s10) (AllFrom.cons (i := 11) (step_isV (by kernel_rfl) ?s11) (AllFrom.cons (i := 12) (step_isV (by kernel_rfl) ?s12) (AllFrom.cons (i := 13) (step_isV (by kernel_rfl) ?s13) (AllFrom.cons (i := 14) (step_isV (by kernel_rfl) ?s14) (AllFrom.cons (i := 15) (step_isV (by kernel_rfl) ?s15) (AllFrom.cons (i := 16) (step_fnV (by kernel_rfl) 11 #[.tmp 21] _ rfl (enters_of Try.func11 (by kernel_rfl) rfl) ?s16) (AllFrom.cons (i := 17) (step_isV (by kernel_rfl) ?s17) (trivial))))))))))))))))))
    case s0 =>
      intro l vals W ρ hI hi hdep hnew hold hc
      have r0 : ρ (.tmp 0) = (.pointer (some ⟨b, 0, none⟩)) := (hold 0 (by kernel_rfl)).trans (by kernel_rfl)
      refine ⟨(.pointer (some ⟨b, 0, none⟩)), ?_, by simp [bcF, upd]⟩
      simp [execOp, r0, go_sem]
    case s1 =>
      intro l vals W ρ hI hi hdep hnew hold hc
      have r0 : ρ (.tmp 6) = vals 0 := hnew 0 6 (dep hdep 0 (by kernel_rfl)) (by kernel_rfl) (of_decide_eq_true (by kernel_rfl)) (of_decide_eq_true (by kernel_rfl))
      have f0 : bcF w b P ms lost 0 vals W := hI.fact 0 (dep hdep 0 (by kernel_rfl)) (neverV hI (of_decide_eq_true (by kernel_rfl)))
      rw [show vals 0 = (.pointer (some ⟨b, 0, none⟩)) from f0] at r0
      refine ⟨(.pointer (some ⟨b, 0, none⟩)), ?_, by simp [bcF, upd]⟩
      simp [execOp, r0, go_sem]
    case s2 =>
      intro l vals W ρ hI hi hdep hnew hold hc
      have r0 : ρ (.tmp 7) = vals 1 := hnew 1 7 (dep hdep 1 (by kernel_rfl)) (by kernel_rfl) (of_decide_eq_true (by kernel_rfl)) (of_decide_eq_true (by kernel_rfl))
      have f0 : bcF w b P ms lost 1 vals W := hI.fact 1 (dep hdep 1 (by kernel_rfl)) (neverV hI (of_decide_eq_true (by kernel_rfl)))
      rw [show vals 1 = (.pointer (some ⟨b, 0, none⟩)) from f0] at r0
      refine ⟨(.pointer (some ⟨b, 1, none⟩)), ?_, by simp [bcF, upd]⟩
      simp [execOp, r0, go_sem]
    case s3 =>
      intro l vals W ρ hI hi hdep hnew hold hc
      have r0 : ρ (.tmp 8) = vals 2 := hnew 2 8 (dep hdep 2 (by kernel_rfl)) (by kernel_rfl) (of_decide_eq_true (by kernel_rfl)) (of_decide_eq_true (by kernel_rfl))
      have f0 : bcF w b P ms lost 2 vals W := hI.fact 2 (dep hdep 2 (by kernel_rfl)) (neverV hI (of_decide_eq_true (by kernel_rfl)))
      rw [show vals 2 = (.pointer (some ⟨b, 1, none⟩)) from f0] at r0
      have xb := XB.out.kept fun k hk => hI.com.block k hk
      have c1 := xb.cell 1 (.int .i64 P.pt) rfl
      have c2 := xb.cell 2 (.int .i64 P.k) rfl
      have c3 := xb.cell 3 (.int .i64 P.d) rfl
      have c4 := xb.cell 4 (.int .i64 P.s) rfl
      have c5 := xb.cell 5 (.int .i64 P.e) rfl
      have c6 := xb.cell 6 (.int .i64 P.f) rfl
      refine ⟨(.agg #[.int .i64 P.pt, .int .i64 P.k, .int .i64 P.d, .int .i64 P.s, .int .i64 P.e, .int .i64 P.f]), ?_, by simp [bcF, upd]⟩
      simp [execOp, r0, go_sem, c1, c2, c3, c4, c5, c6]
    case s4 =>
      intro l vals W ρ hI hi hdep hnew hold hc
      have r0 : ρ (.tmp 0) = (.pointer (some ⟨b, 0, none⟩)) := (hold 0 (by kernel_rfl)).trans (by kernel_rfl)
      refine ⟨(.pointer (some ⟨b, 0, none⟩)), ?_, by simp [bcF, upd]⟩
      simp [execOp, r0, go_sem]
    case s5 =>
      intro l vals W ρ hI hi hdep hnew hold hc
      have r0 : ρ (.tmp 10) = vals 4 := hnew 4 10 (dep hdep 4 (by kernel_rfl)) (by kernel_rfl) (of_decide_eq_true (by kernel_rfl)) (of_decide_eq_true (by kernel_rfl))
      have f0 : bcF w b P ms lost 4 vals W := hI.fact 4 (dep hdep 4 (by kernel_rfl)) (neverV hI (of_decide_eq_true (by kernel_rfl)))
      rw [show vals 4 = (.pointer (some ⟨b, 0, none⟩)) from f0] at r0
      refine ⟨(.pointer (some ⟨b, 0, none⟩)), ?_, by simp [bcF, upd]⟩
      simp [execOp, r0, go_sem]
    case s6 =>
      intro l vals W ρ hI hi hdep hnew hold hc
      have r0 : ρ (.tmp 11) = vals 5 := hnew 5 11 (dep hdep 5 (by kernel_rfl)) (by kernel_rfl) (of_decide_eq_true (by kernel_rfl)) (of_decide_eq_true (by kernel_rfl))
      have f0 : bcF w b P ms lost 5 vals W := hI.fact 5 (dep hdep 5 (by kernel_rfl)) (neverV hI (of_decide_eq_true (by kernel_rfl)))
      rw [show vals 5 = (.pointer (some ⟨b, 0, none⟩)) from f0] at r0
      refine ⟨(.pointer (some ⟨b, 7, none⟩)), ?_, by simp [bcF, upd]⟩
      simp [execOp, r0, go_sem]
    case s7 =>
      intro l vals W ρ hI hi hdep hnew hold hc
      have r0 : ρ (.tmp 12) = vals 6 := hnew 6 12 (dep hdep 6 (by kernel_rfl)) (by kernel_rfl) (of_decide_eq_true (by kernel_rfl)) (of_decide_eq_true (by kernel_rfl))
      have f0 : bcF w b P ms lost 6 vals W := hI.fact 6 (dep hdep 6 (by kernel_rfl)) (neverV hI (of_decide_eq_true (by kernel_rfl)))
      rw [show vals 6 = (.pointer (some ⟨b, 7, none⟩)) from f0] at r0
      have xb := XB.out.kept fun k hk => hI.com.block k hk
      have c7 := xb.cell 7 (.int .i64 P.dl) rfl
      have c8 := xb.cell 8 (.int .i64 P.dm) rfl
      have c9 := xb.cell 9 (.int .i64 P.fl) rfl
      have c10 := xb.cell 10 (.int .i64 P.fm) rfl
      have c11 := xb.cell 11 (P.p) rfl
      have c12 := xb.cell 12 (P.g) rfl
      refine ⟨(.agg #[.int .i64 P.dl, .int .i64 P.dm, .int .i64 P.fl, .int .i64 P.fm, P.p, P.g]), ?_, by simp [bcF, upd]⟩
      simp [execOp, r0, go_sem, c7, c8, c9, c10, c11, c12]
    case s8 =>
      intro l vals W ρ hI hi hdep hnew hold hc
      have r0 : ρ (.tmp 0) = (.pointer (some ⟨b, 0, none⟩)) := (hold 0 (by kernel_rfl)).trans (by kernel_rfl)
      refine ⟨(.pointer (some ⟨b, 0, none⟩)), ?_, by simp [bcF, upd]⟩
      simp [execOp, r0, go_sem]
    case s9 =>
      intro l vals W ρ hI hi hdep hnew hold hc
      have r0 : ρ (.tmp 14) = vals 8 := hnew 8 14 (dep hdep 8 (by kernel_rfl)) (by kernel_rfl) (of_decide_eq_true (by kernel_rfl)) (of_decide_eq_true (by kernel_rfl))
      have f0 : bcF w b P ms lost 8 vals W := hI.fact 8 (dep hdep 8 (by kernel_rfl)) (neverV hI (of_decide_eq_true (by kernel_rfl)))
      rw [show vals 8 = (.pointer (some ⟨b, 0, none⟩)) from f0] at r0
      refine ⟨#[.pointer (some ⟨b, 0, none⟩)], by simp [r0], (messages_at b W).mono ?_⟩
      rintro e W' ⟨rfl, hw⟩
      have hb' : Below W.heap.size W W' := by rw [hw]; exact bal W _
      refine ⟨_, rfl, hI.com.trans (hb'.mono hI.com.size), ⟨W.heap.size, by simp [upd], ?_⟩, fun j _ _ hj hT => bcF_later hb' j vals (hI.fact j hj hT)⟩
      rw [hw, cell_of_row _ _ _ _ _ _ (heap_alloc_new W _)]; rfl
    case s10 =>
      intro l vals W ρ hI hi hdep hnew hold hc
      obtain ⟨B, q1, q2⟩ : bcF w b P ms lost 9 vals W := hI.fact 9 (dep hdep 9 (by kernel_rfl)) (neverV hI (of_decide_eq_true (by kernel_rfl)))
      have r0 : ρ (.tmp 15) = vals 9 := hnew 9 15 (dep hdep 9 (by kernel_rfl)) (by kernel_rfl) (of_decide_eq_true (by kernel_rfl)) (of_decide_eq_true (by kernel_rfl))
      rw [q1] at r0
      have xb := XB.out.kept fun k hk => hI.com.block k hk
      refine ⟨#[.func (.func 40) #[] #[.pointer (some ⟨B, 0, none⟩)]], by simp [r0], (collect_at xb B q2 HS.out hn).mono ?_⟩
      rintro e W' ⟨h', rfl, ms', k1, k2, k3, hb'⟩
      have hzz := hI.com.size
      refine ⟨_, rfl, hI.com.trans (hb'.mono hzz), ⟨ms', by simpa [upd] using k1.mono hzz, fun m hm => OwnS.from (k2 m hm) (Nat.le_trans hzz (OwnS.base (k2 m hm))), k3⟩, fun j _ _ hj hT => bcF_later hb' j vals (hI.fact j hj hT)⟩
    case s11 =>
      intro l vals W ρ hI hi hdep hnew hold hc
      have r0 : ρ (.tmp 0) = (.pointer (some ⟨b, 0, none⟩)) := (hold 0 (by kernel_rfl)).trans (by kernel_rfl)
      refine ⟨(.pointer (some ⟨b, 0, none⟩)), ?_, by simp [bcF, upd]⟩
      simp [execOp, r0, go_sem]
    case s12 =>
      intro l vals W ρ hI hi hdep hnew hold hc
      have r0 : ρ (.tmp 17) = vals 11 := hnew 11 17 (dep hdep 11 (by kernel_rfl)) (by kernel_rfl) (of_decide_eq_true (by kernel_rfl)) (of_decide_eq_true (by kernel_rfl))
      have f0 : bcF w b P ms lost 11 vals W := hI.fact 11 (dep hdep 11 (by kernel_rfl)) (neverV hI (of_decide_eq_true (by kernel_rfl)))
      rw [show vals 11 = (.pointer (some ⟨b, 0, none⟩)) from f0] at r0
      refine ⟨(.pointer (some ⟨b, 0, none⟩)), ?_, by simp [bcF, upd]⟩
      simp [execOp, r0, go_sem]
    case s13 =>
      intro l vals W ρ hI hi hdep hnew hold hc
      have r0 : ρ (.tmp 18) = vals 12 := hnew 12 18 (dep hdep 12 (by kernel_rfl)) (by kernel_rfl) (of_decide_eq_true (by kernel_rfl)) (of_decide_eq_true (by kernel_rfl))
      have f0 : bcF w b P ms lost 12 vals W := hI.fact 12 (dep hdep 12 (by kernel_rfl)) (neverV hI (of_decide_eq_true (by kernel_rfl)))
      rw [show vals 12 = (.pointer (some ⟨b, 0, none⟩)) from f0] at r0
      refine ⟨(.pointer (some ⟨b, 14, none⟩)), ?_, by simp [bcF, upd]⟩
      simp [execOp, r0, go_sem]
    case s14 =>
      intro l vals W ρ hI hi hdep hnew hold hc
      have r0 : ρ (.tmp 19) = vals 13 := hnew 13 19 (dep hdep 13 (by kernel_rfl)) (by kernel_rfl) (of_decide_eq_true (by kernel_rfl)) (of_decide_eq_true (by kernel_rfl))
      have f0 : bcF w b P ms lost 13 vals W := hI.fact 13 (dep hdep 13 (by kernel_rfl)) (neverV hI (of_decide_eq_true (by kernel_rfl)))
      rw [show vals 13 = (.pointer (some ⟨b, 14, none⟩)) from f0] at r0
      have xb := XB.out.kept fun k hk => hI.com.block k hk
      have c14 := xb.cell 14 (.bool lost) rfl
      refine ⟨(.bool lost), ?_, by simp [bcF, upd]⟩
      simp [execOp, r0, go_sem, c14]
    case s15 =>
      intro l vals W ρ hI hi hdep hnew hold hc
      have r0 : ρ (.tmp 9) = vals 3 := hnew 3 9 (dep hdep 3 (by kernel_rfl)) (by kernel_rfl) (of_decide_eq_true (by kernel_rfl)) (of_decide_eq_true (by kernel_rfl))
      have f0 : bcF w b P ms lost 3 vals W := hI.fact 3 (dep hdep 3 (by kernel_rfl)) (neverV hI (of_decide_eq_true (by kernel_rfl)))
      rw [show vals 3 = (.agg #[.int .i64 P.pt, .int .i64 P.k, .int .i64 P.d, .int .i64 P.s, .int .i64 P.e, .int .i64 P.f]) from f0] at r0
      have r1 : ρ (.tmp 13) = vals 7 := hnew 7 13 (dep hdep 7 (by kernel_rfl)) (by kernel_rfl) (of_decide_eq_true (by kernel_rfl)) (of_decide_eq_true (by kernel_rfl))
      have f1 : bcF w b P ms lost 7 vals W := hI.fact 7 (dep hdep 7 (by kernel_rfl)) (neverV hI (of_decide_eq_true (by kernel_rfl)))
      rw [show vals 7 = (.agg #[.int .i64 P.dl, .int .i64 P.dm, .int .i64 P.fl, .int .i64 P.fm, P.p, P.g]) from f1] at r1
      obtain ⟨ms', k1, k2, k3⟩ : bcF w b P ms lost 10 vals W := hI.fact 10 (dep hdep 10 (by kernel_rfl)) (neverV hI (of_decide_eq_true (by kernel_rfl)))
      have r2 : ρ (.tmp 16) = vals 10 := hnew 10 16 (dep hdep 10 (by kernel_rfl)) (by kernel_rfl) (of_decide_eq_true (by kernel_rfl)) (of_decide_eq_true (by kernel_rfl))
      have r3 : ρ (.tmp 20) = vals 14 := hnew 14 20 (dep hdep 14 (by kernel_rfl)) (by kernel_rfl) (of_decide_eq_true (by kernel_rfl)) (of_decide_eq_true (by kernel_rfl))
      have f3 : bcF w b P ms lost 14 vals W := hI.fact 14 (dep hdep 14 (by kernel_rfl)) (neverV hI (of_decide_eq_true (by kernel_rfl)))
      rw [show vals 14 = (.bool lost) from f3] at r3
      generalize vals 10 = h' at r2 k1
      obtain ⟨A4, n4, c4, rfl⟩ := own_slice k1
      refine ⟨.agg #[.pointer none, .int .i64 P.pt, .int .i64 P.k, .int .i64 P.d, .int .i64 P.s, .int .i64 P.e, .int .i64 P.f, .int .i64 P.dl, .int .i64 P.dm, .int .i64 P.fl, .int .i64 P.fm, P.p, P.g, .slice A4 n4 c4, .bool lost], ?_, ⟨_, ms', by simp [upd], k1, k2, k3⟩⟩
      simp [execOp, r0, r1, r2, r3, go_sem, hzb, zbox]
    case s16 =>
      intro l vals W ρ hI hi hdep hnew hold hc
      obtain ⟨h', ms', q1, k1, k2, k3⟩ : bcF w b P ms lost 15 vals W := hI.fact 15 (dep hdep 15 (by kernel_rfl)) (neverV hI (of_decide_eq_true (by kernel_rfl)))
      have r0 : ρ (.tmp 21) = vals 15 := hnew 15 21 (dep hdep 15 (by kernel_rfl)) (by kernel_rfl) (of_decide_eq_true (by kernel_rfl)) (of_decide_eq_true (by kernel_rfl))
      rw [q1] at r0
      refine ⟨#[.agg #[.pointer none, .int .i64 P.pt, .int .i64 P.k, .int .i64 P.d, .int .i64 P.s, .int .i64 P.e, .int .i64 P.f, .int .i64 P.dl, .int .i64 P.dm, .int .i64 P.fl, .int .i64 P.fm, P.p, P.g, h', .bool lost]], by simp [r0], (made_at P.pt P.k P.d P.s P.e P.f P.dl P.dm P.fl P.fm P.p P.g h' lost W).mono ?_⟩
      rintro e W' ⟨rfl, hrow, _, hb'⟩
      refine ⟨_, rfl, hI.com.trans (hb'.mono hI.com.size), ⟨W.heap.size, h', ms', by simp [upd], hI.com.size, hrow, own_stands k1 fun j hj => hb'.block j (own_block k1 hj).1, fun m hm => OwnS.later (k2 m hm) hb' (OwnS.blk (k2 m hm)), k3⟩, fun j _ _ hj hT => bcF_later hb' j vals (hI.fact j hj hT)⟩
    case s17 =>
      intro l vals W ρ hI hi hdep hnew hold hc
      obtain ⟨b2, h', ms', q1, q2⟩ : bcF w b P ms lost 16 vals W := hI.fact 16 (dep hdep 16 (by kernel_rfl)) (neverV hI (of_decide_eq_true (by kernel_rfl)))
      have r0 : ρ (.tmp 22) = vals 16 := hnew 16 22 (dep hdep 16 (by kernel_rfl)) (by kernel_rfl) (of_decide_eq_true (by kernel_rfl)) (of_decide_eq_true (by kernel_rfl))
      rw [q1] at r0
      refine ⟨.pointer (some ⟨b2, 0, none⟩), ?_, ⟨b2, h', ms', by simp [upd], q2⟩⟩
      simp [execOp, r0, go_sem]
  case fin =>
    intro vals W hC hF
    obtain ⟨b2, h', ms', q1, q2, q3, k1, k2, k3⟩ : bcF w b P ms lost 17 vals W := hF 17 (of_decide_eq_true (by kernel_rfl)) (of_decide_eq_true (by kernel_rfl))
    simp [canon, dstOf, Act.put, q1]
    have HR := hide (show (∃ (b2 : Nat) (h' : Value) (ms' : List Msg), Ending.returned (Value.pointer (some ⟨b2, 0, none⟩)) = .returned (.pointer (some ⟨b2, 0, none⟩)) ∧ BoxW W w.heap.size b2 P h' ms' lost ∧ ms'.map Msg.tell = ms.map Msg.tell) ∧ Below w.heap.size w W from ⟨⟨b2, h', ms', rfl, ⟨q2, q3, k1, k2⟩, k3⟩, hC⟩)
    have HX := hide (show BoxW W w.heap.size b2 P h' ms' lost from ⟨q2, q3, k1, k2⟩)
    have HC := hide hC; have HK := hide k3
    clear hF q1 q2 q3 k1 k2 k3 hC HR
    go_wp2
    go_ret
    exact ⟨⟨b2, h', ms', rfl, HX.out, HK.out⟩, HC.out⟩
end Go.Proofs.Ytdimllmbalponaa
