/-
  Arcs in memory of their own, with one more behind their end.
-/
import Derived.Test.YtmplioglihmkjaaRiD
import Derived.Laws.AppendOwnNone
namespace Go.Proofs.Ytmplioglihmkjaa
open Go.RowKit Go.Shelf
attribute [local go_sem] Oper.semAt_some
set_option linter.unusedVariables false
set_option linter.unusedSimpArgs false
set_option maxRecDepth 100000

theorem arcs_pre {w : World} {g : Nat} {l m : List Ai} (h : Arcs w (some ⟨g, 0, none⟩) (l ++ m)) : Arcs w (some ⟨g, 0, none⟩) l := by
  refine ⟨fun z hz => h.1 z (List.mem_append.2 (.inl hz)), ?_⟩
  rcases Nat.eq_zero_or_pos l.length with h0 | h0
  · exact .inl h0
  · obtain ⟨b, off, e, hlt, _, _⟩ := h.at (k := 0) (by rw [List.length_append]; omega)
    cases e
    refine .inr ⟨g, 0, rfl, hlt, fun i hi => ?_⟩
    obtain ⟨b, off, e, _, c0, c1⟩ := h.at (k := i) (by rw [List.length_append]; omega)
    cases e
    have e2 : (l ++ m).getD i (0, 0) = l.getD i (0, 0) := by
      rw [List.getD_eq_getElem?_getD, List.getD_eq_getElem?_getD, List.getElem?_append_left hi]
    rw [e2] at c0 c1
    exact ⟨c0, c1⟩
structure Twin (w w' : World) (l : List Ai) (e : Ending) : Prop where
  ex : ∃ g cap, e = .returned (.slice (some ⟨g, 0, none⟩) (l.length + 1) cap) ∧ l.length + 1 ≤ cap ∧ cap ≤ maxLen ∧ w.heap.size ≤ g ∧ Arcs w' (some ⟨g, 0, none⟩) (l ++ [(77, 0)]) ∧ Below w.heap.size w w'
theorem twin_of {w w1 w' : World} {l : List Ai} {e : Ending} {v : Value} (hl : ∀ z ∈ l, I64 z.1 ∧ I64 z.2) (he : e = .returned v) (hO : w'.ownsRow w.heap.size 41 2 v (l.length + 1) (flatA l ++ [.int .i64 77, .int .i64 0])) (hb : Below w.heap.size w w') : Twin w w' l e := by
  have hO2 : OwnA w' w.heap.size v (l ++ [(77, 0)]) := by
    unfold OwnA
    rw [flatA_snoc, List.length_append]
    exact hO
  obtain ⟨A, c, rfl, hA⟩ := own_arcs hO2 (fun z hz => by
    rcases List.mem_append.1 hz with h | h
    · exact hl z h
    · simp at h; subst h; unfold I64; dsimp only; omega)
  rcases hO.2 with ⟨_, h0⟩ | ⟨g, cap, cur, e1, hg, _, hc, hc2, _⟩
  · omega
  · injection e1 with a1 a2 a3
    subst a1; subst a3
    exact ⟨_, _, by rw [he, List.length_append]; rfl, hc, hc2, hg, hA, hb⟩
set_option maxHeartbeats 1000000 in
theorem twin_at (l : List Ai) (A : Option Addr) (c : Nat) (w : World) (hI : Arcs w A l) (hl : l.length ≤ 1000) (hA : ∀ a, A = some a → a.spot = none) :
    Calls Try.prog 18 #[.slice A l.length c] w fun e w' => Twin w w' l e := by
  have HI := hide hI
  have HLn := hide (flatA_len l)
  have H1 := hide (flatA_one l)
  rcases A with _ | ⟨b, off, spot⟩
  · have hl0 : l.length = 0 := by
      rcases hI.2 with h | ⟨b, off, e, _⟩
      · exact h
      · cases e
    obtain rfl := List.length_eq_zero_iff.1 hl0
    have HTw := hide (fun w' e v => twin_of (w := w) (w1 := w) (w' := w') (e := e) (v := v) (l := []) (fun z hz => by cases hz))
    rcases hi' : Try.prog.info? 41 with _ | i
    · have := info_arc
      rw [hi'] at this; cases this
    have hinf := info_arc
    rw [hi'] at hinf
    simp only [Option.map_some, Option.some.injEq, Prod.mk.injEq] at hinf
    obtain ⟨hz, hs1, hb⟩ := hinf
    have HIn := hide hi'
    clear hI hz hb hi' hl hl0 hA HI HLn H1
    show Calls Try.prog 18 #[.slice none 0 c] w fun e w' => Twin w w' [] e
    have HN0 := hide (World.ownsRow_nil w w.heap.size 41 2)
    go_enter Try.func18, Try.ntmps18
    go_wp2_with (at_builtin; refine wpList_one _ rfl _ _ 34 rfl 41 (.agg #[.int .i64 0, .int .i64 0]) 2 16 under_arcs info_arc rfl (by decide) (by decide) w.heap.size _ _ _ rfl (own_below HN0.out (bal w _) (Nat.le_refl _)) _ _ [.int .i64 77, .int .i64 0] rfl (heap_alloc_new w _) rfl (by simp [Value.oneCell']) (by omega) (by simp) ?_; intro v2 w4 hown4 hgr4 hwh; have HO4 := hide hown4; have HG4 := hide hgr4; clear hown4 hgr4 hwh)
    go_ret
    exact HTw.out _ _ v2 rfl HO4.out (below_own ((Below.refl w.heap.size w).alloc (Nat.le_refl _) _) (own_below HN0.out (bal w (.cells #[.int .i64 77, .int .i64 0] 41)) (Nat.le_refl _)) HG4.out (Nat.le_refl _) (by simp))
  · obtain rfl : spot = none := hA _ rfl
    have HC := hide (flatA_at hI)
    have HTw := hide (fun w' e v => twin_of (w := w) (w1 := w) (w' := w') (e := e) (v := v) hI.1)
    rcases hi' : Try.prog.info? 41 with _ | i
    · have := info_arc
      rw [hi'] at this; cases this
    have hinf := info_arc
    rw [hi'] at hinf
    simp only [Option.map_some, Option.some.injEq, Prod.mk.injEq] at hinf
    obtain ⟨hz, hs1, hb⟩ := hinf
    have HZ := hide hz
    have HS1 := hide hs1
    have HBy := hide hb
    have HIn := hide hi'
    have HTw2 := HTw
    generalize hfl : flatA l = fl at *
    obtain ⟨n, hn⟩ : ∃ n, n = l.length := ⟨_, rfl⟩
    rw [← hn] at hl HLn HTw ⊢
    clear hI hz hs1 hb hi' hfl hn HTw2 HI
    go_enter Try.func18, Try.ntmps18
    go_wp2_with (at_builtin; refine wpList_append_own _ rfl _ _ 34 rfl w.heap.size 41 i _ 2 16 under_arcs HIn.out HZ.out HS1.out HBy.out rfl (by decide) _ _ _ rfl (World.ownsRow_nil w _ _ _) ⟨b, off, none⟩ n c fl rfl ?qc1 ?qc2 ?qc3 ?qc4 ?qc5 ?qc6 ?_)
    case qc1 => exact HLn.out
    case qc2 =>
      intro j u hj
      rw [plain_add]
      exact HC.out j u hj
    case qc3 => exact H1.out
    case qc4 => simp only [maxLen]; omega
    case qc5 => omega
    case qc6 => omega
    intro v' w1 hown hgrow hnil
    have HO := hide hown
    have HB := hide ((Below.refl w.heap.size w).grown hgrow (Nat.le_refl _) (by intro k hk; cases hk))
    have hws := HB.out.size
    clear hown hgrow hnil
    go_wp2_with (at_builtin; refine wpList_one _ rfl _ _ 34 rfl 41 (.agg #[.int .i64 0, .int .i64 0]) 2 16 under_arcs info_arc rfl (by decide) (by decide) w.heap.size _ _ _ rfl (own_below HO.out (bal w1 _) (Nat.le_refl _)) _ _ [.int .i64 77, .int .i64 0] rfl (heap_alloc_new w1 _) rfl (by simp [Value.oneCell']) (by omega) (by simp; omega) ?_; intro v2 w4 hown4 hgr4 hwh; have HO4 := hide hown4; have HG4 := hide hgr4; clear hown4 hgr4 hwh)
    go_ret
    exact HTw.out _ _ v2 rfl HO4.out (below_own (HB.out.alloc hws _) (own_below HO.out (bal w1 (.cells #[.int .i64 77, .int .i64 0] 41)) (Nat.le_refl _)) HG4.out (Nat.le_refl _) (by simp; omega))
end Go.Proofs.Ytmplioglihmkjaa
