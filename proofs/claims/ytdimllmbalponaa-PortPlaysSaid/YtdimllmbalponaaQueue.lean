/-
  A message that is put behind those that wait.
-/
import Derived.Test.YtdimllmbalponaaBoxed
import Derived.Test.YtdimllmbalponaaFactsW
namespace Go.Proofs.Ytdimllmbalponaa
open Go.RowKit Go.Shelf
set_option linter.unusedVariables false

theorem info_msg3 : (Try.prog.info? 76).map (fun i => (i.zero, i.size, i.bytes)) = some (some (.agg #[.slice none 0 0, .int .i64 0]), 2, 32) := by kernel_rfl
/-- append: the row lies where it lay, or in a new block -/
theorem app_where {w : World} (base : Nat) (t ty e : TypeId) (i : TypeInfo) (z : Value) (size : Nat) (ht : Try.prog.underlying t = some (.slice e)) (hi : Try.prog.info? e = some i) (hz : i.zero = some z) (hsize : i.size = size)
    (v : Value) (n : Nat) (xs : List Value) (hown : w.ownsRow base e size v n xs) (a : Addr) (m c : Nat) (news : List Value) (hl : news.length = m * size) (hnews : ∀ j u, news[j]? = some u → w.cell? (a.add j) = some u) (h1 : ∀ u ∈ news, u.oneCell' = true)
    (hm : 0 < m) (h63 : n + m ≤ maxLen) (hbytes : (n + m) * i.bytes ≤ 140737488355328) {v' : Value} {w' : World} (hr : (Builtin.append_ #[t, t] ty #[v, .slice (some a) m c]).run Try.prog w = .ok v' w') :
    v'.ownBlock = v.ownBlock ∨ ∀ k, v'.ownBlock = some k → w.heap.size ≤ k := by
  subst hsize
  unfold maxLen at h63
  rcases hown.2 with ⟨rfl, rfl⟩ | ⟨g, cap, cur, rfl, hbg, hg, hnc, hcm, hcs, htake⟩
  · have h := run_append_nil (P := Try.prog) w t ty e i z ht hi hz a m c news hl hnews hm (by omega) (by rw [Nat.zero_add] at hbytes; omega)
    rw [h] at hr
    injection hr with hr _
    subst hr
    refine .inr fun k hk => ?_
    simp only [Value.ownBlock, Option.some.injEq] at hk
    omega
  · by_cases hroom : n + m ≤ cap
    · have h := run_append_room (P := Try.prog) w t ty e i ht hi g n cap cur hg a m c news hl hnews h1 hroom (by rw [hl, hcs, ← Nat.add_mul]; exact Nat.mul_le_mul_right _ hroom)
      rw [h] at hr
      injection hr with hr _
      subst hr
      exact .inl rfl
    · have h := run_append_grow (P := Try.prog) w t ty e i z ht hi hz ⟨g, 0, none⟩ n cap xs hown.1 (hown.cells (g := g) rfl) a m c news hl hnews (by omega) (by omega) (growslice_fits (by omega) hbytes)
      rw [h] at hr
      injection hr with hr _
      subst hr
      refine .inr fun k hk => ?_
      simp only [Value.ownBlock, Option.some.injEq] at hk
      omega
/-- append of one message -/
theorem wp_app_msg {o : Oper} {a : Act} {w : World} {K : Act → World → Prop} {Q : Exit → Act → World → Prop} (s x : Operand)
    (ho : o.op = .call { callee := .builtin .append, args := #[s, x], argTypes := #[58, 58] })
    (base : Nat) (h : Value) (n : Nat) (xs : List Value) (hs : a.eval s = h) (hown : w.ownsRow base 76 2 h n xs) (q : Nat) (c : Nat) (u v : Value) (hx : a.eval x = .slice (some ⟨q, 0, none⟩) 1 c)
    (hq : w.heap[q]? = some (.cells #[u, v] 76 (0, 0))) (hu : u.oneCell' = true) (hv : v.oneCell' = true) (hn : n ≤ 100000) (hbase : base ≤ w.heap.size)
    (hk : ∀ h' w', w'.ownsRow base 76 2 h' (n + 1) (xs ++ [u, v]) → w.grownBy w' h.ownBlock → (h'.ownBlock = h.ownBlock ∨ ∀ k, h'.ownBlock = some k → w.heap.size ≤ k) → K (a.put o.dst h') w') : o.wp Try.prog a w K Q := by
  have hi3 := info_msg3
  rcases hi : Try.prog.info? 76 with _ | i
  · rw [hi] at hi3; cases hi3
  rw [hi] at hi3
  simp only [Option.map_some, Option.some.injEq, Prod.mk.injEq] at hi3
  obtain ⟨hz, hs2, hb⟩ := hi3
  have hnews : ∀ j y, [u, v][j]? = some y → w.cell? ((⟨q, 0, none⟩ : Addr).add j) = some y := by
    intro j y hy
    rcases j with _ | _ | j
    · injection hy with hy; subst hy
      rw [show (⟨q, 0, none⟩ : Addr).add 0 = ⟨q, 0, none⟩ by unfold Addr.add; split <;> simp_all, cell_of_row _ _ _ _ _ _ hq]; rfl
    · injection hy with hy; subst hy
      rw [show (⟨q, 0, none⟩ : Addr).add (0 + 1) = ⟨q, 1, none⟩ by unfold Addr.add; split <;> simp_all, cell_of_row _ _ _ _ _ _ hq]; rfl
    · simp at hy
  have hone : ∀ y ∈ [u, v], y.oneCell' = true := by
    intro y hy
    simp only [List.mem_cons, List.not_mem_nil, or_false] at hy
    rcases hy with rfl | rfl
    · exact hu
    · exact hv
  obtain ⟨v', w', hr, h2, h3, _⟩ := run_append_own (P := Try.prog) w base 58 o.type 76 i _ 2 32 Try.underlying58 hi hz hs2 hb rfl (by omega) h n xs hown ⟨q, 0, none⟩ 1 c [u, v] rfl hnews hone (by simp only [maxLen]; omega) (by omega) hbase
  have h4 := app_where base 58 o.type 76 i _ 2 Try.underlying58 hi hz hs2 h n xs hown ⟨q, 0, none⟩ 1 c [u, v] rfl hnews hone (by omega) (by simp only [maxLen]; omega) (by rw [hb]; omega) hr
  unfold Oper.wp execOp
  simp only [ho, resolve, invoke, builtin, Sem.run_bind, Sem.run_pure, Result.andThen_ok, List.map_toArray, List.map_cons, List.map_nil, hs, hx, hr]
  exact hk v' w' h2 h3 h4

/-- what the operations have made that put a message behind; from 12 on: what stood before -/
def quF (base b B : Nat) (P : Prm) (h0 : Value) (ms : List Msg) (lost : Bool) (l : List Nat) (n : Nat) (ad : Addr) (cap : Nat) (z : Int) (j : Nat) (vals : Nat → Value) (W : World) : Prop :=
  match j with
  | 0 => vals 0 = .pointer (some ⟨b, 0, none⟩)
  | 1 => vals 1 = .pointer (some ⟨b, 0, none⟩)
  | 2 => vals 2 = .pointer (some ⟨b, 0, none⟩)
  | 3 => vals 3 = .pointer (some ⟨b, 13, none⟩)
  | 4 => vals 4 = h0
  | 5 => vals 5 = .agg #[.slice (some ad) n cap, .int .i64 z]
  | 6 => ∃ g c, vals 6 = .agg #[.slice (some ⟨g, 0, none⟩) n c, .int .i64 z] ∧ OwnS W B g n c l
  | 7 => ∃ q g c, vals 7 = .slice (some ⟨q, 0, none⟩) 1 1 ∧ W.heap[q]? = some (.cells #[.slice (some ⟨g, 0, none⟩) n c, .int .i64 z] 76 (0, 0)) ∧ OwnS W B g n c l
  | 8 => ∃ m : Msg, m.txt = l ∧ m.slot = z ∧ W.ownsRow base 76 2 (vals 8) (ms.length + 1) (ms.flatMap Msg.cells ++ m.cells) ∧ m.at W base ∧ B ≤ m.blk ∧ ((vals 8).ownBlock = h0.ownBlock ∨ ∀ k, (vals 8).ownBlock = some k → B ≤ k)
  | 9 => vals 9 = .pointer (some ⟨b, 0, none⟩)
  | 10 => vals 10 = .pointer (some ⟨b, 13, none⟩)
  | 11 => ∃ h' m, m.txt = l ∧ m.slot = z ∧ B ≤ m.blk ∧ BoxW W base b P h' (ms ++ [m]) lost ∧ (h'.ownBlock = h0.ownBlock ∨ ∀ k, h'.ownBlock = some k → B ≤ k)
  | 12 => BoxW W base b P h0 ms lost
  | 13 => W.heap[b]? = some (.cells (pcs b P h0 lost) 60 (0, 0))
  | 14 => ∀ m ∈ ms, m.at W base
  | 15 => W.heap[B]? = some (.cells #[.slice (some ad) n cap, .int .i64 z] 76 (0, 0))
  | 16 => Bytes W (some ad) l
  | _ => True
def quT : Nat → Nat
  | 6 => 7 | 7 => 8 | 8 => 11 | 12 => 8 | 13 => 11 | 14 => 11 | 16 => 6 | _ => 100
def quM (j : Nat) : List Nat := if 12 ≤ j then [] else [j]
section
variable {base b B : Nat} {P : Prm} {h0 : Value} {ms : List Msg} {lost : Bool} {l : List Nat} {n : Nat} {ad : Addr} {cap : Nat} {z : Int}
theorem quF_sup : ∀ j vals vals' W, (∀ i ∈ quM j, vals i = vals' i) → quF base b B P h0 ms lost l n ad cap z j vals W → quF base b B P h0 ms lost l n ad cap z j vals' W := by
  intro j vals vals' W h hF
  unfold quM at h
  match j, hF with
  | 0, hF | 1, hF | 2, hF | 3, hF | 4, hF | 5, hF | 6, hF | 7, hF | 8, hF | 9, hF | 10, hF =>
    simp only [quF] at hF ⊢
    rw [← h _ (by simp)]; exact hF
  | 11, hF | 12, hF | 13, hF | 14, hF | 15, hF | 16, hF => exact hF
  | _ + 17, _ => trivial
theorem quF_later {W W' : World} (hb : Below W.heap.size W W') (j : Nat) (vals : Nat → Value) (h : quF base b B P h0 ms lost l n ad cap z j vals W) : quF base b B P h0 ms lost l n ad cap z j vals W' := by
  have key : ∀ {i : Nat} {o : Obj}, W.heap[i]? = some o → W'.heap[i]? = some o := fun h => (hb.block _ (Array.getElem?_eq_some_iff.1 h).1).trans h
  match j, h with
  | 0, h | 1, h | 2, h | 3, h | 4, h | 5, h | 9, h | 10, h => exact h
  | 6, ⟨g, c, h1, h2⟩ => exact ⟨g, c, h1, h2.later hb h2.blk⟩
  | 7, ⟨q, g, c, h1, h2, h3⟩ => exact ⟨q, g, c, h1, key h2, h3.later hb h3.blk⟩
  | 8, ⟨m, h1, h2, h3, h4, h8, h9⟩ =>
    refine ⟨m, h1, h2, ⟨h3.1, ?_⟩, OwnS.later h4 hb (OwnS.blk h4), h8, h9⟩
    rcases h3.2 with h5 | ⟨g, cap, cur, h5, h6, h7, h8⟩
    · exact .inl h5
    · exact .inr ⟨g, cap, cur, h5, h6, key h7, h8⟩
  | 11, ⟨h', m, h1, h2, h0, h3, h9⟩ => exact ⟨h', m, h1, h2, h0, h3.later hb, h9⟩
  | 12, h => exact BoxW.later h hb
  | 13, h => exact key h
  | 14, h => exact fun m hm => OwnS.later (h m hm) hb (OwnS.blk (h m hm))
  | 15, h => exact key h
  | 16, h => exact Bytes.of_below h hb (Nat.le_refl _)
  | _ + 17, _ => trivial
end

/-- what holds all along -/
structure QC (w w2 : World) (base b : Nat) (h0 : Value) (W : World) : Prop where
  bel : Below base w W
  blk : ∀ k, k < w.heap.size → k ≠ b → some k ≠ h0.ownBlock → W.heap[k]? = w.heap[k]?
  siz : base ≤ W.heap.size
  wsiz : w.heap.size ≤ W.heap.size
theorem QC.later {w w2 : World} {base b : Nat} {h0 : Value} {W W' : World} (h : QC w w2 base b h0 W) (hb : Below W.heap.size W W') : QC w w2 base b h0 W' :=
  ⟨h.bel.trans (hb.mono h.siz), fun k hk h1 h2 => (hb.block k (by have := h.wsiz; omega)).trans (h.blk k hk h1 h2), by have := hb.size; have := h.siz; omega, by have := hb.size; have := h.wsiz; omega⟩
theorem QC.grown {w w2 : World} {base b : Nat} {h0 : Value} {W W' : World} (h : QC w w2 base b h0 W) (hg : W.grownBy W' h0.ownBlock) (hk : ∀ k, h0.ownBlock = some k → base ≤ k) : QC w w2 base b h0 W' :=
  ⟨h.bel.trans ((Below.refl _ _).grown hg h.siz hk), fun k hlt h1 h2 => (hg.block k (by have := h.wsiz; omega) h2).trans (h.blk k hlt h1 h2), by have := hg.size; have := h.siz; omega, by have := hg.size; have := h.wsiz; omega⟩
theorem QC.set {w w2 : World} {base b : Nat} {h0 : Value} {W : World} (h : QC w w2 base b h0 W) (hb : base ≤ b) (v : Value) : QC w w2 base b h0 (W.setCell ⟨b, 13, none⟩ v) :=
  ⟨h.bel.setCell (p := ⟨b, 13, none⟩) hb _, fun k hlt h1 h2 => (heap_setCell_other _ _ _ _ h1).trans (h.blk k hlt h1 h2), by show _ ≤ (W.heap.modify _ _).size; rw [Array.size_modify]; exact h.siz, by show _ ≤ (W.heap.modify _ _).size; rw [Array.size_modify]; exact h.wsiz⟩
/-- a box, put together -/
theorem boxW_row {W : World} {base b : Nat} {P : Prm} {h h' : Value} {ms : List Msg} {lost : Bool} (hlo : base ≤ b) (hrow : W.heap[b]? = some (.cells (pcs b P h lost) 60 (0, 0))) (hl : W.ownsRow base 76 2 h' ms.length (ms.flatMap Msg.cells)) (he : ∀ m ∈ ms, m.at W base) : BoxW (W.setCell ⟨b, 13, none⟩ h') base b P h' ms lost := by
  refine ⟨hlo, by rw [setCell_row hrow, pcs_set13], ⟨hl.1, ?_⟩, fun m hm => OwnS.kept (he m hm) (heap_setCell_other _ _ _ _ (bytes_block (he m hm) hrow (by decide)))⟩
  rcases hl.2 with h1 | ⟨g, cap, cur, h1, h2, h3, h4⟩
  · exact .inl h1
  · refine .inr ⟨g, cap, cur, h1, h2, (heap_setCell_other _ _ _ _ ?_).trans h3, h4⟩
    rintro rfl
    rw [hrow] at h3
    injection h3 with h3
    injection h3 with _ h3
    exact absurd h3 (by decide)

set_option maxRecDepth 100000 in
set_option maxHeartbeats 1000000 in
theorem queue_at {base b : Nat} {P : Prm} {h : Value} {ms : List Msg} {lost : Bool} {w : World} (x : BoxW w base b P h ms lost) (l : List Nat) (n : Nat) (ad : Addr) (cap : Nat) (z : Int) (hn : l.length = n) (hm : n ≤ 1000000) (hB : Bytes w (some ad) l) (hms : ms.length ≤ 1000) (he : 0 ≤ P.e ∧ P.e ≤ 1000) :
    Calls Try.prog 28 #[.pointer (some ⟨b, 0, none⟩), .agg #[.slice (some ad) n cap, .int .i64 z]] w fun e w' =>
      ((ms.length : Int) < P.e ∧ e = .returned (.int .i64 0) ∧ ∃ h' m, m.txt = l ∧ m.slot = z ∧ w.heap.size ≤ m.blk ∧ BoxW w' base b P h' (ms ++ [m]) lost ∧ KeepH base b h h' w w') ∨ (P.e ≤ (ms.length : Int) ∧ e = .returned (.int .i64 41) ∧ BoxW w' base b P h ms lost ∧ Keep base b h w w') := by
  have hbl := x.lt
  have hlo := x.lo
  have hownlt : ∀ k, h.ownBlock = some k → k < w.heap.size := fun k hk => (x.own_lt hk).1
  have X1 := hide (x.later (bal w (.cells #[.slice (some ad) n cap, .int .i64 z] 76)))
  have C1 := hide (heap_alloc_new w (.cells #[.slice (some ad) n cap, .int .i64 z] 76))
  have B1 := hide (bal w (.cells #[.slice (some ad) n cap, .int .i64 z] 76))
  have Z1 : w.heap.size < (w.alloc (.cells #[.slice (some ad) n cap, .int .i64 z] 76)).heap.size := by simp
  have HB := hide (hB.of_below B1.out (Nat.le_refl _))
  obtain ⟨w1, hw1⟩ : ∃ w1, w.alloc (.cells #[.slice (some ad) n cap, .int .i64 z] 76) = w1 := ⟨_, rfl⟩
  rw [hw1] at X1 C1 B1 HB Z1
  have q13 := X1.out.cell 13 h rfl
  have q5 := X1.out.cell 5 (.int .i64 P.e) rfl
  obtain ⟨A0, c', rfl⟩ : ∃ (A : Option Addr) (c : Nat), h = .slice A ms.length c := by
    rcases X1.out.held.2 with ⟨h1, h2⟩ | ⟨g, cap, cur, h1, _⟩
    · exact ⟨none, 0, by rw [h1, h2]⟩
    · exact ⟨_, cap, h1⟩
  clear x
  go_enter Try.func28, Try.ntmps28
  go_wp2_with fail
  go_quiet (fail)
  have X2 := hide (X1.out.later (W' := w1.drewN nq) (below_drewN (Below.refl _ _) nq))
  have C2 := hide (show (w1.drewN nq).heap[w.heap.size]? = _ from C1.out)
  have B2 := hide (below_drewN B1.out nq)
  have HB2 := hide (hB.of_below (below_drewN B1.out nq) (Nat.le_refl _))
  have Z2 : w.heap.size < (w1.drewN nq).heap.size := Z1
  by_cases hfull : P.e ≤ (ms.length : Int)
  · go_wp2
    go_ret
    exact .inr ⟨hfull, rfl, X2.out, ⟨B2.out.mono (by omega), fun k hk _ _ => B2.out.block k hk, Nat.le_of_lt Z2⟩⟩
  · have hroom : (ms.length : Int) < P.e := by omega
    clear q13 q5 X1 C1 B1 HB Z1 hw1
    generalize w1.drewN nq = w2 at X2 C2 B2 HB2 Z2 ⊢
    obtain ⟨h0, hh0⟩ : ∃ h0, Value.slice A0 ms.length c' = h0 := ⟨_, rfl⟩
    rw [hh0] at X2 hownlt
    go_wp2_with fail
    refine wp_region_factsW (QC w w2 base b h0) (quF base b w.heap.size P h0 ms lost l n ad cap z) quT quM ?m0 ?mb quF_sup (by kernel_rfl) (by kernel_rfl) ?com ?ini ?steps ?fin
    case m0 =>
      intro j hj
      have hj' : 12 ≤ j := hj
      unfold quM; rw [if_pos hj']
    case mb =>
      intro j i hi hij
      unfold quM at hi
      split at hi
      · cases hi
      · exact absurd (List.mem_singleton.1 hi) hij
    case com => exact ⟨below_drewN (B2.out.mono (by omega)) 1, fun k hk _ _ => B2.out.block k hk, by show base ≤ w2.heap.size; omega, Nat.le_of_lt Z2⟩
    case ini =>
      intro j hj
      have hj' : 12 ≤ j := hj
      match j, hj' with
      | 12, _ => exact X2.out.kept fun _ _ => rfl
      | 13, _ => exact X2.out.row
      | 14, _ => exact fun m hm => OwnS.kept (X2.out.each m hm) rfl
      | 15, _ => exact C2.out
      | 16, _ => exact HB2.out
      | _ + 17, _ => exact trivial
    case steps =>
      refine AllFrom.cons (step_isW (by kernel_rfl) ?s0) (AllFrom.cons (i := 1) (step_isW (by kernel_rfl) ?s1) (AllFrom.cons (i := 2) (step_isW (by kernel_rfl) ?s2) (AllFrom.cons (i := 3) (step_isW (by kernel_rfl) ?s3) (AllFrom.cons (i := 4) (step_isW (by kernel_rfl) ?s4) (AllFrom.cons (i := 5) (step_isW (by kernel_rfl) ?s5) (AllFrom.cons (i := 6) (step_fnW (by kernel_rfl) 36 #[.tmp 21] _ rfl (enters_of Try.func36 (by kernel_rfl) rfl) ?s6) (AllFrom.cons (i := 7) (step_runW (by kernel_rfl) ?s7) (AllFrom.cons (i := 8) ?s8 (AllFrom.cons (i := 9) (step_isW (by kernel_rfl) ?s9) (AllFrom.cons (i := 10) (step_isW (by kernel_rfl) ?s10) (AllFrom.cons (i := 11) (step_runW (by kernel_rfl) ?s11) (trivial))))))))))))
      case s0 =>
        intro L vals W ρ hI hi hdep hnew hold hc
        have e0 : ρ (.tmp 0) = .pointer (some ⟨b, 0, none⟩) := (hold 0 (by kernel_rfl)).trans (by kernel_rfl)
        refine ⟨.pointer (some ⟨b, 0, none⟩), ?_, by simp [quF, upd]⟩
        simp [execOp, e0, go_sem]
      case s1 =>
        intro L vals W ρ hI hi hdep hnew hold hc
        have e0 : ρ (.tmp 0) = .pointer (some ⟨b, 0, none⟩) := (hold 0 (by kernel_rfl)).trans (by kernel_rfl)
        refine ⟨.pointer (some ⟨b, 0, none⟩), ?_, by simp [quF, upd]⟩
        simp [execOp, e0, go_sem]
      case s2 =>
        intro L vals W ρ hI hi hdep hnew hold hc
        have e0 : ρ (.tmp 17) = .pointer (some ⟨b, 0, none⟩) := (hnew 1 17 (dep hdep 1 (by kernel_rfl)) (by kernel_rfl) (of_decide_eq_true (by kernel_rfl)) (of_decide_eq_true (by kernel_rfl))).trans (hI.fact 1 (.inr (dep hdep 1 (by kernel_rfl))) (neverW hI (of_decide_eq_true (by kernel_rfl))))
        refine ⟨.pointer (some ⟨b, 0, none⟩), ?_, by simp [quF, upd]⟩
        simp [execOp, e0, go_sem]
      case s3 =>
        intro L vals W ρ hI hi hdep hnew hold hc
        have e0 : ρ (.tmp 18) = .pointer (some ⟨b, 0, none⟩) := (hnew 2 18 (dep hdep 2 (by kernel_rfl)) (by kernel_rfl) (of_decide_eq_true (by kernel_rfl)) (of_decide_eq_true (by kernel_rfl))).trans (hI.fact 2 (.inr (dep hdep 2 (by kernel_rfl))) (neverW hI (of_decide_eq_true (by kernel_rfl))))
        refine ⟨.pointer (some ⟨b, 13, none⟩), ?_, by simp [quF, upd]⟩
        simp [execOp, e0, go_sem]
      case s4 =>
        intro L vals W ρ hI hi hdep hnew hold hc
        have e0 : ρ (.tmp 19) = .pointer (some ⟨b, 13, none⟩) := (hnew 3 19 (dep hdep 3 (by kernel_rfl)) (by kernel_rfl) (of_decide_eq_true (by kernel_rfl)) (of_decide_eq_true (by kernel_rfl))).trans (hI.fact 3 (.inr (dep hdep 3 (by kernel_rfl))) (neverW hI (of_decide_eq_true (by kernel_rfl))))
        have hbx : BoxW W base b P h0 ms lost := hI.fact 12 (.inl (of_decide_eq_true (by kernel_rfl))) (hI.ahead hi 8 (by kernel_rfl))
        have c := hbx.cell 13 h0 rfl
        refine ⟨h0, ?_, by simp [quF, upd]⟩
        simp [execOp, e0, c, go_sem]
      case s5 =>
        intro L vals W ρ hI hi hdep hnew hold hc
        have e0 : ρ (.tmp 3) = .pointer (some ⟨w.heap.size, 0, none⟩) := (hold 3 (by kernel_rfl)).trans (by kernel_rfl)
        have hbx : W.heap[w.heap.size]? = some (.cells #[.slice (some ad) n cap, .int .i64 z] 76 (0, 0)) := hI.fact 15 (.inl (of_decide_eq_true (by kernel_rfl))) (neverW hI (of_decide_eq_true (by kernel_rfl)))
        have c0 : W.cell? ⟨w.heap.size, 0, none⟩ = some (.slice (some ad) n cap) := by rw [cell_of_row _ _ _ _ _ _ hbx]; rfl
        have c1 : W.cell? ⟨w.heap.size, 1, none⟩ = some (.int .i64 z) := by rw [cell_of_row _ _ _ _ _ _ hbx]; rfl
        refine ⟨.agg #[.slice (some ad) n cap, .int .i64 z], ?_, by simp [quF, upd]⟩
        simp [execOp, e0, c0, c1, go_sem]
      case s6 =>
        intro L vals W ρ hI hi hdep hnew hold hc
        have e0 : ρ (.tmp 21) = .agg #[.slice (some ad) n cap, .int .i64 z] := (hnew 5 21 (dep hdep 5 (by kernel_rfl)) (by kernel_rfl) (of_decide_eq_true (by kernel_rfl)) (of_decide_eq_true (by kernel_rfl))).trans (hI.fact 5 (.inr (dep hdep 5 (by kernel_rfl))) (neverW hI (of_decide_eq_true (by kernel_rfl))))
        have hby : Bytes W (some ad) l := hI.fact 16 (.inl (of_decide_eq_true (by kernel_rfl))) hi
        refine ⟨#[.agg #[.slice (some ad) n cap, .int .i64 z]], by simp [e0], (copied_at l n ad cap z W hn hm hby).mono ?_⟩
        rintro e W' ⟨g, c, rfl, ho, hb'⟩
        have hsz := hI.com.siz
        refine ⟨_, rfl, hI.com.later hb', ⟨g, c, by simp [upd], ho.from (by have := ho.base; have := hI.com.wsiz; omega)⟩, fun j _ _ hj hT => quF_later hb' j vals (hI.fact j hj hT)⟩
      case s7 =>
        intro L vals W ρ hI hi hdep hnew hold hc
        obtain ⟨g, c, f6, h6⟩ : quF base b w.heap.size P h0 ms lost l n ad cap z 6 vals W := hI.fact 6 (.inr (dep hdep 6 (by kernel_rfl))) hi
        have e0 : ρ (.tmp 22) = .agg #[.slice (some ⟨g, 0, none⟩) n c, .int .i64 z] := (hnew 6 22 (dep hdep 6 (by kernel_rfl)) (by kernel_rfl) (of_decide_eq_true (by kernel_rfl)) (of_decide_eq_true (by kernel_rfl))).trans f6
        have hb' := bal W (.cells #[.slice (some ⟨g, 0, none⟩) n c, .int .i64 z] 76)
        refine ⟨.slice (some ⟨W.heap.size, 0, none⟩) 1 1, W.alloc (.cells #[.slice (some ⟨g, 0, none⟩) n c, .int .i64 z] 76), .inl ?_, hI.com.later hb', ⟨W.heap.size, g, c, by simp [upd], heap_alloc_new W _, h6.later hb' h6.blk⟩, fun j _ _ hj hT => quF_later hb' j vals (hI.fact j hj hT)⟩
        simp [execOp, e0, go_sem]
      case s8 =>
        intro L vals W hI hi hdep
        obtain ⟨q, g, c, f7, h7, o7⟩ : quF base b w.heap.size P h0 ms lost l n ad cap z 7 vals W := hI.fact 7 (.inr (dep hdep 7 (by kernel_rfl))) hi
        have f4 : vals 4 = h0 := hI.fact 4 (.inr (dep hdep 4 (by kernel_rfl))) (neverW hI (of_decide_eq_true (by kernel_rfl)))
        have hbx : BoxW W base b P h0 ms lost := hI.fact 12 (.inl (of_decide_eq_true (by kernel_rfl))) hi
        have hlt := hbx.lt
        subst hn
        refine wp_app_msg (.tmp 20) (.tmp 23) rfl base h0 ms.length (ms.flatMap Msg.cells) ((ev_get (by kernel_rfl) 4 20 (dep hdep 4 (by kernel_rfl)) (by kernel_rfl) (of_decide_eq_true (by kernel_rfl)) (of_decide_eq_true (by kernel_rfl))).trans f4) hbx.held q 1 _ _ ((ev_get (by kernel_rfl) 7 23 (dep hdep 7 (by kernel_rfl)) (by kernel_rfl) (of_decide_eq_true (by kernel_rfl)) (of_decide_eq_true (by kernel_rfl))).trans f7) h7 (by simp [Value.oneCell']) (by simp [Value.oneCell']) (by omega) (by omega) ?_
        intro h' W' hown hgr hwh
        have hne : ∀ {k : Nat} {cs : Array Value} {t : TypeId}, W.heap[k]? = some (.cells cs t (0, 0)) → t ≠ 76 → some k ≠ h0.ownBlock := by
          intro k cs t hk ht hke
          obtain ⟨_, _, cur, hcur⟩ := hbx.own_lt hke.symm
          rw [hk] at hcur
          injection hcur with hcur
          injection hcur with _ hcur
          exact ht hcur
        have hOw : ∀ {B' g n c : Nat} {x : List Nat}, OwnS W B' g n c x → OwnS W' B' g n c x := fun h => h.kept (hgr.block _ h.blk (by
          obtain ⟨cur, h1, _⟩ := h.row
          exact hne h1 (by decide)))
        refine ⟨h', rfl, hI.com.grown hgr (fun k hk => (hbx.own_lt hk).2.1), ⟨⟨g, c, l, z⟩, rfl, rfl, by simpa [upd, Msg.cells] using hown, (hOw o7).from (by have := o7.base; omega), o7.base, by have hws := hI.com.wsiz; simp only [upd]; exact hwh.imp id fun h k hk => Nat.le_trans hws (h k hk)⟩, fun j hj8 hT8 hj hT => ?_⟩
        have hf := hI.fact j hj hT
        match j, hf, hT8, hj8, hT, hj with
        | 0, hf, _, _, _, _ | 1, hf, _, _, _, _ | 2, hf, _, _, _, _ | 3, hf, _, _, _, _ | 4, hf, _, _, _, _ | 5, hf, _, _, _, _ | 9, hf, _, _, _, _ | 10, hf, _, _, _, _ => exact hf
        | 6, _, _, _, hT, _ => exact absurd (dep hdep 7 (by kernel_rfl)) (by rw [show L.getD 7 false = false from hT]; simp)
        | 7, _, hT8, _, _, _ | 12, _, hT8, _, _, _ => exact absurd rfl hT8
        | 8, _, _, hj8, _, _ => exact absurd rfl hj8
        | 11, _, _, _, _, hj => exact absurd (hj.resolve_left (by exact of_decide_eq_false (by kernel_rfl))) (by rw [hI.ahead hi 11 (by kernel_rfl)]; simp)
        | 13, hf, _, _, _, _ => exact (hgr.block b hlt (hne hf (by decide))).trans hf
        | 14, hf, _, _, _, _ => exact fun m hm => hOw (hf m hm)
        | 15, hf, _, _, _, _ => exact (hgr.block _ (Array.getElem?_eq_some_iff.1 hf).1 (fun e => by have := hownlt _ e.symm; omega)).trans hf
        | 16, _, _, _, hT, _ => exact absurd (hI.clo 7 _ rfl (dep hdep 7 (by kernel_rfl)) ⟨6, .data⟩ (by simp) rfl) (by rw [show L.getD 6 false = false from hT]; simp)
        | _ + 17, _, _, _, _, _ => trivial
      case s9 =>
        intro L vals W ρ hI hi hdep hnew hold hc
        have e0 : ρ (.tmp 16) = .pointer (some ⟨b, 0, none⟩) := (hnew 0 16 (dep hdep 0 (by kernel_rfl)) (by kernel_rfl) (of_decide_eq_true (by kernel_rfl)) (of_decide_eq_true (by kernel_rfl))).trans (hI.fact 0 (.inr (dep hdep 0 (by kernel_rfl))) (neverW hI (of_decide_eq_true (by kernel_rfl))))
        refine ⟨.pointer (some ⟨b, 0, none⟩), ?_, by simp [quF, upd]⟩
        simp [execOp, e0, go_sem]
      case s10 =>
        intro L vals W ρ hI hi hdep hnew hold hc
        have e0 : ρ (.tmp 25) = .pointer (some ⟨b, 0, none⟩) := (hnew 9 25 (dep hdep 9 (by kernel_rfl)) (by kernel_rfl) (of_decide_eq_true (by kernel_rfl)) (of_decide_eq_true (by kernel_rfl))).trans (hI.fact 9 (.inr (dep hdep 9 (by kernel_rfl))) (neverW hI (of_decide_eq_true (by kernel_rfl))))
        refine ⟨.pointer (some ⟨b, 13, none⟩), ?_, by simp [quF, upd]⟩
        simp [execOp, e0, go_sem]
      case s11 =>
        intro L vals W ρ hI hi hdep hnew hold hc
        obtain ⟨m, hm1, hm2, hown, hmat, hm3, hwh⟩ : quF base b w.heap.size P h0 ms lost l n ad cap z 8 vals W := hI.fact 8 (.inr (dep hdep 8 (by kernel_rfl))) hi
        have hrow : W.heap[b]? = some (.cells (pcs b P h0 lost) 60 (0, 0)) := hI.fact 13 (.inl (of_decide_eq_true (by kernel_rfl))) hi
        have heach : ∀ m ∈ ms, m.at W base := hI.fact 14 (.inl (of_decide_eq_true (by kernel_rfl))) hi
        have e0 : ρ (.tmp 24) = vals 8 := hnew 8 24 (dep hdep 8 (by kernel_rfl)) (by kernel_rfl) (of_decide_eq_true (by kernel_rfl)) (of_decide_eq_true (by kernel_rfl))
        have e1 : ρ (.tmp 26) = .pointer (some ⟨b, 13, none⟩) := (hnew 10 26 (dep hdep 10 (by kernel_rfl)) (by kernel_rfl) (of_decide_eq_true (by kernel_rfl)) (of_decide_eq_true (by kernel_rfl))).trans (hI.fact 10 (.inr (dep hdep 10 (by kernel_rfl))) (neverW hI (of_decide_eq_true (by kernel_rfl))))
        have c13 : W.cell? ⟨b, 13, none⟩ = some h0 := by rw [cell_of_row _ _ _ _ _ _ hrow]; rfl
        have f13 : W.frozen? ⟨b, 13, none⟩ = false := by unfold World.frozen?; rw [hrow]; simp
        generalize vals 8 = h' at e0 hown hwh
        obtain ⟨A', k', c', rfl⟩ : ∃ A k c, h' = .slice A k c := by
          rcases hown.2 with ⟨h1, _⟩ | ⟨g, cap, cur, h1, _⟩
          · exact ⟨_, _, _, h1⟩
          · exact ⟨_, _, _, h1⟩
        refine ⟨undef, W.setCell ⟨b, 13, none⟩ (.slice A' k' c'), .inr ⟨rfl, ?_⟩, hI.com.set hlo _, ⟨_, m, hm1, hm2, hm3, boxW_row hlo hrow (by simpa using hown) (fun m' hm' => by
          rcases List.mem_append.1 hm' with h1 | h1
          · exact heach m' h1
          · rw [List.mem_singleton.1 h1]; exact hmat), hwh⟩, fun j hj11 hT11 hj hT => ?_⟩
        · simp [execOp, e0, e1, go_sem, c13, f13]
        · have hf := hI.fact j hj hT
          match j, hf, hT11, hj11, hT with
          | 0, hf, _, _, _ | 1, hf, _, _, _ | 2, hf, _, _, _ | 3, hf, _, _, _ | 4, hf, _, _, _ | 5, hf, _, _, _ | 9, hf, _, _, _ | 10, hf, _, _, _ => exact hf
          | 6, _, _, _, hT => exact absurd (hI.clo 8 _ rfl (dep hdep 8 (by kernel_rfl)) ⟨7, .data⟩ (by simp) rfl) (by rw [show L.getD 7 false = false from hT]; simp)
          | 7, _, _, _, hT | 12, _, _, _, hT => exact absurd (dep hdep 8 (by kernel_rfl)) (by rw [show L.getD 8 false = false from hT]; simp)
          | 8, _, hT11, _, _ | 13, _, hT11, _, _ | 14, _, hT11, _, _ => exact absurd rfl hT11
          | 11, _, _, hj11, _ => exact absurd rfl hj11
          | 15, hf, _, _, _ => exact (heap_setCell_other _ _ _ _ (by show w.heap.size ≠ b; omega)).trans hf
          | 16, _, _, _, hT => exact absurd (hI.clo 7 _ rfl (hI.clo 8 _ rfl (dep hdep 8 (by kernel_rfl)) ⟨7, .data⟩ (by simp) rfl) ⟨6, .data⟩ (by simp) rfl) (by rw [show L.getD 6 false = false from hT]; simp)
          | _ + 17, _, _, _, _ => trivial
    case fin =>
      intro vals W hC hF
      obtain ⟨h', m, hm1, hm2, hm3, hbx, hwh⟩ : quF base b w.heap.size P h0 ms lost l n ad cap z 11 vals W := hF 11 (of_decide_eq_true (by kernel_rfl)) (of_decide_eq_true (by kernel_rfl))
      simp [canon, dstOf, Act.put]
      have HX := hide hbx; have HC := hide hC; have HW := hide hwh
      clear hF hbx hC hwh
      go_wp2
      go_ret
      exact .inl ⟨hroom, rfl, h', m, hm1, hm2, hm3, HX.out, ⟨⟨HC.out.bel, by rw [hh0]; exact HC.out.blk, by have := HC.out.wsiz; omega⟩, by rw [hh0]; exact HW.out⟩⟩
end Go.Proofs.Ytdimllmbalponaa
