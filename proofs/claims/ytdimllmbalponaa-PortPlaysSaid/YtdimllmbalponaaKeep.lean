/-
  keep: what a call handed back is written over, and kept, beside what it says then.
-/
import Derived.Test.YtdimllmbalponaaStill
namespace Go.Proofs.Ytdimllmbalponaa
open Go.RowKit Go.Shelf
set_option linter.unusedVariables false

/-- one row put behind rows of the call's own, as an operation of a region that draws -/
theorem wp_row_append {o : Oper} {a : Act} {w : World} {K : Act → World → Prop} {Q : Exit → Act → World → Prop} (s x : Operand)
    (ho : o.op = .call { callee := .builtin .append, args := #[s, x], argTypes := #[29, 29] })
    (base : Nat) (h : Value) (rs : List Rw) (hs : a.eval s = h) (hown : Rws w base h rs) (q c : Nat) (r : Rw) (hx : a.eval x = .slice (some ⟨q, 0, none⟩) 1 c) (hq : w.cell? ⟨q, 0, none⟩ = some r.cell) (hr : r.at w base) (hrn : h.ownBlock ≠ some r.blk) (hn : rs.length ≤ 100000) (hbase : base ≤ w.heap.size)
    (hk : ∀ h' w', Rws w' base h' (rs ++ [r]) → w.grownBy w' h.ownBlock → (h'.ownBlock = h.ownBlock ∨ ∀ k, h'.ownBlock = some k → w.heap.size ≤ k) → K (a.put o.dst h') w') : o.wp Try.prog a w K Q := by
  have hi3 : (Try.prog.info? 37).map (fun i => (i.zero, i.size, i.bytes)) = some (some (.slice none 0 0), 1, 24) := by kernel_rfl
  rcases hi : Try.prog.info? 37 with _ | i
  · rw [hi] at hi3; cases hi3
  rw [hi] at hi3
  simp only [Option.map_some, Option.some.injEq, Prod.mk.injEq] at hi3
  obtain ⟨hz, hs2, hb⟩ := hi3
  have hnews : ∀ j y, [r.cell][j]? = some y → w.cell? ((⟨q, 0, none⟩ : Addr).add j) = some y := by
    intro j y hy
    rcases j with _ | j
    · injection hy with hy; subst hy
      rw [show (⟨q, 0, none⟩ : Addr).add 0 = ⟨q, 0, none⟩ by unfold Addr.add; split <;> simp_all]; exact hq
    · simp at hy
  have hone : ∀ y ∈ [r.cell], y.oneCell' = true := by intro y hy; rw [List.mem_singleton.1 hy]; rfl
  obtain ⟨v', w', hr', h2, h3, _⟩ := run_append_own (P := Try.prog) w base 29 o.type 37 i _ 1 24 Try.underlying29 hi hz hs2 hb rfl (by omega) h rs.length (rs.map Rw.cell) hown.own ⟨q, 0, none⟩ 1 c [r.cell] rfl hnews hone (by simp only [maxLen]; omega) (by omega) hbase
  have h4 := app_where base 29 o.type 37 i _ 1 Try.underlying29 hi hz hs2 h rs.length (rs.map Rw.cell) hown.own ⟨q, 0, none⟩ 1 c [r.cell] rfl hnews hone (by omega) (by simp only [maxLen]; omega) (by rw [hb]; omega) hr'
  unfold Oper.wp execOp
  simp only [ho, resolve, invoke, builtin, Sem.run_bind, Sem.run_pure, Result.andThen_ok, List.map_toArray, List.map_cons, List.map_nil, hs, hx, hr']
  have key : ∀ r' : Rw, r'.at w base → r'.at w' base := by
    intro r' hr1
    refine OwnS.kept hr1 (h3.block _ (OwnS.blk hr1) (fun e => ?_))
    obtain ⟨_, _, cur, hc⟩ := hown.blk e.symm
    obtain ⟨cur', hc', _⟩ := OwnS.row hr1
    rw [hc'] at hc
    injection hc with hc
    injection hc with _ hc
    exact absurd hc (by decide)
  refine hk v' w' ⟨by simpa using h2, fun r' hr1 => ?_⟩ h3 h4
  rcases List.mem_append.1 hr1 with h5 | h5
  · exact key r' (hown.each r' h5)
  · rw [List.mem_singleton.1 h5]; exact key r hr

end Go.Proofs.Ytdimllmbalponaa
