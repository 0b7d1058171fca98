/-
  The first of a slice's messages, taken out (the library's Delete).
-/
import Derived.Test.YtdimllmbalponaaQueue
import Derived.Laws.CopyRow
import Derived.ArgAppend
import Derived.StillTailTactics
namespace Go.Proofs.Ytdimllmbalponaa
open Go.RowKit Go.Shelf
set_option linter.unusedVariables false

theorem run_app_room {w : World} {g cap m c : Nat} {cur : Array Value} {ad : Addr} {news : List Value} (ty : TypeId) (hg : w.heap[g]? = some (.cells cur 76 (0, 0))) (hcs : cur.size = cap * 2) (hl : news.length = m * 2) (hm : m ≤ cap)
    (hnews : ∀ j u, news[j]? = some u → w.cell? (ad.add j) = some u) (h1 : ∀ u ∈ news, u.oneCell' = true) :
    (Builtin.append_ #[58, 58] ty #[.slice (some ⟨g, 0, none⟩) 0 cap, .slice (some ad) m c]).run Try.prog w = .ok (.slice (some ⟨g, 0, none⟩) m cap) (w.setRow g (news ++ cur.toList.drop (m * 2)).toArray) := by
  have hi3 := info_msg3
  rcases hi : Try.prog.info? 76 with _ | i
  · rw [hi] at hi3; cases hi3
  rw [hi] at hi3
  simp only [Option.map_some, Option.some.injEq, Prod.mk.injEq] at hi3
  obtain ⟨hz, hs2, hb⟩ := hi3
  have hfc := run_firstCells_some (P := Try.prog) w i.size m ad m c news (by rw [hs2]; exact hl) hnews
  have hst := run_storeCells_at (P := Try.prog) g 0 76 news 0 cur w hg (by omega) h1
  simp only [Nat.add_zero, List.take_zero, List.nil_append, Nat.zero_add, hl] at hst
  simp [Builtin.append_, run_underlying Try.underlying58, sizeOf, typeInfo, hi, Builtin.lenOf, hm, hfc, Addr.add_lit, hst]
theorem run_clear_one {w : World} {g o c : Nat} {cur : Array Value} (ty : TypeId) (hg : w.heap[g]? = some (.cells cur 76 (0, 0))) (ho : o + 2 ≤ cur.size) :
    (Builtin.clear_ #[58] ty #[.slice (some ⟨g, o, none⟩) 1 c]).run Try.prog w = .ok (.tuple #[]) (w.setRow g (cur.toList.take o ++ [Value.slice none 0 0, Value.int .i64 0] ++ cur.toList.drop (o + 2)).toArray) := by
  have hz := (zero_of_info info_msg).1
  have hst := run_storeCells_at (P := Try.prog) g o 76 [.slice none 0 0, .int .i64 0] 0 cur w hg (by simpa using ho) (by simp [Value.oneCell'])
  simp only [Nat.add_zero, List.length_cons, List.length_nil, Nat.zero_add, Nat.reduceAdd] at hst
  have hzc : Builtin.zeroCells #[Value.slice none 0 0, Value.int .i64 0] 1 = #[Value.slice none 0 0, Value.int .i64 0] := by kernel_rfl
  simp only [Builtin.clear_, Sem.run_bind, run_underlying Try.underlying58, Result.andThen_ok, hz, Sem.run_pure, Value.cells, List.getElem?_toArray, List.getElem?_cons_zero, hzc]
  rw [hst]
  rfl

theorem wpList_app_room {ops : Array Oper} {rest : List Oper} {o : Oper} {a : Act} {Q : Exit → Act → World → Prop} {w : World} (hgd : o.guard = none) (s x : Operand)
    (ho : o.op = .call { callee := .builtin .append, args := #[s, x], argTypes := #[58, 58] })
    {g cap m c : Nat} {cur : Array Value} {ad : Addr} {news : List Value} (hs : a.eval s = .slice (some ⟨g, 0, none⟩) 0 cap) (hx : a.eval x = .slice (some ad) m c) (hg : w.heap[g]? = some (.cells cur 76 (0, 0))) (hcs : cur.size = cap * 2) (hl : news.length = m * 2) (hm : m ≤ cap)
    (hnews : ∀ j u, news[j]? = some u → w.cell? (ad.add j) = some u) (h1 : ∀ u ∈ news, u.oneCell' = true)
    (h : wpList Try.prog ops Q rest (a.put o.dst (.slice (some ⟨g, 0, none⟩) m cap)) (w.setRow g (news ++ cur.toList.drop (m * 2)).toArray)) : wpList Try.prog ops Q (o :: rest) a w := by
  have hr := run_app_room (c := c) o.type hg hcs hl hm hnews h1
  refine wpList_plain hgd fun K hK => ?_
  unfold Oper.wp execOp
  simp only [ho, resolve, invoke, builtin, Sem.run_bind, Sem.run_pure, Result.andThen_ok, List.map_toArray, List.map_cons, List.map_nil, hs, hx, hr]
  exact hK _ _ h
theorem wpList_clear_one {ops : Array Oper} {rest : List Oper} {o : Oper} {a : Act} {Q : Exit → Act → World → Prop} {w : World} (hgd : o.guard = none) (x : Operand)
    (ho : o.op = .call { callee := .builtin .clear, args := #[x], argTypes := #[58] })
    {g off c : Nat} {cur : Array Value} (hx : a.eval x = .slice (some ⟨g, off, none⟩) 1 c) (hg : w.heap[g]? = some (.cells cur 76 (0, 0))) (hoff : off + 2 ≤ cur.size)
    (h : ∀ v, wpList Try.prog ops Q rest (a.put o.dst v) (w.setRow g (cur.toList.take off ++ [Value.slice none 0 0, Value.int .i64 0] ++ cur.toList.drop (off + 2)).toArray)) : wpList Try.prog ops Q (o :: rest) a w := by
  have hr := run_clear_one (c := c) o.type hg hoff
  refine wpList_plain hgd fun K hK => ?_
  unfold Oper.wp execOp
  simp only [ho, resolve, invoke, builtin, Sem.run_bind, Sem.run_pure, Result.andThen_ok, List.map_toArray, List.map_cons, List.map_nil, hx, hr]
  exact hK _ _ (h _)

set_option maxRecDepth 100000 in
set_option maxHeartbeats 1000000 in
theorem delete_at {w : World} {g n cap : Nat} {cur : Array Value} (hg : w.heap[g]? = some (.cells cur 76 (0, 0))) (hcs : cur.size = cap * 2) (hn : 1 ≤ n) (hcap : n ≤ cap) (hm : cap ≤ maxLen) (h1 : ∀ u ∈ (cur.toList.take (n * 2)).drop 2, u.oneCell' = true) :
    Calls Try.prog 37 #[.slice (some ⟨g, 0, none⟩) n cap, .int .i64 0, .int .i64 1] w fun e w' => e = .returned (.slice (some ⟨g, 0, none⟩) (n - 1) cap) ∧
      ∃ cur' : Array Value, w'.heap[g]? = some (.cells cur' 76 (0, 0)) ∧ cur'.size = cap * 2 ∧ cur'.toList.take ((n - 1) * 2) = (cur.toList.take (n * 2)).drop 2 ∧ (∀ k : Nat, k ≠ g → w'.heap[k]? = w.heap[k]?) ∧ w'.heap.size = w.heap.size ∧ Below g w w' := by
  unfold maxLen at hm
  obtain ⟨m, rfl⟩ : ∃ m, n = m + 1 := ⟨n - 1, by omega⟩
  obtain ⟨news, hnews⟩ : ∃ news, (cur.toList.take ((m + 1) * 2)).drop 2 = news := ⟨_, rfl⟩
  rw [hnews] at h1 ⊢
  have hnl : news.length = m * 2 := by rw [← hnews]; simp [hcs]; omega
  have HG := hide hg; have HCS := hide hcs; have H1 := hide h1; have HN := hide hnews; have HNL := hide hnl
  have i1 : ((m : Int) + 1 == 0) = false := by simp; omega
  clear hg hcs h1 hnews hnl
  go_enter Try.func37, Try.ntmps37
  go_wp2_with fail
  have hcsz := HCS.out; have hll := HNL.out
  have hA : (∀ j u, news[j]? = some u → w.cell? ((if cap = 1 then (⟨g, 0, none⟩ : Addr) else ⟨g, 2, none⟩).add j) = some u) := by
    intro j u hu
    have hj : j < news.length := (List.getElem?_eq_some_iff.1 hu).1
    rw [if_neg (by omega), show (⟨g, 2, none⟩ : Addr).add j = ⟨g, 2 + j, none⟩ by unfold Addr.add; split <;> simp_all, cell_of_row _ _ _ _ _ _ HG.out, ← Array.getElem?_toList, ← hu, ← HN.out, List.getElem?_drop, List.getElem?_take_of_lt (by omega)]
  have HA := hide hA
  clear hA
  refine wp_region_still_tail 6 (by kernel_rfl) (by kernel_rfl) ?_
  simp only [List.take_succ_cons, List.take_zero, List.drop_succ_cons, List.drop_zero]
  have HG2 := hide (show ({ w with drawn := w.drawn + 1 } : World).heap[g]? = _ from HG.out)
  have HA2 := hide (show ∀ j u, news[j]? = some u → ({ w with drawn := w.drawn + 1 } : World).cell? ((if cap = 1 then (⟨g, 0, none⟩ : Addr) else ⟨g, 2, none⟩).add j) = some u from HA.out)
  have hb2 : Below g w { w with drawn := w.drawn + 1 } := below_drewN (Below.refl _ _) 1
  have HK2 := hide (show ∀ k : Nat, ({ w with drawn := w.drawn + 1 } : World).heap[k]? = w.heap[k]? from fun _ => rfl)
  have HZ2 := hide (show ({ w with drawn := w.drawn + 1 } : World).heap.size = w.heap.size from rfl)
  generalize ({ w with drawn := w.drawn + 1 } : World) = w2 at HG2 HA2 hb2 HK2 HZ2 ⊢
  have i2 : (1 : Int) ≤ (cap : Int) := by omega
  have i3 : (1 : Int) ≤ (m : Int) + 1 := by omega
  have i4 : ¬ cap = 0 := by omega
  repeat still_step
  refine wpStill_nil ?_
  have i5 : (m : Int) + 1 ≤ (cap : Int) := by omega
  have i6 : ¬ cap = m := by omega
  have hrow3 := setRow_heap w2 g cur (news ++ cur.toList.drop (m * 2)).toArray 76 (0, 0) HG2.out
  have hs3 : (news ++ cur.toList.drop (m * 2)).toArray.size = cap * 2 := by simp; omega
  obtain ⟨cur3, hc3⟩ : ∃ cur3, (news ++ cur.toList.drop (m * 2)).toArray = cur3 := ⟨_, rfl⟩
  have ht3 : cur3.toList.take (m * 2) = news := by rw [← hc3]; simp [hll]
  rw [hc3] at hrow3 hs3
  have R3 := hide hrow3; have S3 := hide hs3; have T3 := hide ht3; have C3 := hide hc3
  clear hrow3 hs3 ht3 hc3
  go_wp2_with (first
    | (at_builtin
       refine wpList_app_room rfl (.tmp 22) (.tmp 25) rfl (ad := if cap = 1 then ⟨g, 0, none⟩ else ⟨g, 2, none⟩) (c := cap - 1) rfl (by show Value.slice (if cap = 1 then some _ else some _) m (cap - 1) = _; split <;> rfl) HG2.out HCS.out HNL.out (by omega) HA2.out H1.out ?_
       rw [C3.out])
    | (refine wpList_clear_one rfl (.tmp 31) rfl (g := g) (off := m * 2) (c := cap - m) rfl R3.out (by have := S3.out; omega) ?_
       intro vv))
  all_goals
    go_ret
    refine ⟨rfl, _, setRow_heap _ _ _ _ _ _ R3.out, ?_, ?_, fun k hk => ?_, ?_, below_setRow (below_setRow hb2 (Nat.le_refl _) _) (Nat.le_refl _) _⟩
    · have := S3.out; simp; omega
    · rw [T3.out]
      exact List.take_left' HNL.out
    · exact (setRow_other _ _ _ _ hk).trans ((setRow_other _ _ _ _ hk).trans (HK2.out k))
    · simpa using HZ2.out
end Go.Proofs.Ytdimllmbalponaa
