/-
  A copy of bytes by append onto an empty slice of the call's own, as one step of a walk: whatever the source (nil, empty or not).
-/
import Derived.Test.YtihldmcakcobaaaSum
import Derived.Maps.AppendAt
namespace Go.Proofs.Ytihldmcakcobaaa
open Go.RowKit
set_option linter.unusedVariables false

theorem append_nil_run (w : World) (g c : Nat) (cs : Array Value) (hg : w.heap[g]? = some (.cells cs 5 (0, 0))) (ty : TypeId) :
    (Builtin.append_ #[28, 28] ty #[.slice (some ⟨g, 0, none⟩) 0 0, .slice none 0 c]).run Try.prog w = .ok (.slice (some ⟨g, 0, none⟩) 0 0) w := by
  obtain ⟨i, hi, hz, hs, hb⟩ := info_parts info_u8
  simp [Builtin.append_, run_underlying Try.underlying28, sizeOf, typeInfo, hi, Builtin.lenOf, Builtin.firstCells, storeCells]

theorem wpList_copyc {ops : Array Oper} {rest : List Oper} {o : Oper} {a : Act} {Q : Exit → Act → World → Prop} (w : World) (hgd : o.guard = none) (s x : Operand)
    (ho : o.op = .call { callee := .builtin .append, args := #[s, x], argTypes := #[28, 28] })
    (g : Nat) (hs : a.eval s = .slice (some ⟨g, 0, none⟩) 0 0) (hg : w.heap[g]? = some (.cells #[] 5 (0, 0)))
    (A : Option Addr) (n c : Nat) (l : List Nat) (hx : a.eval x = .slice A n c) (hB : Bytes w A l) (hn : l.length = n) (hm : n ≤ 1000000)
    (h : ∀ g' c' w' cur, n ≤ c' → c' ≤ maxLen → g ≤ g' → w'.heap[g']? = some (.cells cur 5 (0, 0)) → cur.size = c' → Row w' g' n (fun t => l.getD t 0) → Below g w w' → wpList Try.prog ops Q rest (a.put o.dst (.slice (some ⟨g', 0, none⟩) n c')) w') :
    wpList Try.prog ops Q (o :: rest) a w := by
  have hgl : g < w.heap.size := by
    rcases Nat.lt_or_ge g w.heap.size with h1 | h1
    · exact h1
    · rw [Array.getElem?_eq_none h1] at hg; cases hg
  rcases A with _ | ad
  · have hl : l = [] := by
      rcases hB.2 with h1 | ⟨b, off, h1, _⟩
      · exact h1
      · cases h1
    subst hl
    obtain rfl : n = 0 := hn.symm
    refine wpList_plain hgd fun K hK => ?_
    have hrun := append_nil_run w g c #[] hg o.type
    unfold Oper.wp
    simp [execOp, ho, resolve, invoke, builtin, hs, hx, hrun, Result.andThen]
    exact hK _ _ (h g 0 w #[] (Nat.le_refl _) (Nat.zero_le _) (Nat.le_refl _) hg rfl ⟨hgl, fun t ht => absurd ht (Nat.not_lt_zero _)⟩ (Below.refl _ _))
  · obtain ⟨i, hi, hz, hs1, hb⟩ := info_parts info_u8
    have hown : w.ownsRow g 5 1 (.slice (some ⟨g, 0, none⟩) 0 0) 0 [] := ⟨rfl, .inr ⟨g, 0, #[], rfl, Nat.le_refl _, hg, Nat.le_refl _, Nat.zero_le _, rfl, rfl⟩⟩
    refine wpList_append_own w hgd s x _ ho g 5 i (.int .u8 0) 1 1 Try.underlying28 hi hz hs1 hb rfl (by omega) _ 0 [] hs hown ad n c (l.map fun u : Nat => Value.int .u8 (u : Int)) hx (by simp; exact hn) ?_ ?_ (by simp only [maxLen]; omega) (by omega) (Nat.le_of_lt hgl) ?_
    · intro j u hu
      rw [List.getElem?_map] at hu
      obtain ⟨e, he, rfl⟩ := Option.map_eq_some_iff.1 hu
      have hj : j < l.length := by
        rcases Nat.lt_or_ge j l.length with h1 | h1
        · exact h1
        · rw [List.getElem?_eq_none h1] at he; cases he
      obtain ⟨b, off, h1, _, hc⟩ := hB.at hj
      injection h1 with h1
      subst h1
      have h2 := hc j hj
      rw [List.getD_eq_getElem?_getD, he] at h2
      rw [show (⟨b, off, none⟩ : Addr).add j = ⟨b, off + j, none⟩ by unfold Addr.add; split <;> simp_all]
      exact h2
    · intro u hu
      obtain ⟨e, _, rfl⟩ := List.mem_map.1 hu
      rfl
    · intro v' w' hown' hgrow hnil
      rw [Nat.zero_add, List.nil_append] at hown'
      have hbel : Below g w w' := (Below.refl _ _).grown hgrow (Nat.le_of_lt hgl) (by simp [Value.ownBlock])
      rcases hown'.2 with ⟨rfl, _⟩ | ⟨g', cap, cur, rfl, hgg, hheap, hncap, hcapm, hcs, htake⟩
      · exact absurd (hnil.1 rfl).1 (by simp)
      · refine h g' cap w' cur hncap hcapm hgg hheap (by simpa using hcs) ⟨?_, fun t ht => ⟨?_, ?_⟩⟩ hbel
        · rcases Nat.lt_or_ge g' w'.heap.size with h1 | h1
          · exact h1
          · rw [Array.getElem?_eq_none h1] at hheap; cases hheap
        · show _ = some (Value.int .u8 ((l.getD t 0 : Nat) : Int))
          rw [hown'.cellAt t (by omega), List.getElem?_map, List.getD_eq_getElem?_getD, List.getElem?_eq_getElem (by omega)]
          rfl
        · exact hown'.frozenAt t
theorem wpList_copy {ops : Array Oper} {rest : List Oper} {o : Oper} {a : Act} {Q : Exit → Act → World → Prop} (w : World) (hgd : o.guard = none) (s x : Operand)
    (ho : o.op = .call { callee := .builtin .append, args := #[s, x], argTypes := #[28, 28] })
    (g : Nat) (hs : a.eval s = .slice (some ⟨g, 0, none⟩) 0 0) (hg : w.heap[g]? = some (.cells #[] 5 (0, 0)))
    (A : Option Addr) (n c : Nat) (l : List Nat) (hx : a.eval x = .slice A n c) (hB : Bytes w A l) (hn : l.length = n) (hm : n ≤ 1000000)
    (h : ∀ g' c' w', n ≤ c' → c' ≤ maxLen → g ≤ g' → Row w' g' n (fun t => l.getD t 0) → Below g w w' → wpList Try.prog ops Q rest (a.put o.dst (.slice (some ⟨g', 0, none⟩) n c')) w') :
    wpList Try.prog ops Q (o :: rest) a w := wpList_copyc w hgd s x ho g hs hg A n c l hx hB hn hm fun g' c' w' _ h1 h2 h3 _ _ h4 h5 => h g' c' w' h1 h2 h3 h4 h5
end Go.Proofs.Ytihldmcakcobaaa
