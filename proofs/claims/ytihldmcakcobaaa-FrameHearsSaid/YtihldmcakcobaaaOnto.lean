/-
  A slice of bytes of the call's own, and what is appended to it, wherever that stands then; the document's bytes of a state are one.
-/
import Derived.Test.YtihldmcakcobaaaRefState
import Derived.Laws.AppendOwn
namespace Go.Proofs.Ytihldmcakcobaaa
open Go.RowKit
set_option linter.unusedVariables false

/-- a slice of the call's own with these bytes -/
def OwnB (w : World) (base : Nat) (v : Value) (l : List Nat) : Prop := w.ownsRow base 5 1 v l.length (l.map fun u : Nat => Value.int .u8 (u : Int))

theorem OwnB.slice {w : World} {base : Nat} {v : Value} {l : List Nat} (h : OwnB w base v l) (h0 : 0 < l.length) (hl : ∀ c ∈ l, c < 256) : ∃ g c, v = .slice (some ⟨g, 0, none⟩) l.length c ∧ base ≤ g ∧ g < w.heap.size ∧ l.length ≤ c ∧ c ≤ maxLen ∧ Bytes w (some ⟨g, 0, none⟩) l := by
  rcases h.2 with ⟨rfl, h1⟩ | ⟨g, cap, cur, rfl, hgg, hheap, hncap, hcapm, hcs, htake⟩
  · omega
  · have hlt : g < w.heap.size := by
      rcases Nat.lt_or_ge g w.heap.size with h1 | h1
      · exact h1
      · rw [Array.getElem?_eq_none h1] at hheap; cases hheap
    refine ⟨g, cap, rfl, hgg, hlt, hncap, hcapm, hl, .inr ⟨g, 0, rfl, hlt, fun j hj => ?_⟩⟩
    rw [Nat.zero_add, h.cellAt j (by omega), List.getElem?_map, List.getD_eq_getElem?_getD, List.getElem?_eq_getElem hj]
    rfl

theorem own_row {w : World} {base g : Nat} {l : List Nat} (h : w.heap[g]? = some (.cells (bys l) 5 (0, 0))) (hg : base ≤ g) (hl : l.length ≤ maxLen) : OwnB w base (.slice (some ⟨g, 0, none⟩) l.length l.length) l :=
  ⟨by simp, .inr ⟨g, l.length, bys l, rfl, hg, h, Nat.le_refl _, hl, by simp [bys_size], by simp only [bys, Nat.mul_one]; exact List.take_of_length_le (by simp)⟩⟩
theorem OwnB.later {w w' : World} {base B : Nat} {v : Value} {l : List Nat} (h : OwnB w base v l) (hb : Below B w w') (hB : ∀ g, v.ownBlock = some g → g < B) : OwnB w' base v l := by
  rcases h.2 with ⟨rfl, h1⟩ | ⟨g, cap, cur, rfl, hgg, hheap, hrest⟩
  · exact ⟨h.1, .inl ⟨rfl, h1⟩⟩
  · exact ⟨h.1, .inr ⟨g, cap, cur, rfl, hgg, (hb.block g (hB g rfl)).trans hheap, hrest⟩⟩

theorem wp_onto {o : Oper} {a : Act} {w : World} {K : Act → World → Prop} {Q : Exit → Act → World → Prop} (s x : Operand)
    (ho : o.op = .call { callee := .builtin .append, args := #[s, x], argTypes := #[28, 28] })
    (base : Nat) (v : Value) (l : List Nat) (hs : a.eval s = v) (hown : OwnB w base v l) (ad : Addr) (m c : Nat) (r : List Nat) (hx : a.eval x = .slice (some ad) m c) (hr : r.length = m) (hB : Bytes w (some ad) r) (hm : l.length + m ≤ 1000000) (hbase : base ≤ w.heap.size)
    (h : ∀ v' w', OwnB w' base v' (l ++ r) → Below base w w' → K (a.put o.dst v') w') : o.wp Try.prog a w K Q := by
  obtain ⟨i, hi, hz, hs1, hb⟩ := info_parts info_u8
  refine wp_append_own w s x 28 ho base 5 i (.int .u8 0) 1 1 Try.underlying28 hi hz hs1 hb rfl (by omega) v l.length (l.map fun u : Nat => Value.int .u8 (u : Int)) hs hown ad m c (r.map fun u : Nat => Value.int .u8 (u : Int)) hx (by simp; exact hr) ?_ ?_ (by simp only [maxLen]; omega) (by omega) hbase ?_
  · intro j u hu
    rw [List.getElem?_map] at hu
    obtain ⟨e, he, rfl⟩ := Option.map_eq_some_iff.1 hu
    have hj : j < r.length := by
      rcases Nat.lt_or_ge j r.length with h1 | h1
      · exact h1
      · rw [List.getElem?_eq_none h1] at he; cases he
    obtain ⟨b, off, h1, _, hc⟩ := hB.at hj
    injection h1 with h1
    subst h1
    have h2 := hc j hj
    rw [List.getD_eq_getElem?_getD, he] at h2
    rw [show (⟨b, off, none⟩ : Addr).add j = ⟨b, off + j, none⟩ by unfold Addr.add; split <;> simp_all]
    exact h2
  · intro u hu
    obtain ⟨e, _, rfl⟩ := List.mem_map.1 hu
    rfl
  · intro v' w' h2 h3 h4
    refine h v' w' ?_ ?_
    · unfold OwnB
      rw [List.map_append, List.length_append, hr]
      exact h2
    · refine (Below.refl _ _).grown h3 hbase ?_
      intro b hb'
      rcases hown.2 with ⟨rfl, _⟩ | ⟨g, cap, cur, rfl, hgg, _⟩
      · cases hb'
      · simp [Value.ownBlock] at hb'
        omega
end Go.Proofs.Ytihldmcakcobaaa
