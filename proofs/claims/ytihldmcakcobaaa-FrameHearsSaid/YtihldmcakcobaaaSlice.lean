/-
  Slices of bytes of the call's own that are never nil: their block, what is appended, what is stored, copies.
-/
import Derived.Test.YtihldmcakcobaaaRefCorr
import Derived.Test.YtihldmcakcobaaaOnto
namespace Go.Proofs.Ytihldmcakcobaaa
open Go.RowKit
set_option linter.unusedVariables false

/-- block g, of the call's own, has these n bytes, and room for c -/
structure OwnS (w : World) (base g n c : Nat) (l : List Nat) : Prop where
  len : l.length = n
  lt : ∀ x ∈ l, x < 256
  base : base ≤ g
  le : n ≤ c
  cap : c ≤ maxLen
  row : ∃ cur, w.heap[g]? = some (.cells cur 5 (0, 0)) ∧ cur.size = c ∧ cur.toList.take n = l.map fun u : Nat => Value.int .u8 (u : Int)
theorem OwnS.own {w : World} {base g n c : Nat} {l : List Nat} (h : OwnS w base g n c l) : w.ownsRow base 5 1 (.slice (some ⟨g, 0, none⟩) n c) n (l.map fun u : Nat => Value.int .u8 (u : Int)) := by
  obtain ⟨cur, h1, h2, h3⟩ := h.row
  exact ⟨by simp [h.len], .inr ⟨g, c, cur, rfl, h.base, h1, h.le, h.cap, by simpa using h2, by simpa using h3⟩⟩
theorem OwnS.blk {w : World} {base g n c : Nat} {l : List Nat} (h : OwnS w base g n c l) : g < w.heap.size := by
  obtain ⟨cur, h1, _⟩ := h.row
  exact (Array.getElem?_eq_some_iff.1 h1).1
theorem OwnS.bytes {w : World} {base g n c : Nat} {l : List Nat} (h : OwnS w base g n c l) : Bytes w (some ⟨g, 0, none⟩) l := by
  refine ⟨h.lt, .inr ⟨g, 0, rfl, h.blk, fun j hj => ?_⟩⟩
  rw [Nat.zero_add, h.own.cellAt j (by have := h.len; omega), List.getElem?_map, List.getD_eq_getElem?_getD, List.getElem?_eq_getElem hj]
  rfl
theorem OwnS.cell {w : World} {base g n c : Nat} {l : List Nat} (h : OwnS w base g n c l) (t : Nat) (ht : t < n) : w.cell? ⟨g, t, none⟩ = some (.int .u8 ((l.getD t 0 : Nat) : Int)) ∧ w.frozen? ⟨g, t, none⟩ = false := by
  refine ⟨?_, h.own.frozenAt t⟩
  rw [h.own.cellAt t (by omega), List.getElem?_map, List.getD_eq_getElem?_getD, List.getElem?_eq_getElem (by rw [h.len]; exact ht)]
  rfl
theorem OwnS.kept {w w' : World} {base g n c : Nat} {l : List Nat} (h : OwnS w base g n c l) (hb : w'.heap[g]? = w.heap[g]?) : OwnS w' base g n c l := by
  obtain ⟨cur, h1, h2⟩ := h.row
  exact ⟨h.len, h.lt, h.base, h.le, h.cap, cur, hb.trans h1, h2⟩
theorem OwnS.later {w w' : World} {base g n c B : Nat} {l : List Nat} (h : OwnS w base g n c l) (hb : Below B w w') (hB : g < B) : OwnS w' base g n c l := h.kept (hb.block g hB)
theorem OwnS.drew {w : World} {base g n c : Nat} {l : List Nat} (h : OwnS w base g n c l) : OwnS w.drew base g n c l := h.kept rfl
theorem OwnS.from {w : World} {base g n c b : Nat} {l : List Nat} (h : OwnS w base g n c l) (hb : b ≤ g) : OwnS w b g n c l := { h with base := hb }
theorem OwnS.store {w : World} {base g n c : Nat} {l : List Nat} (h : OwnS w base g n c l) (t v : Nat) (hv : v < 256) (ht : t < n) : OwnS (w.setCell ⟨g, t, none⟩ (.int .u8 (v : Int))) base g n c (l.set t v) := by
  obtain ⟨cur, h1, h2, h3⟩ := h.row
  refine ⟨by rw [List.length_set]; exact h.len, SumMath.set_lt l t v hv h.lt, h.base, h.le, h.cap, cur.setIfInBounds t (.int .u8 (v : Int)), ?_, by simpa using h2, ?_⟩
  · show (w.heap.modify g _)[g]? = _
    rw [Array.getElem?_modify, if_pos rfl, h1]
    rfl
  · rw [Array.toList_setIfInBounds, List.take_set, h3, List.map_set]
theorem OwnS.of_row {w : World} {base g n c : Nat} {f : Nat → Nat} {cur : Array Value} (h1 : w.heap[g]? = some (.cells cur 5 (0, 0))) (h2 : cur.size = c) (hR : Row w g n f) (hf : ∀ t, t < n → f t < 256) (hb : base ≤ g) (hn : n ≤ c) (hc : c ≤ maxLen) : OwnS w base g n c ((List.range n).map f) := by
  refine ⟨by simp, fun x hx => by obtain ⟨t, ht, rfl⟩ := List.mem_map.1 hx; exact hf t (List.mem_range.1 ht), hb, hn, hc, cur, h1, h2, ?_⟩
  refine List.ext_getElem? fun t => ?_
  by_cases ht : t < n
  · have h := (hR.2 t ht).1
    rw [List.getElem?_take_of_lt ht]
    simp only [List.map_map, List.getElem?_map, List.getElem?_range ht, Option.map_some, Function.comp]
    unfold World.cell? at h
    rw [h1] at h
    simpa using h
  · rw [List.getElem?_eq_none (by simp; omega), List.getElem?_eq_none (by simp; omega)]
theorem OwnS.made {w : World} {base : Nat} (l : List Nat) (hl : ∀ x ∈ l, x < 256) (hm : l.length ≤ maxLen) (hb : base ≤ w.heap.size) : OwnS (w.alloc (.cells (bys l) 5)) base w.heap.size l.length l.length l :=
  ⟨rfl, hl, hb, Nat.le_refl _, hm, bys l, heap_alloc_new w _, by simp [bys_size], by simp only [bys]; exact List.take_of_length_le (by simp)⟩

/-- append onto such a slice -/
theorem wp_ontoS {o : Oper} {a : Act} {w : World} {K : Act → World → Prop} {Q : Exit → Act → World → Prop} (s x : Operand)
    (ho : o.op = .call { callee := .builtin .append, args := #[s, x], argTypes := #[28, 28] })
    (base g n cp : Nat) (l : List Nat) (hs : a.eval s = .slice (some ⟨g, 0, none⟩) n cp) (hown : OwnS w base g n cp l) (A : Option Addr) (m c : Nat) (r : List Nat) (hx : a.eval x = .slice A m c) (hr : r.length = m) (hB : Bytes w A r) (hm : n + m ≤ 2000000) (hbase : base ≤ w.heap.size)
    (h : ∀ g' c' w', OwnS w' base g' (n + m) c' (l ++ r) → w.grownBy w' (some g) → K (a.put o.dst (.slice (some ⟨g', 0, none⟩) (n + m) c')) w') : o.wp Try.prog a w K Q := by
  obtain ⟨i, hi, hz, hs1, hb⟩ := info_parts info_u8
  rcases A with _ | ad
  · have hl : r = [] := by
      rcases hB.2 with h1 | ⟨b, off, h1, _⟩
      · exact h1
      · cases h1
    subst hl
    obtain rfl : m = 0 := hr.symm
    have hrun : (Builtin.append_ #[28, 28] o.type #[.slice (some ⟨g, 0, none⟩) n cp, .slice none 0 c]).run Try.prog w = .ok (.slice (some ⟨g, 0, none⟩) n cp) w := by
      simp [Builtin.append_, run_underlying Try.underlying28, sizeOf, typeInfo, hi, Builtin.lenOf, Builtin.firstCells, storeCells, hown.le]
    unfold Oper.wp
    simp [execOp, ho, resolve, invoke, builtin, hs, hx, hrun, Result.andThen]
    have h2 := h g cp w (by rw [List.append_nil]; exact hown) ⟨rfl, rfl, rfl, Nat.le_refl _, fun _ _ _ => rfl⟩
    exact h2
  · refine wp_append_own w s x 28 ho base 5 i (.int .u8 0) 1 1 Try.underlying28 hi hz hs1 hb rfl (by omega) (.slice (some ⟨g, 0, none⟩) n cp) n (l.map fun u : Nat => Value.int .u8 (u : Int)) hs hown.own ad m c (r.map fun u : Nat => Value.int .u8 (u : Int)) hx (by simp; exact hr) ?_ ?_ (by simp only [maxLen]; omega) (by omega) hbase ?_
    · intro j u hu
      rw [List.getElem?_map] at hu
      obtain ⟨e, he, rfl⟩ := Option.map_eq_some_iff.1 hu
      have hj : j < r.length := by
        rcases Nat.lt_or_ge j r.length with h1 | h1
        · exact h1
        · rw [List.getElem?_eq_none h1] at he; cases he
      obtain ⟨b, off, h1, _, hc⟩ := hB.at hj
      injection h1 with h1
      subst h1
      have h2 := hc j hj
      rw [List.getD_eq_getElem?_getD, he] at h2
      rw [show (⟨b, off, none⟩ : Addr).add j = ⟨b, off + j, none⟩ by unfold Addr.add; split <;> simp_all]
      exact h2
    · intro u hu
      obtain ⟨e, _, rfl⟩ := List.mem_map.1 hu
      rfl
    · intro v' w' h2 h3 h4
      rcases h2.2 with ⟨rfl, _⟩ | ⟨g', cap, cur, rfl, hgg, hheap, hncap, hcapm, hcs, htake⟩
      · exact absurd (h4.1 rfl).1 (by simp)
      · refine h g' cap w' ⟨by simp [hown.len, hr], ?_, hgg, hncap, hcapm, cur, hheap, by simpa using hcs, by simpa using htake⟩ h3
        intro y hy
        rcases List.mem_append.1 hy with hy | hy
        · exact hown.lt y hy
        · exact hB.1 y hy
theorem wpList_ontoS {ops : Array Oper} {rest : List Oper} {o : Oper} {a : Act} {w : World} {Q : Exit → Act → World → Prop} (hgd : o.guard = none) (s x : Operand)
    (ho : o.op = .call { callee := .builtin .append, args := #[s, x], argTypes := #[28, 28] })
    (base g n cp : Nat) (l : List Nat) (hs : a.eval s = .slice (some ⟨g, 0, none⟩) n cp) (hown : OwnS w base g n cp l) (A : Option Addr) (m c : Nat) (r : List Nat) (hx : a.eval x = .slice A m c) (hr : r.length = m) (hB : Bytes w A r) (hm : n + m ≤ 2000000) (hbase : base ≤ w.heap.size)
    (h : ∀ g' c' w', OwnS w' base g' (n + m) c' (l ++ r) → w.grownBy w' (some g) → wpList Try.prog ops Q rest (a.put o.dst (.slice (some ⟨g', 0, none⟩) (n + m) c')) w') : wpList Try.prog ops Q (o :: rest) a w :=
  wpList_plain hgd fun _ hK => wp_ontoS s x ho base g n cp l hs hown A m c r hx hr hB hm hbase fun g' c' w' h1 h2 => hK _ _ (h g' c' w' h1 h2)
theorem grown_below {w w' : World} {g base : Nat} (h : w.grownBy w' (some g)) (hg : base ≤ g) (hb : base ≤ w.heap.size) : Below base w w' :=
  (Below.refl _ _).grown h hb (fun b e => by injection e with e; omega)

/-- frame.Corrupt, its answer of the call's own -/
theorem corr_own (b : List Nat) (n : Nat) (ad : Addr) (cap : Nat) (z : Int) (mask : Nat) (w : World) (hn : b.length = n) (hm : n ≤ 1000000) (hB : Bytes w (some ad) b) (hz : (Lit.int .i64 z).wf = true) (hmask : mask < 4294967296) :
    Calls Try.prog 19 #[.slice (some ad) n cap, .int .i64 z, .int .u32 mask] w fun e w' => ∃ g c, e = .returned (.slice (some ⟨g, 0, none⟩) n c) ∧ OwnS w' w.heap.size g n c (corr b z mask) ∧ Below w.heap.size w w' := by
  refine (corr_cap b n ad cap z mask w hn hm hB hz hmask).mono ?_
  rintro e w' ⟨A, c, rfl, hnc, hcm, hM, ⟨g, cur, rfl, hg, hh, hs⟩, hb⟩
  refine ⟨g, c, rfl, ?_, hb⟩
  have hR : Row w' g n (fun t => (corr b z mask).getD t 0) := by
    rcases hM with h | ⟨g', h1, _, h2⟩
    · exact ⟨(Array.getElem?_eq_some_iff.1 hh).1, fun t ht => by omega⟩
    · injection h1 with h1; injection h1 with h1; subst h1; exact h2
  have h := OwnS.of_row hh hs hR (fun t ht => getD_lt (corr_lt b z mask hB.1) t) hg hnc hcm
  rwa [show (List.range n).map (fun t => (corr b z mask).getD t 0) = corr b z mask by
    refine ext_getD (by simp [corr_len, hn]) (fun t ht => ?_)
    rw [List.getD_eq_getElem?_getD, List.getElem?_map, List.getElem?_range (by simpa using ht)]; rfl] at h
end Go.Proofs.Ytihldmcakcobaaa
