/-
  append([]T{}, x...), whatever x has: a list of one's own; and append of one element.
-/
import Derived.Test.YtbeggdahbhfhpaaDoorChkL
namespace Go.Proofs.YtbeggdahbhfhpaaDoor
open Go.RowKit Go.Deep
set_option linter.unusedVariables false
set_option linter.unusedSimpArgs false

/-- cells that lie somewhere -/
def Src (w : World) (A : Option Addr) (n size : Nat) (news : List Value) : Prop :=
  news.length = n * size ∧ (∀ u ∈ news, u.oneCell' = true) ∧ (n = 0 ∨ ∃ b off, A = some ⟨b, off, none⟩ ∧ b < w.heap.size ∧ ∀ (j : Nat) (u : Value), news[j]? = some u → w.cell? ⟨b, off + j, none⟩ = some u)
theorem Src.of_below {w w' : World} {A : Option Addr} {n size B : Nat} {news : List Value} (h : Src w A n size news) (hb : Below B w w') (hB : w.heap.size ≤ B) : Src w' A n size news := by
  refine ⟨h.1, h.2.1, ?_⟩
  rcases h.2.2 with h0 | ⟨b, off, e, hlt, hc⟩
  · exact .inl h0
  · exact .inr ⟨b, off, e, Nat.lt_of_lt_of_le hlt hb.size, fun j u hu => cell_below hb hB hlt (hc j u hu)⟩

/-- a block of one's own that begins with these cells -/
structure Own (W : World) (base : Nat) (e : TypeId) (size g n c : Nat) (xs : List Value) : Prop where
  low : base ≤ g
  nc : n ≤ c
  cm : c ≤ maxLen
  blk : ∃ cur, W.heap[g]? = some (.cells cur e (0, 0)) ∧ cur.size = c * size ∧ cur.toList.take (n * size) = xs
  len : xs.length = n * size
theorem Own.lt {W : World} {base : Nat} {e : TypeId} {size g n c : Nat} {xs : List Value} (h : Own W base e size g n c xs) : g < W.heap.size := by
  obtain ⟨cur, h1, _⟩ := h.blk
  exact (Array.getElem?_eq_some_iff.1 h1).1
theorem Own.kept {W W' : World} {base : Nat} {e : TypeId} {size g n c : Nat} {xs : List Value} (h : Own W base e size g n c xs) (hb : W'.heap[g]? = W.heap[g]?) : Own W' base e size g n c xs := by
  obtain ⟨cur, h1, h2⟩ := h.blk
  exact { h with blk := ⟨cur, hb.trans h1, h2⟩ }
theorem Own.below {W W' : World} {base B : Nat} {e : TypeId} {size g n c : Nat} {xs : List Value} (h : Own W base e size g n c xs) (hb : Below B W W') (hB : g < B) : Own W' base e size g n c xs := h.kept (hb.block g hB)
theorem Own.cell {W : World} {base : Nat} {e : TypeId} {size g n c : Nat} {xs : List Value} (h : Own W base e size g n c xs) {j : Nat} {u : Value} (hu : xs[j]? = some u) : W.cell? ⟨g, j, none⟩ = some u := by
  obtain ⟨cur, h1, _, h3⟩ := h.blk
  rw [cell_of_row _ _ _ _ _ _ h1]
  rw [← h3, List.getElem?_take] at hu
  split at hu
  · simpa using hu
  · cases hu
theorem Own.free {W : World} {base : Nat} {e : TypeId} {size g n c : Nat} {xs : List Value} (h : Own W base e size g n c xs) (j : Nat) : W.frozen? ⟨g, j, none⟩ = false := by
  obtain ⟨cur, h1, _⟩ := h.blk
  simp [World.frozen?, h1]
theorem Own.set {W : World} {base : Nat} {e : TypeId} {size g n c : Nat} {xs : List Value} (h : Own W base e size g n c xs) (j : Nat) (v : Value) : Own (W.setCell ⟨g, j, none⟩ v) base e size g n c (xs.set j v) := by
  obtain ⟨cur, h1, h2, h3⟩ := h.blk
  refine { h with blk := ⟨cur.setIfInBounds j v, ?_, by simpa using h2, ?_⟩, len := by simpa using h.len }
  · show (W.heap.modify g _)[g]? = _
    rw [Array.getElem?_modify, if_pos rfl, h1]; rfl
  · rw [← h3, Array.toList_setIfInBounds]
    apply List.ext_getElem?
    intro i
    simp only [List.getElem?_take, List.getElem?_set, List.length_take]
    by_cases hi : i < n * size
    · simp only [hi, if_true]
      by_cases hji : j = i
      · subst hji
        have e : (j < min (n * size) cur.toList.length) = (j < cur.toList.length) := propext (by omega)
        simp only [e]
      · simp [hji]
    · by_cases hji : j = i
      · subst hji
        simp [hi]
        omega
      · simp [hi, hji]
theorem setCell_other {W : World} {g k j : Nat} {v : Value} (h : k ≠ g) : (W.setCell ⟨g, j, none⟩ v).heap[k]? = W.heap[k]? := by
  show (W.heap.modify g _)[k]? = _
  rw [Array.getElem?_modify, if_neg (fun e => h e.symm)]

theorem append_none_run (w : World) (t ty e : TypeId) (i : TypeInfo) (ht : Tryd.prog.underlying t = some (.slice e)) (hi : Tryd.prog.info? e = some i) (hby : i.bytes ≤ 1000) (g c : Nat) :
    (Builtin.append_ #[t, t] ty #[.slice (some ⟨g, 0, none⟩) 0 0, .slice none 0 c]).run Tryd.prog w = .ok (.slice (some ⟨g, 0, none⟩) 0 0) w := by
  simp [Builtin.append_, run_underlying ht, sizeOf, typeInfo, hi, Builtin.lenOf, Builtin.firstCells, storeCells]

theorem wpList_dup {ops : Array Oper} {rest : List Oper} {o : Oper} {a : Act} {Q : Exit → Act → World → Prop} (w : World) (hgd : o.guard = none) (s x : Operand) (t : TypeId)
    (ho : o.op = .call { callee := .builtin .append, args := #[s, x], argTypes := #[t, t] })
    (e : TypeId) (z : Value) (size bytes : Nat) (ht : Tryd.prog.underlying t = some (.slice e)) (hi : (Tryd.prog.info? e).map (fun i => (i.zero, i.size, i.bytes)) = some (some z, size, bytes)) (hzs : z.cells.size = size) (hsz : 0 < size) (hby : bytes ≤ 1000)
    (g : Nat) (hs : a.eval s = .slice (some ⟨g, 0, none⟩) 0 0) (hg : w.heap[g]? = some (.cells #[] e (0, 0)))
    (A : Option Addr) (n c : Nat) (news : List Value) (hx : a.eval x = .slice A n c) (hS : Src w A n size news) (hm : n ≤ 17592186044416 ∧ n * bytes ≤ 140737488355328) (hA : A = none → n = 0)
    (h : ∀ g' c' w', g ≤ g' → Own w' g e size g' n c' news → Below g w w' → wpList Tryd.prog ops Q rest (a.put o.dst (.slice (some ⟨g', 0, none⟩) n c')) w') :
    wpList Tryd.prog ops Q (o :: rest) a w := by
  rcases hi' : Tryd.prog.info? e with _ | i
  · rw [hi'] at hi; cases hi
  rw [hi'] at hi
  simp only [Option.map_some, Option.some.injEq, Prod.mk.injEq] at hi
  obtain ⟨hz, hs1, hb⟩ := hi
  have hgl : g < w.heap.size := (Array.getElem?_eq_some_iff.1 hg).1
  rcases A with _ | ad
  · obtain rfl := hA rfl
    have hnil : news = [] := List.length_eq_zero_iff.1 (by simpa using hS.1)
    subst hnil
    refine wpList_plain hgd fun K hK => ?_
    have hrun := append_none_run w t o.type e i ht hi' (by rw [hb]; exact hby) g c
    unfold Oper.wp execOp
    simp only [ho, resolve, invoke, builtin, Sem.run_bind, Sem.run_pure, Result.andThen_ok, List.map_toArray, List.map_cons, List.map_nil, hs, hx, hrun]
    exact hK _ _ (h g 0 w (Nat.le_refl _) ⟨Nat.le_refl _, Nat.le_refl _, Nat.zero_le _, ⟨#[], hg, by simp, by simp⟩, by simp⟩ (Below.refl _ _))
  · have hown : w.ownsRow g e size (.slice (some ⟨g, 0, none⟩) 0 0) 0 [] := ⟨by simp, .inr ⟨g, 0, #[], rfl, Nat.le_refl _, hg, Nat.le_refl _, Nat.zero_le _, by simp, by simp⟩⟩
    refine wpList_append_own w hgd s x _ ho g e i z size bytes ht hi' hz hs1 hb hzs hsz _ 0 [] hs hown ad n c news hx hS.1 ?_ hS.2.1 (by simp only [maxLen]; omega) (by rw [Nat.zero_add]; exact hm.2) (Nat.le_of_lt hgl) ?_
    · intro j u hu
      rcases hS.2.2 with h0 | ⟨b, off, h1, _, hc⟩
      · subst h0
        have : news = [] := List.length_eq_zero_iff.1 (by simpa using hS.1)
        subst this
        cases hu
      · have e1 : ad = ⟨b, off, none⟩ := Option.some.inj h1
        rw [e1, plain_add]
        exact hc j u hu
    · intro v' w' hown' hgrow hnil
      rw [Nat.zero_add, List.nil_append] at hown'
      have hbel : Below g w w' := (Below.refl _ _).grown hgrow (Nat.le_of_lt hgl) (by simp [Value.ownBlock])
      rcases hown'.2 with ⟨rfl, _⟩ | ⟨g', cap, cur, rfl, hgg, hheap, hncap, hcapm, hcs, htake⟩
      · exact absurd (hnil.1 rfl).1 (by simp)
      · exact h g' cap w' hgg ⟨hgg, hncap, hcapm, ⟨cur, hheap, hcs, htake⟩, hS.1⟩ hbel

/-- append of one element, which lies in a block of its own -/
theorem wpList_one {ops : Array Oper} {rest : List Oper} {o : Oper} {a : Act} {Q : Exit → Act → World → Prop} (w : World) (hgd : o.guard = none) (s x : Operand) (t : TypeId)
    (ho : o.op = .call { callee := .builtin .append, args := #[s, x], argTypes := #[t, t] })
    (e : TypeId) (z : Value) (size bytes : Nat) (ht : Tryd.prog.underlying t = some (.slice e)) (hi : (Tryd.prog.info? e).map (fun i => (i.zero, i.size, i.bytes)) = some (some z, size, bytes)) (hzs : z.cells.size = size) (hsz : 0 < size) (hby : bytes ≤ 1000)
    (base : Nat) (v : Value) (n : Nat) (xs : List Value) (hs : a.eval s = v) (hown : w.ownsRow base e size v n xs)
    (q c : Nat) (us : List Value) (hx : a.eval x = .slice (some ⟨q, 0, none⟩) 1 c) (hq : w.heap[q]? = some (.cells us.toArray e (0, 0))) (hul : us.length = size) (hu : ∀ u ∈ us, u.oneCell' = true) (hn : n ≤ 100000) (hbase : base ≤ w.heap.size)
    (h : ∀ v' w', w'.ownsRow base e size v' (n + 1) (xs ++ us) → w.grownBy w' v.ownBlock → (v'.ownBlock = v.ownBlock ∨ ∀ k, v'.ownBlock = some k → w.heap.size ≤ k) → wpList Tryd.prog ops Q rest (a.put o.dst v') w') :
    wpList Tryd.prog ops Q (o :: rest) a w := by
  rcases hi' : Tryd.prog.info? e with _ | i
  · rw [hi'] at hi; cases hi
  rw [hi'] at hi
  simp only [Option.map_some, Option.some.injEq, Prod.mk.injEq] at hi
  obtain ⟨hz, hs1, hb⟩ := hi
  have hnews : ∀ (j : Nat) (y : Value), us[j]? = some y → w.cell? ((⟨q, 0, none⟩ : Addr).add j) = some y := by
    intro j y hy
    rw [plain_add, cell_of_row _ _ _ _ _ _ hq]
    simpa using hy
  have hbb : (n + 1) * bytes ≤ 140737488355328 := by have := Nat.mul_le_mul (show n + 1 ≤ 100001 by omega) hby; omega
  refine wpList_plain hgd fun K hK => ?_
  obtain ⟨v', w', hr, h2, h3, _⟩ := run_append_own (P := Tryd.prog) w base t o.type e i _ size bytes ht hi' hz hs1 hb hzs hsz v n xs hown ⟨q, 0, none⟩ 1 c us (by omega) hnews hu (by simp only [maxLen]; omega) hbb hbase
  have h4 := app_where base t o.type e i _ size ht hi' hz hs1 v n xs hown ⟨q, 0, none⟩ 1 c us (by omega) hnews hu (by omega) (by simp only [maxLen]; omega) (by rw [hb]; exact hbb) hr
  unfold Oper.wp execOp
  simp only [ho, resolve, invoke, builtin, Sem.run_bind, Sem.run_pure, Result.andThen_ok, List.map_toArray, List.map_cons, List.map_nil, hs, hx, hr]
  exact hK _ _ (h v' w' h2 h3 h4)
end Go.Proofs.YtbeggdahbhfhpaaDoor
