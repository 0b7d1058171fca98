/-
  A buffer of the call's own with room for N bytes: what appending bytes onto it does, as a step of a walk.
-/
import Derived.Test.YtihldmcakcobaaaAccept
import Derived.ArgAppend
import Derived.Laws.IdiomCopy
namespace Go.Proofs.Ytihldmcakcobaaa
open Go.RowKit Go.Shelf
set_option linter.unusedVariables false

/-- the buffer at block g reads as l, with zeros behind, N bytes in all -/
abbrev Buf (w : World) (g N : Nat) (l : List Nat) : Prop := Row w g N (fun t => l.getD t 0)
theorem Buf.of_block {w w' : World} {g N : Nat} {l : List Nat} (h : Buf w g N l) (hb : w'.heap[g]? = w.heap[g]?) : Buf w' g N l := by
  have hg : g < w'.heap.size := by
    have h1 := h.1
    rw [Array.getElem?_eq_getElem h1] at hb
    exact (Array.getElem?_eq_some_iff.1 hb).1
  exact ⟨hg, fun t ht => by
    have h1 := h.2 t ht
    exact ⟨(World.cell?_of_block (a := ⟨g, t, none⟩) hb).trans h1.1, (World.frozen?_of_block (a := ⟨g, t, none⟩) hb).trans h1.2⟩⟩
theorem Buf.bytes {w : World} {g N : Nat} {l : List Nat} (h : Buf w g N l) (hl : l.length ≤ N) (hlt : ∀ c ∈ l, c < 256) : Bytes w (some ⟨g, 0, none⟩) l :=
  ⟨hlt, .inr ⟨g, 0, rfl, h.1, fun i hi => by rw [Nat.zero_add]; exact (h.2 i (by omega)).1⟩⟩

theorem getD_app (l r : List Nat) (t : Nat) : (l ++ r).getD t 0 = if t < l.length then l.getD t 0 else r.getD (t - l.length) 0 := by
  simp only [List.getD_eq_getElem?_getD, List.getElem?_append]
  split <;> rfl
theorem getD_out {l : List Nat} {t : Nat} (h : l.length ≤ t) : l.getD t 0 = 0 := by
  rw [List.getD_eq_getElem?_getD, List.getElem?_eq_none h]; rfl
theorem grownBy_setCells (g : Nat) : ∀ (vs : List Value) (o : Nat) (w : World), w.grownBy (w.setCells g o vs) (some g)
  | [], o, w => ⟨rfl, rfl, rfl, Nat.le_refl _, fun _ _ _ => rfl⟩
  | v :: r, o, w => by
    have ih := grownBy_setCells g r (o + 1) (w.setCell ⟨g, o, none⟩ v)
    have hs : (w.setCell ⟨g, o, none⟩ v).heap.size = w.heap.size := by show (w.heap.modify _ _).size = _; rw [Array.size_modify]
    exact ⟨ih.os, ih.tape, ih.output, by have := ih.size; rw [hs] at this; exact this, fun k hk hne => (ih.block k (by rw [hs]; exact hk) hne).trans (heap_setCell_other w _ k v (fun e => hne (by rw [e])))⟩

theorem app_run (w : World) (ty : TypeId) (g N : Nat) (l r : List Nat) (A : Option Addr) (k m c : Nat) (hR : Buf w g N l) (hB : Bytes w A r) (hk : l.length = k) (hm : r.length = m) (h0 : 0 < m) (hroom : k + m ≤ N) :
    ∃ w', (Builtin.append_ #[28, 28] ty #[.slice (some ⟨g, 0, none⟩) k N, .slice A m c]).run Try.prog w = .ok (.slice (some ⟨g, 0, none⟩) (k + m) N) w' ∧ Buf w' g N (l ++ r) ∧ w.grownBy w' (some g) := by
  obtain ⟨i, hi, hz, hs, hb⟩ := info_parts info_u8
  obtain ⟨b, off, rfl, hlt, hc⟩ := hB.at (k := 0) (by omega)
  have hlen : (r.map fun u : Nat => Value.int .u8 (u : Int)).length = m := by simp [hm]
  have hcell : ∀ j, j < (r.map fun u : Nat => Value.int .u8 (u : Int)).length → (w.cell? ⟨g, k + j, none⟩).isSome = true := fun j hj => by rw [(hR.2 (k + j) (by omega)).1]; rfl
  have hrun := run_append_room_cells (P := Try.prog) w 28 ty 5 i Try.underlying28 hi g 0 k N ⟨b, off, none⟩ m c (r.map fun u : Nat => Value.int .u8 (u : Int))
    (by rw [hs, hlen, Nat.mul_one]) (fun j u hu => by
      rw [List.getElem?_map] at hu
      obtain ⟨e, he, rfl⟩ := Option.map_eq_some_iff.1 hu
      have hj : j < r.length := by
        rcases Nat.lt_or_ge j r.length with h1 | h1
        · exact h1
        · rw [List.getElem?_eq_none h1] at he; cases he
      have h2 := hc j hj
      rw [List.getD_eq_getElem?_getD, he] at h2
      rw [show (⟨b, off, none⟩ : Addr).add j = ⟨b, off + j, none⟩ by unfold Addr.add; split <;> simp_all]
      exact h2) (fun u hu => by obtain ⟨e, _, rfl⟩ := List.mem_map.1 hu; rfl) hroom
    (fun j hj => by rw [hs, Nat.mul_one, Nat.zero_add]; exact hcell j hj) (fun j hj => by rw [hs, Nat.mul_one, Nat.zero_add]; exact (hR.2 (k + j) (by omega)).2)
  rw [hs, Nat.mul_one, Nat.zero_add] at hrun
  refine ⟨_, hrun, ⟨?_, fun t ht => ⟨?_, ?_⟩⟩, grownBy_setCells g _ _ w⟩
  · have := (grownBy_setCells g (r.map fun u : Nat => Value.int .u8 (u : Int)) k w).size; have := hR.1; omega
  · show _ = some (Value.int .u8 (((l ++ r).getD t 0 : Nat) : Int))
    by_cases h1 : k ≤ t ∧ t < k + m
    · have h2 := World.cell?_setCells_in g _ k w hcell (t - k) (by omega)
      rw [show k + (t - k) = t by omega] at h2
      rw [h2]
      simp only [List.getElem_map]
      rw [getD_app, if_neg (by omega), hk, List.getD_eq_getElem?_getD, List.getElem?_eq_getElem (by omega)]
      rfl
    · rw [World.cell?_setCells_out g _ k w ⟨g, t, none⟩ (fun _ _ => by rw [hlen]; show t < k ∨ k + m ≤ t; omega), (hR.2 t ht).1]
      rw [getD_app]
      dsimp only
      by_cases h3 : t < k
      · rw [if_pos (by omega)]
      · rw [if_neg (by omega), getD_out (l := l) (by omega), getD_out (l := r) (by omega)]
  · rw [World.frozen?_setCells]; exact (hR.2 t ht).2

/-- appending onto the buffer, in a walk -/
theorem wpList_app {ops : Array Oper} {rest : List Oper} {o : Oper} {a : Act} {Q : Exit → Act → World → Prop} (w : World) (hgd : o.guard = none) (s x : Operand)
    (ho : o.op = .call { callee := .builtin .append, args := #[s, x], argTypes := #[28, 28] })
    (g N : Nat) (l r : List Nat) (A : Option Addr) (k m c : Nat) (hs : a.eval s = .slice (some ⟨g, 0, none⟩) k N) (hx : a.eval x = .slice A m c) (hR : Buf w g N l) (hB : Bytes w A r) (hk : l.length = k) (hm : r.length = m) (h0 : 0 < m) (hroom : k + m ≤ N)
    (h : ∀ w', Buf w' g N (l ++ r) → w.grownBy w' (some g) → wpList Try.prog ops Q rest (a.put o.dst (.slice (some ⟨g, 0, none⟩) (k + m) N)) w') : wpList Try.prog ops Q (o :: rest) a w := by
  obtain ⟨w', hrun, hR', hg⟩ := app_run w o.type g N l r A k m c hR hB hk hm h0 hroom
  refine wpList_plain hgd fun K hK => ?_
  unfold Oper.wp
  simp [execOp, ho, resolve, invoke, builtin, hs, hx, hrun, Result.andThen]
  exact hK _ _ (h w' hR' hg)
/-- .. in a region that draws -/
theorem step_app {ops : Array Oper} {o : Oper} {a : Act} {w : World} {K : Act → World → Prop} {Q : Exit → Act → World → Prop} {E : Prop} (hgd : o.guard = none) (s x : Operand)
    (ho : o.op = .call { callee := .builtin .append, args := #[s, x], argTypes := #[28, 28] })
    (g N : Nat) (l r : List Nat) (A : Option Addr) (k m c : Nat) (hs : a.eval s = .slice (some ⟨g, 0, none⟩) k N) (hx : a.eval x = .slice A m c) (hR : Buf w g N l) (hB : Bytes w A r) (hk : l.length = k) (hm : r.length = m) (h0 : 0 < m) (hroom : k + m ≤ N)
    (h : ∀ w', Buf w' g N (l ++ r) → w.grownBy w' (some g) → K (a.put o.dst (.slice (some ⟨g, 0, none⟩) (k + m) N)) w') : if Region.wanted o (yielded ops a.tmps) = true then Oper.wp Try.prog o a w K Q else E := by
  have hw : Region.wanted o (yielded ops a.tmps) = true := by simp [Region.wanted, hgd]
  rw [if_pos hw]
  obtain ⟨w', hrun, hR', hg⟩ := app_run w o.type g N l r A k m c hR hB hk hm h0 hroom
  unfold Oper.wp
  simp [execOp, ho, resolve, invoke, builtin, hs, hx, hrun, Result.andThen]
  exact h w' hR' hg
/-- .. in a round of a range over a function -/
theorem wpListIn_app {F : Fence} {n : Nat} {ops : Array Oper} {rest : List Oper} {o : Oper} {a : Act} {Q : Exit → Act → World → Prop} (w : World) (hgd : o.guard = none) (s x : Operand)
    (ho : o.op = .call { callee := .builtin .append, args := #[s, x], argTypes := #[28, 28] })
    (g N : Nat) (l r : List Nat) (A : Option Addr) (k m c : Nat) (hs : a.eval s = .slice (some ⟨g, 0, none⟩) k N) (hx : a.eval x = .slice A m c) (hR : Buf w g N l) (hB : Bytes w A r) (hk : l.length = k) (hm : r.length = m) (h0 : 0 < m) (hroom : k + m ≤ N)
    (h : ∀ w', Buf w' g N (l ++ r) → w.grownBy w' (some g) → wpListIn F n Try.prog ops Q rest (a.put o.dst (.slice (some ⟨g, 0, none⟩) (k + m) N)) w') : wpListIn F n Try.prog ops Q (o :: rest) a w := by
  obtain ⟨w', hrun, hR', hg⟩ := app_run w o.type g N l r A k m c hR hB hk hm h0 hroom
  refine wpListIn_plain hgd fun K hK => ?_
  unfold Oper.wpIn
  refine ⟨?_, ?_⟩
  · simp [Oper.about, ho, resolve, Target.leads, Sem.run_pure]
  · rw [Oper.semAt_plain F _ _ (by rw [ho]; intro c hc'; cases hc')]
    simp [execOp, ho, resolve, invoke, builtin, hs, hx, hrun, Result.andThen]
    exact hK _ _ (h w' hR' hg)
/-- make([]byte, 0, n) -/
theorem make_room (n : Nat) (hn : n ≤ 1000000) (W : World) :
    (Instr.makeSlice 28 (.int .i64 0) (.int .i64 (n : Int))).run Try.prog W = .ok (.slice (some ⟨W.heap.size, 0, none⟩) 0 n) (W.alloc (.cells (zrow n) 5)) := by
  obtain ⟨i, hi, hz, hs, hb⟩ := info_parts info_u8
  have hr := run_make (P := Try.prog) W 28 5 i _ Try.underlying28 hi hz .i64 .i64 0 n (by omega) (by omega) (by rw [hb]; omega) (by omega)
  simp only [Int.toNat_natCast, hs, Nat.mul_one] at hr
  exact hr
theorem Buf.made (W : World) (n : Nat) : Buf (W.alloc (.cells (zrow n) 5)) W.heap.size n [] := Row.made W n _
end Go.Proofs.Ytihldmcakcobaaa
