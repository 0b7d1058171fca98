/-
  A text's tokens: the list that a range over them makes.
-/
import Derived.Test.YtohmenghlboalaaDoorLxE
import Derived.RangeFuncNested
namespace Go.Proofs.YtohmenghlboalaaDoor
open Go.RowKit Go.Shelf
attribute [local go_sem] Oper.semAt_some
set_option linter.unusedVariables false
set_option linter.unusedSimpArgs false
set_option maxRecDepth 100000

theorem setCell_self {w : World} {b k : Nat} {v : Value} (h : w.cell? ⟨b, k, none⟩ = some v) : w.setCell ⟨b, k, none⟩ v = w := by
  unfold World.cell? at h
  have e : (w.setCell ⟨b, k, none⟩ v).heap = w.heap := by
    unfold World.setCell
    simp only
    apply Array.ext_getElem?
    intro i
    rw [Array.getElem?_modify]
    by_cases hi : b = i
    · subst hi
      rw [if_pos rfl]
      dsimp only at h
      split at h
      · rename_i hc
        rw [hc]
        simp only [Option.map_some, Option.isSome_none, Bool.false_eq_true, if_false] at h ⊢
        congr 2
        apply Array.ext_getElem?
        intro j
        rw [Array.getElem?_setIfInBounds]
        by_cases hj : k = j
        · subst hj
          rw [if_pos rfl, h]
          have := (Array.getElem?_eq_some_iff.1 h).1
          rw [if_pos this]
        · rw [if_neg hj]
      · cases h
    · rw [if_neg hi]
  show { w with heap := (w.setCell ⟨b, k, none⟩ v).heap } = w
  rw [e]

theorem tok_stops (d b0 bS : Nat) (s : ByteArray) (hz : s.size ≤ 140737488355328) (w : World) (hb0 : 3 < b0 ∧ b0 + 4 ≤ w.heap.size ∧ b0 + 4 ≤ bS) (hlb : lbF b0 w = none) (hS : w.heap[bS]? = some (.cells #[.string s] 9 (0, 0))) (hE : Env w) :
    SeqStopsK Fence.wide d Tryd.prog 28 #[.pointer (some ⟨bS, 0, none⟩)] ptEnc (Kpt b0) (fun ys => pv ys = Yl s) (fun pre => ∃ k, k ≤ (Yl s).length ∧ pv pre = (Yl s).take k) (Yl s).length w := fun l J Jx W hW hJ hJx hY h0 =>
  tokens_in d l b0 bS s hz J Jx W hJ hJx hY ⟨hb0.1, Nat.le_trans hb0.2.1 hW.size, hb0.2.2⟩ (by rw [lbF_same (hW.block _ (by omega)), hlb]) ((hW.block _ (Array.getElem?_eq_some_iff.1 hS).1).trans hS) (hE.below hW (Nat.le_refl _)) h0

/-- tokens as the memory holds them -/
def tkC (t : Tk) : List Value := [.int .i64 (t.k : Nat), .string (str t.t), .int .i64 t.n, .int .i64 (t.ln : Nat), .int .i64 (t.cl : Nat)]
def flatT (l : List Tk) : List Value := l.flatMap tkC
theorem flatT_snoc (l : List Tk) (t : Tk) : flatT (l ++ [t]) = flatT l ++ tkC t := by simp [flatT]
abbrev OwnT (W : World) (B : Nat) (v : Value) (l : List Tk) : Prop := W.ownsRow B 24 5 v l.length (flatT l)
theorem info_toks : (Tryd.prog.info? 24).map (fun i => (i.zero, i.size, i.bytes)) = some (some (.agg #[.int .i64 0, .string ⟨#[]⟩, .int .i64 0, .int .i64 0, .int .i64 0]), 5, 48) := by kernel_rfl
theorem under_toks : Tryd.prog.underlying 22 = some (.slice 24) := Tryd.underlying22

/-- what the range has made up to now: the list, in its box; the other results are not set -/
structure Tb (w : World) (pre : List PT) (W : World) : Prop where
  bel : Below w.heap.size w W
  sz : w.heap.size + 5 ≤ W.heap.size
  ls : ∃ v, W.heap[w.heap.size]? = some (.cells #[v] 22 (0, 0)) ∧ OwnT W (w.heap.size + 5) v (pv pre)
  c1 : W.heap[w.heap.size + 1]? = some (.cells #[.int .i64 0] 3 (0, 0))
  c2 : W.heap[w.heap.size + 1 + 1]? = some (.cells #[.int .i64 0] 3 (0, 0))
  c3 : W.heap[w.heap.size + 1 + 1 + 1]? = some (.cells #[.int .i64 0] 25 (0, 0))
  ok : ∀ x ∈ pre, x.1.k ≠ 0
/-- how it is left: at what is no token -/
structure Tx (w : World) (c : Code) (pre : List PT) (W : World) : Prop where
  c : c = .ret
  bel : Below w.heap.size w W
  out : ∃ p x, pre = p ++ [x] ∧ (∀ y ∈ p, y.1.k ≠ 0) ∧ x.1.k = 0 ∧ W.heap[w.heap.size]? = some (.cells #[.slice none 0 0] 22 (0, 0)) ∧ W.heap[w.heap.size + 1]? = some (.cells #[.int .i64 (x.1.ln : Nat)] 3 (0, 0)) ∧
    W.heap[w.heap.size + 1 + 1]? = some (.cells #[.int .i64 (x.1.cl : Nat)] 3 (0, 0)) ∧ W.heap[w.heap.size + 1 + 1 + 1]? = some (.cells #[.int .i64 140] 25 (0, 0))
theorem Tb.from {w A B : World} {pre : List PT} {C : Nat} {row : Option Nat} (hs : Tb w pre A) (hg : A.grownBy B row) (hr : ∀ r, row = some r → C ≤ r ∧ ∃ o : Obj, A.heap[r]? = some o ∧ o.isCells = false) (hC : w.heap.size + 5 ≤ C) : Tb w pre B := by
  obtain ⟨v, h1, h2⟩ := hs.ls
  have hs5 := hs.sz
  exact ⟨hs.bel.grown hg (by omega) (fun k e => by have := (hr k e).1; omega), Nat.le_trans hs5 hg.size, ⟨v, row_kept h1 hg hr, own_kept h2 hg fun r e => ⟨Nat.le_trans hC (hr r e).1, (hr r e).2⟩⟩, row_kept hs.c1 hg hr, row_kept hs.c2 hg hr, row_kept hs.c3 hg hr, hs.ok⟩
theorem Tx.from {w A B : World} {c : Code} {pre : List PT} {C : Nat} {row : Option Nat} (hs : Tx w c pre A) (hg : A.grownBy B row) (hr : ∀ r, row = some r → C ≤ r ∧ ∃ o : Obj, A.heap[r]? = some o ∧ o.isCells = false) (hC : w.heap.size + 5 ≤ C) (hw : w.heap.size ≤ A.heap.size) : Tx w c pre B := by
  obtain ⟨p, x, h1, h2, h3, h4, h5, h6, h7⟩ := hs.out
  exact ⟨hs.c, hs.bel.grown hg hw (fun k e => by have := (hr k e).1; omega), p, x, h1, h2, h3, row_kept h4 hg hr, row_kept h5 hg hr, row_kept h6 hg hr, row_kept h7 hg hr⟩
theorem own_lb {w W : World} {v : Value} {l : List Tk} {b0 : Nat} {t : TypeId} (h1 : W.heap[b0]? = some (.cells #[v] t (0, 0))) (h2 : OwnT W (w.heap.size + 5) v l) : lbF b0 W = v.ownBlock := by
  unfold lbF
  rw [cell_of_row _ _ _ _ _ _ h1]
  rcases h2.2 with ⟨rfl, _⟩ | ⟨g, cap, cur, rfl, _⟩ <;> rfl
theorem Tb.lb {w W : World} {pre : List PT} (h : Tb w pre W) {a : Nat} (ha : lbF w.heap.size W = some a) : w.heap.size + 5 ≤ a ∧ a < W.heap.size := by
  obtain ⟨v, h1, h2⟩ := h.ls
  rw [own_lb h1 h2] at ha
  have := own_block h2 ha
  exact ⟨this.2.1, this.1⟩
theorem Kpt.new {b0 : Nat} {W W' : World} (h : Below W.heap.size W W') (hb : b0 < W.heap.size) : Kpt b0 W W' := by
  refine ⟨h.size, fun a ha => .inl ?_, fun k cs t fr hk _ _ => (h.block k (Array.getElem?_eq_some_iff.1 hk).1).trans hk⟩
  rw [lbF_same (h.block _ hb)] at ha; exact ha
theorem Tb.new {w W W1 : World} {pre : List PT} (h : Tb w pre W) (hb : Below W.heap.size W W1) : Tb w pre W1 := by
  obtain ⟨v, h1, h2⟩ := h.ls
  have h5 := h.sz
  refine ⟨h.bel.trans (hb.mono (by omega)), Nat.le_trans h5 hb.size, ⟨v, (hb.block _ (by omega)).trans h1, own_below h2 hb (Nat.le_refl _)⟩, (hb.block _ (by omega)).trans h.c1, (hb.block _ (by omega)).trans h.c2, (hb.block _ (by omega)).trans h.c3, h.ok⟩
theorem ko_below {W W1 : World} (hb : Below W.heap.size W W1) : KeepsOthers W W1 :=
  KeepsOthers.of_grownBy (row := none) ⟨hb.os, hb.tape, hb.output, hb.size, fun k hk _ => hb.block k hk⟩ (fun j o e => by cases e)
theorem tb_app {w W w4 : World} {pre : List PT} {x : PT} {v v4 : Value} {o : Obj} {N : Nat} (h : Tb w pre W) (h1 : W.heap[w.heap.size]? = some (.cells #[v] 22 (0, 0))) (h2 : OwnT W (w.heap.size + 5) v (pv pre)) (hN : (pv pre).length = N)
    (hg : (W.alloc o).grownBy w4 v.ownBlock) (h4 : w4.ownsRow (w.heap.size + 5) 24 5 v4 (N + 1) (flatT (pv pre) ++ tkC x.1)) (hwh : v4.ownBlock = v.ownBlock ∨ v4.ownBlock = some (W.alloc o).heap.size) (hx : x.1.k ≠ 0) :
    (∀ k, k < w.heap.size + 5 → w4.heap[k]? = W.heap[k]?) ∧ KeepsOthers W (w4.setCell ⟨w.heap.size, 0, none⟩ v4) ∧ Kpt w.heap.size W (w4.setCell ⟨w.heap.size, 0, none⟩ v4) ∧ Tb w (pre ++ [x]) (w4.setCell ⟨w.heap.size, 0, none⟩ v4) := by
  have hz := h.sz
  have hk : ∀ k, k < w.heap.size + 5 → w4.heap[k]? = W.heap[k]? := fun k hk => by
    refine (hg.block k (by simp; omega) fun e => ?_).trans (heap_alloc_old W o (by omega))
    have := (own_block h2 e.symm).2.1
    omega
  have hb : Below w.heap.size w w4 := (h.bel.alloc h.bel.size o).grown hg (by simp; omega) fun k e => by have := (own_block h2 e).2.1; omega
  have hrow : (w4.setCell ⟨w.heap.size, 0, none⟩ v4).heap[w.heap.size]? = some (.cells #[v4] 22 (0, 0)) := by rw [set_cells ((hk _ (by omega)).trans h1)]; rfl
  have h4' : OwnT (w4.setCell ⟨w.heap.size, 0, none⟩ v4) (w.heap.size + 5) v4 (pv (pre ++ [x])) := by
    have := own_stands h4 (W' := w4.setCell ⟨w.heap.size, 0, none⟩ v4) fun k hk => setCell_other (by have := (own_block h4 hk).2.1; omega)
    unfold OwnT
    rw [pv_snoc, flatT_snoc, List.length_append, hN]
    exact this
  have hsz : W.heap.size + 1 ≤ w4.heap.size := by have := hg.size; simpa using this
  refine ⟨hk, ((KeepsOthers.alloc W o).trans (keeps_own (own_below h2 (bal W o) (Nat.le_refl _)) hg)).trans (KeepsOthers.setCell _ _ _), ⟨by simp; omega, fun a ha => ?_, fun k cs t fr hc hn hl => ?_⟩,
    hb.setCell (p := ⟨w.heap.size, 0, none⟩) (Nat.le_refl _) _, by simp; omega, ⟨v4, hrow, h4'⟩, ?_, ?_, ?_, ?_⟩
  · rw [own_lb hrow h4'] at ha
    rcases hwh with e | e
    · rw [own_lb h1 h2]; exact .inl (e ▸ ha)
    · rw [e] at ha
      have h5 := (own_block h4 e).1
      obtain rfl := Option.some.inj ha
      exact .inr ⟨by simp, by simpa using h5⟩
  · have hkl := (Array.getElem?_eq_some_iff.1 hc).1
    rw [own_lb h1 h2] at hl
    rw [setCell_other (by omega)]
    exact ((hg.block k (by simp; omega) fun e => hl e.symm).trans (heap_alloc_old W o hkl)).trans hc
  · rw [setCell_other (by omega), hk _ (by omega)]; exact h.c1
  · rw [setCell_other (by omega), hk _ (by omega)]; exact h.c2
  · rw [setCell_other (by omega), hk _ (by omega)]; exact h.c3
  · intro y hy
    rcases List.mem_append.1 hy with h6 | h6
    · exact h.ok y h6
    · obtain rfl := List.mem_singleton.1 h6; exact hx
theorem clone_at (s : ByteArray) (w : World) (hz : s.size ≤ 281474976710656) :
    Calls Tryd.prog 21 #[.string s] w fun e w' => e = .returned (.string s) ∧ Below w.heap.size w w' := by
  have HC := hide (Tryd.stringslite_Clone s w hz)
  go_enter Tryd.func21, Tryd.ntmps21
  go_wp2_with (go_at_call 30; refine HC.out.mono ?_; rintro e w' ⟨rfl, hb⟩)
  go_ret
  exact ⟨rfl, hb⟩
theorem st_hit {W : World} {g : Nat} {v v0 : Value} {t : TypeId} (h : W.heap[g]? = some (.cells #[v0] t (0, 0))) : (W.setCell ⟨g, 0, none⟩ v).heap[g]? = some (.cells #[v] t (0, 0)) := by rw [set_cells h]; rfl
theorem st_miss {W : World} {g k j : Nat} {v : Value} {o : Option Obj} (hne : k ≠ g) (h : W.heap[k]? = o) : (W.setCell ⟨g, j, none⟩ v).heap[k]? = o := (setCell_other hne).trans h
theorem dr_heap {W : World} {k : Nat} {o : Option Obj} (h : W.heap[k]? = o) : W.drew.heap[k]? = o := h
theorem ko_step {A B : World} {a : Addr} {v : Value} (h : KeepsOthers A B) : KeepsOthers A (B.setCell a v) := h.trans (KeepsOthers.setCell _ _ _)
theorem ko_drew {A B : World} (h : KeepsOthers A B) : KeepsOthers A B.drew := h.trans (KeepsOthers.drew _)
theorem be_step {B g j : Nat} {A W : World} {v : Value} (hg : B ≤ g) (h : Below B A W) : Below B A (W.setCell ⟨g, j, none⟩ v) := h.setCell (p := ⟨g, j, none⟩) hg v
/-- the loop's own variable, in a box that is no list -/
def Ax (w : World) (tm : Value → Value → Array Value) (x : PT) (a : Act) (W : World) : Prop :=
  ∃ Bx, w.heap.size + 5 ≤ Bx ∧ lbF w.heap.size W ≠ some Bx ∧ W.heap[Bx]? = some (.cells (tkC x.1).toArray 24 (0, 0)) ∧ a = { tmps := tm (.pointer (some ⟨Bx, 0, none⟩)) (.agg (tkC x.1).toArray), defers := [] }

/-- what Tokens answers: the tokens; or where none begins -/
def outF (R : List Tk × Option (Nat × Nat)) : List Tk × Nat × Nat × Nat := match R.2 with
  | none => (R.1, 0, 0, 0)
  | some p => ([], p.1, p.2, 140)
def TokR (w w' : World) (R : List Tk × Option (Nat × Nat)) (e : Ending) : Prop :=
  ∃ v, e = .returned (.tuple #[v, .int .i64 ((outF R).2.1 : Nat), .int .i64 ((outF R).2.2.1 : Nat), .int .i64 ((outF R).2.2.2 : Nat)]) ∧ OwnT w' w.heap.size v (outF R).1 ∧ Below w.heap.size w w'
theorem own_base {W : World} {B C : Nat} {v : Value} {l : List Tk} (h : OwnT W B v l) (hC : C ≤ B) : OwnT W C v l := by
  refine ⟨h.1, ?_⟩
  rcases h.2 with h1 | ⟨g, cap, cur, h1, h2, h3⟩
  · exact .inl h1
  · exact .inr ⟨g, cap, cur, h1, Nat.le_trans hC h2, h3⟩
theorem ok_kind {t : Tk} (h : okT t) : t.k ≠ 0 := by
  obtain ⟨c, r, h1, h2⟩ := h
  have := fst_kind h2
  dsimp only at this
  omega
/-- all that was told is tokens: so there was no fault -/
theorem yl_done {s : ByteArray} {xs : List PT} (h : pv xs = Yl s) (hk : ∀ x ∈ xs, x.1.k ≠ 0) : outF (lexL (byt s) 1 1 false) = (pv xs, 0, 0, 0) := by
  unfold Yl ysF at h
  unfold outF
  cases hR : (lexL (byt s) 1 1 false).2 with
  | none => rw [hR, List.append_nil] at h; rw [h]
  | some p =>
    rw [hR] at h
    have : (⟨0, [], 0, p.1, p.2⟩ : Tk) ∈ pv xs := by rw [h]; simp
    obtain ⟨x, hx, he⟩ := List.mem_map.1 this
    exact absurd (by rw [he]) (hk x hx)
/-- what was told last is no token: so that is the fault -/
theorem yl_stop {s : ByteArray} {p : List PT} {x : PT} {n : Nat} (h : pv (p ++ [x]) = (Yl s).take n) (hk : x.1.k = 0) : outF (lexL (byt s) 1 1 false) = ([], x.1.ln, x.1.cl, 140) := by
  have hm : x.1 ∈ Yl s := List.mem_of_mem_take (show x.1 ∈ (Yl s).take n by rw [← h, pv_snoc]; simp)
  unfold Yl ysF at hm
  unfold outF
  rcases List.mem_append.1 hm with h1 | h1
  · exact absurd hk (ok_kind (lex_ok _ _ _ _ _ (Nat.le_refl _) _ h1).1)
  · cases hR : (lexL (byt s) 1 1 false).2 with
    | none => rw [hR] at h1; cases h1
    | some q =>
      rw [hR] at h1
      have := List.mem_singleton.1 h1
      rw [this]

set_option maxHeartbeats 4000000 in
theorem toks_at (s : ByteArray) (hz : s.size ≤ 140737488355328) (hn : (Yl s).length ≤ 90000) (w : World) (hE : Env w) :
    Calls Tryd.prog 11 #[.string s] w fun e w' => TokR w w' (lexL (byt s) 1 1 false) e := by
  refine calls_of_wp_marks Tryd.func11 rfl ?_
  simp only [Tryd.ntmps11, List.size_toArray, List.length_cons, List.length_nil, Nat.reduceAdd, Nat.reduceSub, Array.replicate_succ, Array.replicate_zero, List.push_toArray, List.append_toArray, List.nil_append, List.cons_append]
  have HT0 := hide (show Tb w [] (((((w.alloc (.cells #[.slice none 0 0] 22)).alloc (.cells #[.int .i64 0] 3)).alloc (.cells #[.int .i64 0] 3)).alloc (.cells #[.int .i64 0] 25)).alloc (.cells #[.string s] 9)) from
    ⟨((((bal w _).alloc (by simp) _).alloc (by simp; omega) _).alloc (by simp; omega) _).alloc (by simp; omega) _, by simp,
     ⟨_, ((heap_alloc_old _ _ (by simp only [World.size_alloc]; omega)).trans ((heap_alloc_old _ _ (by simp only [World.size_alloc]; omega)).trans ((heap_alloc_old _ _ (by simp only [World.size_alloc]; omega)).trans ((heap_alloc_old _ _ (by simp only [World.size_alloc]; omega)).trans (heap_alloc_new w _))))), World.ownsRow_nil _ _ _ _⟩,
     ((heap_alloc_old _ _ (by simp only [World.size_alloc]; omega)).trans ((heap_alloc_old _ _ (by simp only [World.size_alloc]; omega)).trans ((heap_alloc_old _ _ (by simp only [World.size_alloc]; omega)).trans (by have := heap_alloc_new (w.alloc (.cells #[.slice none 0 0] 22)) (.cells #[.int .i64 0] 3); simpa only [World.size_alloc] using this)))),
     ((heap_alloc_old _ _ (by simp only [World.size_alloc]; omega)).trans ((heap_alloc_old _ _ (by simp only [World.size_alloc]; omega)).trans (by have := heap_alloc_new ((w.alloc (.cells #[.slice none 0 0] 22)).alloc (.cells #[.int .i64 0] 3)) (.cells #[.int .i64 0] 3); simpa only [World.size_alloc] using this))),
     ((heap_alloc_old _ _ (by simp only [World.size_alloc]; omega)).trans (by have := heap_alloc_new (((w.alloc (.cells #[.slice none 0 0] 22)).alloc (.cells #[.int .i64 0] 3)).alloc (.cells #[.int .i64 0] 3)) (.cells #[.int .i64 0] 25); simpa only [World.size_alloc] using this)),
     fun x h => by cases h⟩)
  have HS0 := hide (show (((((w.alloc (.cells #[.slice none 0 0] 22)).alloc (.cells #[.int .i64 0] 3)).alloc (.cells #[.int .i64 0] 3)).alloc (.cells #[.int .i64 0] 25)).alloc (.cells #[.string s] 9)).heap[w.heap.size + 1 + 1 + 1 + 1]? = some (.cells #[.string s] 9 (0, 0)) from by
    have := heap_alloc_new ((((w.alloc (.cells #[.slice none 0 0] 22)).alloc (.cells #[.int .i64 0] 3)).alloc (.cells #[.int .i64 0] 3)).alloc (.cells #[.int .i64 0] 25)) (.cells #[.string s] 9)
    simpa only [World.size_alloc] using this)
  have HL0 := hide (show (((((w.alloc (.cells #[.slice none 0 0] 22)).alloc (.cells #[.int .i64 0] 3)).alloc (.cells #[.int .i64 0] 3)).alloc (.cells #[.int .i64 0] 25)).alloc (.cells #[.string s] 9)).heap[w.heap.size]? = some (.cells #[.slice none 0 0] 22 (0, 0)) from
    ((heap_alloc_old _ _ (by simp only [World.size_alloc]; omega)).trans ((heap_alloc_old _ _ (by simp only [World.size_alloc]; omega)).trans ((heap_alloc_old _ _ (by simp only [World.size_alloc]; omega)).trans ((heap_alloc_old _ _ (by simp only [World.size_alloc]; omega)).trans (heap_alloc_new w _))))))
  have hsz : (((((w.alloc (.cells #[.slice none 0 0] 22)).alloc (.cells #[.int .i64 0] 3)).alloc (.cells #[.int .i64 0] 3)).alloc (.cells #[.int .i64 0] 25)).alloc (.cells #[.string s] 9)).heap.size = w.heap.size + 5 := by simp
  have HE := hide (hE.below HT0.out.bel (Nat.le_refl _))
  have hw3 := hE.lt
  go_wp2_with (go_at_call 20; refine (tokens_at _ _).mono ?_; rintro e w' ⟨rfl, rfl⟩)
  generalize ((((w.alloc (.cells #[.slice none 0 0] 22)).alloc (.cells #[.int .i64 0] 3)).alloc (.cells #[.int .i64 0] 3)).alloc (.cells #[.int .i64 0] 25)).alloc (.cells #[.string s] 9) = W0 at *
  have hlb : lbF w.heap.size W0 = none := by unfold lbF; rw [cell_of_row _ _ _ _ _ _ HL0.out]; rfl
  have hs1 : w.heap.size + 4 ≤ W0.heap.size := by omega
  have hs2 : w.heap.size < W0.heap.size := by omega
  have hs5 : w.heap.size + 5 ≤ W0.heap.size := by omega
  have HSz := hide hsz
  clear hsz
  refine (wpIn_wide (n := 2)).1 ?_
  refine wpIn_rangeFunc_ownH rfl (by omega) rfl trivial (enters_of Tryd.func28 (by kernel_rfl) rfl) (tok_stops (2 - 1) w.heap.size (w.heap.size + 1 + 1 + 1 + 1) s hz W0 ⟨hw3, hs1, by omega⟩ hlb HS0.out HE.out)
    (fun h k => h.trans k) (fun W l o o' hl hlo ho _ => Kpt.put (by omega) hlo ho) (Below.refl _ _) (fun _ => rfl) (Tb w) (Tx w) (fun p A B row hs hg hr => hs.from hg hr (by omega)) (fun c p A B row hs hg hr => hs.from hg hr (by omega) hs.bel.size) HT0.out
    (Ax w (fun p v => #[.string s, undef, .pointer (some ⟨w.heap.size, 0, none⟩), .pointer (some ⟨w.heap.size + 1, 0, none⟩), .pointer (some ⟨w.heap.size + 1 + 1, 0, none⟩), .pointer (some ⟨w.heap.size + 1 + 1 + 1, 0, none⟩), p, .string s,
      .func (.func 28) #[] #[.pointer (some ⟨w.heap.size + 1 + 1 + 1 + 1, 0, none⟩)], v, undef, undef, undef, undef, undef, undef, undef, undef, undef, undef, undef, undef, undef, undef, undef, undef])) (fun x a' u A B row hs hg hr => ?ax) ?assign ?body ?done ?stop
  case ax =>
    obtain ⟨Bx, h1, h2, h3, h4⟩ := hs
    refine ⟨Bx, h1, ?_, row_kept h3 hg hr, h4⟩
    by_cases hb : w.heap.size < A.heap.size
    · rw [lbF_same (hg.block _ hb fun e => by have := (hr _ e.symm).1; omega)]; exact h2
    · exact absurd (Array.getElem?_eq_some_iff.1 h3).1 (by omega)
  case assign =>
    intro l pre x W K hT hK
    have HT := hide hT
    have HK := hide hK
    have hWs := hT.sz
    clear hT hK
    obtain ⟨⟨k, t, z, ln, cl⟩, hxl⟩ := x
    simp only [ptEnc]
    gi_wp2
    refine HK.out _ _ ((KeepsOthers.alloc _ _).from _) (Kpt.new (bal W _) (by omega)) (HT.out.from (World.grownBy_alloc W _ none) (C := w.heap.size + 5) (fun r e => by cases e) (Nat.le_refl _)) ⟨W.heap.size, by omega, fun e => ?_, heap_alloc_new W _, rfl⟩
    rw [lbF_same ((bal W _).block _ (by omega))] at e
    have := HT.out.lb e
    omega
  case body =>
    rintro l pre x a' W hl ⟨r, hr⟩ hT ⟨Bx, hB, hne, hrow, rfl⟩ hlen
    obtain ⟨⟨k, t, z, ln, cl⟩, hxl⟩ := x
    dsimp only [tkC] at hrow ⊢
    have k0 : W.cell? ⟨Bx, 0, none⟩ = some (.int .i64 (k : Nat)) := by rw [cell_of_row _ _ _ _ _ _ hrow]; rfl
    have k1 : W.cell? ⟨Bx, 1, none⟩ = some (.string (str t)) := by rw [cell_of_row _ _ _ _ _ _ hrow]; rfl
    have k2 : W.cell? ⟨Bx, 2, none⟩ = some (.int .i64 z) := by rw [cell_of_row _ _ _ _ _ _ hrow]; rfl
    have k3 : W.cell? ⟨Bx, 3, none⟩ = some (.int .i64 (ln : Nat)) := by rw [cell_of_row _ _ _ _ _ _ hrow]; rfl
    have k4 : W.cell? ⟨Bx, 4, none⟩ = some (.int .i64 (cl : Nat)) := by rw [cell_of_row _ _ _ _ _ _ hrow]; rfl
    have kf : ∀ j, W.frozen? ⟨Bx, j, none⟩ = false := fun j => by simp [World.frozen?, hrow]
    have HT := hide hT
    have HR := hide hrow
    have HNe := hide hne
    obtain ⟨v, hv1, hv2⟩ := hT.ls
    have c0 : W.cell? ⟨w.heap.size, 0, none⟩ = some v := by rw [cell_of_row _ _ _ _ _ _ hv1]; rfl
    have c1 : W.cell? ⟨w.heap.size + 1, 0, none⟩ = some (.int .i64 0) := by rw [cell_of_row _ _ _ _ _ _ hT.c1]; rfl
    have c2 : W.cell? ⟨w.heap.size + 1 + 1, 0, none⟩ = some (.int .i64 0) := by rw [cell_of_row _ _ _ _ _ _ hT.c2]; rfl
    have c3 : W.cell? ⟨w.heap.size + 1 + 1 + 1, 0, none⟩ = some (.int .i64 0) := by rw [cell_of_row _ _ _ _ _ _ hT.c3]; rfl
    have f0 : W.frozen? ⟨w.heap.size, 0, none⟩ = false := by simp [World.frozen?, hv1]
    have f1 : W.frozen? ⟨w.heap.size + 1, 0, none⟩ = false := by simp [World.frozen?, hT.c1]
    have f2 : W.frozen? ⟨w.heap.size + 1 + 1, 0, none⟩ = false := by simp [World.frozen?, hT.c2]
    have f3 : W.frozen? ⟨w.heap.size + 1 + 1 + 1, 0, none⟩ = false := by simp [World.frozen?, hT.c3]
    have n0 : Bx ≠ w.heap.size := by omega
    have n1 : Bx ≠ w.heap.size + 1 := by omega
    have n2 : Bx ≠ w.heap.size + 1 + 1 := by omega
    have n3 : Bx ≠ w.heap.size + 1 + 1 + 1 := by omega
    have HV := hide hv2
    obtain ⟨A, cc, rfl⟩ := own_slice hv2
    have HV1 := hide hv1
    clear hT hrow hne hr hl hv1 hv2
    by_cases hk : k = 0
    · have hkk : ((k : Nat) : Int) = 0 := by omega
      rw [hkk] at k0
      have HK := hide hk
      clear hkk hk
      gi_wp2
      gi_region
      all_goals gi_wp2
      all_goals
        refine ⟨KeepsOthers.from ?_ _, rfl, ?_, pre, ⟨⟨k, t, z, ln, cl⟩, hxl⟩, rfl, HT.out.ok, HK.out, ?_, ?_, ?_, ?_⟩
        · repeat (first | with_reducible exact KeepsOthers.refl _ | with_reducible apply ko_drew | with_reducible apply ko_step)
        · repeat (first | with_reducible exact HT.out.bel | with_reducible apply Below.drew | (with_reducible refine be_step ?_ ?_; omega))
        · repeat (first | with_reducible exact HV1.out | with_reducible apply dr_heap | (with_reducible refine st_miss ?_ ?_; omega) | with_reducible apply st_hit)
        · repeat (first | with_reducible exact HT.out.c1 | with_reducible apply dr_heap | (with_reducible refine st_miss ?_ ?_; omega) | with_reducible apply st_hit)
        · repeat (first | with_reducible exact HT.out.c2 | with_reducible apply dr_heap | (with_reducible refine st_miss ?_ ?_; omega) | with_reducible apply st_hit)
        · repeat (first | with_reducible exact HT.out.c3 | with_reducible apply dr_heap | (with_reducible refine st_miss ?_ ?_; omega) | with_reducible apply st_hit)
    · have hkk : (((k : Nat) : Int) == 0) = false := beq_eq_false_iff_ne.2 (by omega)
      have HK := hide hk
      have HCl := hide (clone_at (str t) W (by rw [str_size]; have := hxl; dsimp only at this; omega))
      clear hk
      have HNl := hide (show (pv pre).length ≤ 100000 from by rw [pv_len]; omega)
      clear c0 c1 c2 c3 f0 f1 f2 f3 kf
      gi_wp2
      refine ⟨trivial, rfl, (CallsIn.inRound l (callsIn_wide.2 HCl.out)).mono ?_⟩
      rintro e W1 ⟨rfl, hb1⟩
      have hWs := HT.out.sz
      have hBW : Bx < W.heap.size := (Array.getElem?_eq_some_iff.1 HR.out).1
      have HT1 := hide (HT.out.new hb1)
      have hrow1 := (hb1.block _ hBW).trans HR.out
      have HV1 := hide ((hb1.block _ (show w.heap.size < W.heap.size by omega)).trans HV1.out)
      have HV := hide (own_below HV.out hb1 (Nat.le_refl _))
      have HKp := hide (Kpt.new hb1 (show w.heap.size < W.heap.size by omega))
      have HKo := hide (ko_below hb1)
      have k0 : W1.cell? ⟨Bx, 0, none⟩ = some (.int .i64 (k : Nat)) := by rw [cell_of_row _ _ _ _ _ _ hrow1]; rfl
      have k1 : W1.cell? ⟨Bx, 1, none⟩ = some (.string (str t)) := by rw [cell_of_row _ _ _ _ _ _ hrow1]; rfl
      have k2 : W1.cell? ⟨Bx, 2, none⟩ = some (.int .i64 z) := by rw [cell_of_row _ _ _ _ _ _ hrow1]; rfl
      have k3 : W1.cell? ⟨Bx, 3, none⟩ = some (.int .i64 (ln : Nat)) := by rw [cell_of_row _ _ _ _ _ _ hrow1]; rfl
      have k4 : W1.cell? ⟨Bx, 4, none⟩ = some (.int .i64 (cl : Nat)) := by rw [cell_of_row _ _ _ _ _ _ hrow1]; rfl
      have kf : ∀ j, W1.frozen? ⟨Bx, j, none⟩ = false := fun j => by simp [World.frozen?, hrow1]
      have hself : W1.setCell ⟨Bx, 1, none⟩ (.string (str t)) = W1 := setCell_self k1
      have c0 : W1.cell? ⟨w.heap.size, 0, none⟩ = some (.slice A (pv pre).length cc) := by rw [cell_of_row _ _ _ _ _ _ HV1.out]; rfl
      have hW1s : w.heap.size < W1.heap.size := by have := HT1.out.sz; omega
      have hW1b : Bx < W1.heap.size := (Array.getElem?_eq_some_iff.1 hrow1).1
      have HAp := hide (fun (o : Obj) (w4 : World) (v4 : Value) hg h4 hwh => tb_app (x := ⟨⟨k, t, z, ln, cl⟩, hxl⟩) (v4 := v4) (w4 := w4) (o := o) HT1.out HV1.out HV.out rfl hg h4 hwh HK.out)
      clear hrow1 hb1 hWs hBW
      generalize hN : (pv pre).length = N at *
      have HN := hide hN
      have hN1 := HNl.out
      clear hN
      gi_wp2_with (gi_at_builtin; go_loud (refine wpListIn_one _ rfl _ _ 22 rfl 24 (.agg #[.int .i64 0, .string ⟨#[]⟩, .int .i64 0, .int .i64 0, .int .i64 0]) 5 48 under_toks info_toks rfl (by decide) (by decide) (w.heap.size + 5) _ _ _ rfl (by have := own_below HV.out (bal W1 (.cells #[.int .i64 (k : Nat), .string (str t), .int .i64 z, .int .i64 (ln : Nat), .int .i64 (cl : Nat)] 24)) (Nat.le_refl _); exact this) _ _ [.int .i64 (k : Nat), .string (str t), .int .i64 z, .int .i64 (ln : Nat), .int .i64 (cl : Nat)] rfl (heap_alloc_new W1 _) rfl (by simp [Value.oneCell']) hN1 (by simp; omega) ?_; intro v' w4 hown4 hgr4 hwh; obtain ⟨A4, c4, rfl⟩ := own_slice hown4; obtain ⟨a1, a2, a3, a4⟩ := HAp.out _ _ _ hgr4 (by first | exact hown4 | (rw [HN.out]; exact hown4)) hwh; have HA2 := hide a2; have HA3 := hide a3; have HA4 := hide a4; have e0 : w4.cell? ⟨w.heap.size, 0, none⟩ = some (.slice A N cc) := (by rw [cell_of_row _ _ _ _ _ _ ((a1 _ (by omega)).trans HV1.out)]; rfl); have e1 : w4.frozen? ⟨w.heap.size, 0, none⟩ = false := (by simp [World.frozen?, (a1 _ (show w.heap.size < w.heap.size + 5 by omega)).trans HV1.out]); have hw4 : w.heap.size < w4.heap.size := World.block_lt_of_cell? _ _ e0; clear hown4 hgr4 hwh a1 a2 a3 a4))
      exact ⟨(HKo.out.trans HA2.out).from _, HKp.out.trans HA3.out, HA4.out⟩
  case done =>
    rintro D xs W hD hxs hT hK
    have HO := hide (yl_done hxs hT.ok)
    obtain ⟨v, hv1, hv2⟩ := hT.ls
    obtain ⟨A, cc, rfl⟩ := own_slice hv2
    have c0 : W.cell? ⟨w.heap.size, 0, none⟩ = some (.slice A (pv xs).length cc) := by rw [cell_of_row _ _ _ _ _ _ hv1]; rfl
    have c1 : W.cell? ⟨w.heap.size + 1, 0, none⟩ = some (.int .i64 0) := by rw [cell_of_row _ _ _ _ _ _ hT.c1]; rfl
    have c2 : W.cell? ⟨w.heap.size + 1 + 1, 0, none⟩ = some (.int .i64 0) := by rw [cell_of_row _ _ _ _ _ _ hT.c2]; rfl
    have c3 : W.cell? ⟨w.heap.size + 1 + 1 + 1, 0, none⟩ = some (.int .i64 0) := by rw [cell_of_row _ _ _ _ _ _ hT.c3]; rfl
    have f0 : W.frozen? ⟨w.heap.size, 0, none⟩ = false := by simp [World.frozen?, hv1]
    have f1 : W.frozen? ⟨w.heap.size + 1, 0, none⟩ = false := by simp [World.frozen?, hT.c1]
    have f2 : W.frozen? ⟨w.heap.size + 1 + 1, 0, none⟩ = false := by simp [World.frozen?, hT.c2]
    have f3 : W.frozen? ⟨w.heap.size + 1 + 1 + 1, 0, none⟩ = false := by simp [World.frozen?, hT.c3]
    have s0 := setCell_self c0
    have s1 := setCell_self c1
    have s2 := setCell_self c2
    have s3 := setCell_self c3
    have p0 := cell_put hK (.deferred none) c0
    have p1 := cell_put hK (.deferred none) c1
    have p2 := cell_put hK (.deferred none) c2
    have p3 := cell_put hK (.deferred none) c3
    have HK := hide hK
    have HB := hide (below_put (B := w.heap.size) hT.bel (by omega) hK (.deferred none))
    have HOw := hide (show OwnT (W.putObj D (.deferred none)) (w.heap.size + 5) (.slice A (pv xs).length cc) (pv xs) from
      own_kept hv2 (grownBy_putObj' W D _) (fun r e => by cases e; exact ⟨by omega, _, hK, rfl⟩))
    clear hT hxs hK hv1 hv2
    go_wp2_with fail
    refine marks_done HK.out (v := .tuple #[.slice A (pv xs).length cc, .int .i64 0, .int .i64 0, .int .i64 0]) (by simp [results, Tryd.results11, go_sem, p0, p1, p2, p3]) ⟨.slice A (pv xs).length cc, by rw [HO.out]; rfl, ?_, HB.out⟩
    rw [HO.out]
    exact own_base HOw.out (by omega)
  case stop =>
    rintro D c pre W hD ⟨n, hn1, hn2⟩ hX hK
    obtain ⟨p, x, rfl, hp, hx0, g0, g1, g2, g3⟩ := hX.out
    obtain rfl := hX.c
    have HO := hide (yl_stop hn2 hx0)
    have HB := hide (below_put (B := w.heap.size) hX.bel (by omega) hK (.deferred none))
    have p0 := cell_put hK (.deferred none) (show W.cell? ⟨w.heap.size, 0, none⟩ = some (.slice none 0 0) by rw [cell_of_row _ _ _ _ _ _ g0]; rfl)
    have p1 := cell_put hK (.deferred none) (show W.cell? ⟨w.heap.size + 1, 0, none⟩ = some (.int .i64 (x.1.ln : Nat)) by rw [cell_of_row _ _ _ _ _ _ g1]; rfl)
    have p2 := cell_put hK (.deferred none) (show W.cell? ⟨w.heap.size + 1 + 1, 0, none⟩ = some (.int .i64 (x.1.cl : Nat)) by rw [cell_of_row _ _ _ _ _ _ g2]; rfl)
    have p3 := cell_put hK (.deferred none) (show W.cell? ⟨w.heap.size + 1 + 1 + 1, 0, none⟩ = some (.int .i64 140) by rw [cell_of_row _ _ _ _ _ _ g3]; rfl)
    have HK := hide hK
    clear hX hn2 hn1 hK g0 g1 g2 g3
    refine wpIn_wide.2 ?_
    go_wp2_with fail
    refine marks_done HK.out (v := .tuple #[.slice none 0 0, .int .i64 (x.1.ln : Nat), .int .i64 (x.1.cl : Nat), .int .i64 140]) (by simp [results, Tryd.results11, go_sem, p0, p1, p2, p3]) ⟨.slice none 0 0, by rw [HO.out]; rfl, ?_, HB.out⟩
    rw [HO.out]
    exact World.ownsRow_nil _ _ _ _
end Go.Proofs.YtohmenghlboalaaDoor
