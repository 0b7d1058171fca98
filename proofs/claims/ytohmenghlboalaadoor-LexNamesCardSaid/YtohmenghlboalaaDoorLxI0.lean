/-
  Two lists of tokens, held against each other.
-/
import Derived.Test.YtohmenghlboalaaDoorLxF
namespace Go.Proofs.YtohmenghlboalaaDoor
open Go.RowKit Go.Shelf
attribute [local go_sem] Oper.semAt_some
set_option linter.unusedVariables false
set_option linter.unusedSimpArgs false
set_option maxRecDepth 100000

/-- tokens that lie in a slice; numbers, lines and columns may be any -/
structure Tv where
  k : Int
  t : List UInt8
  n : Int
  ln : Int
  cl : Int
instance : Inhabited Tv := ⟨⟨0, [], 0, 0, 0⟩⟩
def tvC (t : Tv) : List Value := [.int .i64 t.k, .string (str t.t), .int .i64 t.n, .int .i64 t.ln, .int .i64 t.cl]
def toV (t : Tk) : Tv := ⟨t.k, t.t, t.n, t.ln, t.cl⟩
theorem tvC_toV (t : Tk) : tvC (toV t) = tkC t := rfl
structure TvS (w : World) (b o : Nat) (t : Tv) : Prop where
  c0 : w.cell? ⟨b, o, none⟩ = some (.int .i64 t.k)
  c1 : w.cell? ⟨b, o + 1, none⟩ = some (.string (str t.t))
  c2 : w.cell? ⟨b, o + 2, none⟩ = some (.int .i64 t.n)
  c3 : w.cell? ⟨b, o + 3, none⟩ = some (.int .i64 t.ln)
  c4 : w.cell? ⟨b, o + 4, none⟩ = some (.int .i64 t.cl)
def Tvs (w : World) (A : Option Addr) (l : List Tv) : Prop := Lies w A l.length 5 fun i b o => TvS w b o (l.getD i default)
theorem TvS.below {w w' : World} {b o B : Nat} {t : Tv} (h : TvS w b o t) (hb : Below B w w') (hB : w.heap.size ≤ B) (hl : b < w.heap.size) : TvS w' b o t :=
  ⟨cell_below hb hB hl h.c0, cell_below hb hB hl h.c1, cell_below hb hB hl h.c2, cell_below hb hB hl h.c3, cell_below hb hB hl h.c4⟩
theorem Tvs.below {w w' : World} {A : Option Addr} {l : List Tv} {B : Nat} (h : Tvs w A l) (hb : Below B w w') (hB : w.heap.size ≤ B) : Tvs w' A l :=
  h.of_below hb hB fun _ _ _ _ hl hp => hp.below hb hB hl
theorem Tvs.at {w : World} {A : Option Addr} {l : List Tv} (h : Tvs w A l) {k : Nat} (hk : k < l.length) : ∃ b off, A = some ⟨b, off, none⟩ ∧ b < w.heap.size ∧ TvS w b (off + k * 5) (l.getD k default) := by
  rcases h with h0 | ⟨b, off, rfl, hlt, hc⟩
  · omega
  · exact ⟨b, off, rfl, hlt, hc k hk⟩
theorem flatT_at : ∀ (l : List Tk) (i j : Nat), i < l.length → j < 5 → (flatT l)[i * 5 + j]? = (tkC (l.getD i ⟨0, [], 0, 0, 0⟩))[j]?
  | [], _, _, h, _ => by simp at h
  | t :: l, 0, j, _, hj => by
    rw [show flatT (t :: l) = tkC t ++ flatT l from rfl, Nat.zero_mul, Nat.zero_add, List.getElem?_append_left (by show j < 5; exact hj)]; rfl
  | t :: l, i + 1, j, h, hj => by
    rw [show flatT (t :: l) = tkC t ++ flatT l from rfl, List.getElem?_append_right (by show 5 ≤ _; omega), show (i + 1) * 5 + j - (tkC t).length = i * 5 + j by show _ - 5 = _; omega]
    exact flatT_at l i j (by simpa using h) hj
/-- a list of one's own is tokens that lie in a slice -/
theorem own_tvs {W : World} {B : Nat} {v : Value} {l : List Tk} (h : OwnT W B v l) : ∃ A c, v = .slice A (l.map toV).length c ∧ Tvs W A (l.map toV) := by
  rcases h.2 with ⟨rfl, h0⟩ | ⟨g, cap, cur, rfl, hg, hh, _, _, _, ht⟩
  · exact ⟨_, _, by rw [List.length_map, h0], .inl (by rw [List.length_map]; exact h0)⟩
  · refine ⟨_, cap, by rw [List.length_map], .inr ⟨g, 0, rfl, (Array.getElem?_eq_some_iff.1 hh).1, fun i hi => ?_⟩⟩
    rw [List.length_map] at hi
    have hc : ∀ j, j < 5 → W.cell? ⟨g, i * 5 + j, none⟩ = (tkC (l.getD i ⟨0, [], 0, 0, 0⟩))[j]? := fun j hj => by
      rw [cell_of_row _ _ _ _ _ _ hh, ← flatT_at l i j hi hj, ← ht, List.getElem?_take, if_pos (by omega)]
      simp
    have e : (l.map toV).getD i default = toV (l.getD i ⟨0, [], 0, 0, 0⟩) := by
      simp [List.getD_eq_getElem?_getD, List.getElem?_eq_getElem hi]
    rw [e, Nat.zero_add]
    exact ⟨hc 0 (by omega), hc 1 (by omega), hc 2 (by omega), hc 3 (by omega), hc 4 (by omega)⟩

def sameT (p : Bool) (a b : Tv) : Bool := decide (a.k = b.k) && (decide (a.t = b.t) && (decide (a.n = b.n) && (!p || (decide (a.ln = b.ln) && decide (a.cl = b.cl)))))
def sameF (p : Bool) (l m : List Tv) : Bool := decide (l.length = m.length) && (List.range l.length).all fun i => sameT p (l.getD i default) (m.getD i default)
theorem sameF_true {p : Bool} {l m : List Tv} (h : l.length = m.length) (hk : ∀ i, i < l.length → sameT p (l.getD i default) (m.getD i default) = true) : sameF p l m = true := by
  simp only [sameF, h, decide_true, Bool.true_and, List.all_eq_true, List.mem_range]
  exact fun i hi => hk i (by omega)
theorem sameF_false {p : Bool} {l m : List Tv} {i : Nat} (hi : i < l.length) (hk : sameT p (l.getD i default) (m.getD i default) = false) : sameF p l m = false := by
  cases h : sameF p l m with
  | false => rfl
  | true =>
    simp only [sameF, Bool.and_eq_true, List.all_eq_true, List.mem_range] at h
    rw [h.2 i hi] at hk; cases hk
theorem sameF_self (p : Bool) (l : List Tv) : sameF p l l = true := sameF_true rfl fun i _ => by simp [sameT]
theorem str_inj {a b : List UInt8} : str a = str b ↔ a = b := ⟨fun h => by rw [← byt_str a, ← byt_str b, h], fun h => by rw [h]⟩
end Go.Proofs.YtohmenghlboalaaDoor
