/-
  What serves a seat without configurations: what stands behind what makes memory alone, numbers that lie in slices, rows of one's own, appends.
-/
import Derived.Test.YtdennekkbdlhdaaDoorProg
import Derived.WalkKit
import Derived.WalkSpells
import Derived.WalkLawsBesides
import Derived.Deep.QuietTactic
import Derived.BigQuiet
import Derived.OpenShut
import Derived.Below
import Derived.Deep.RegionHeld
import Derived.Deep.Slices
import Derived.Deep.Fields
import Derived.Lib.SmallJoins
import Derived.Maps.AppendAt
import Derived.Maps.OwnIn
import Derived.Deep.WholeRow
import Derived.RangeFuncNested
import Derived.RangeFuncBound
import Derived.RangeFuncCalls
import Derived.RangeFuncLeaves
import Derived.RangeFuncBox
import Derived.Shelf.Abstract
import Derived.Shelf.RegionOpen
import Derived.OwnWalkIn
import Derived.TacticsInMore
import Derived.LoopNIn
import Derived.LoopIn
import Derived.Laws.StructEq
import Derived.Laws.BitsAllLaws
import Derived.BigRegion
import Derived.Laws.AppendOwn
import Derived.Orders
import Derived.RegionTactic
import Derived.ControlIn
namespace Go.Proofs.YtdennekkbdlhdaaDoor
open Go.RowKit Go.Shelf Go.ChangeShapes Go.WideShapes
set_option linter.unusedVariables false
set_option linter.unusedSimpArgs false
set_option maxRecDepth 100000

theorem hide {p : Prop} (h : p) : Hid p := h
theorem ret_int {k : IntKind} {a b : Int} (h : a = b) : Ending.returned (.int k a) = .returned (.int k b) := by rw [h]
theorem ret_bool {a b : Bool} (h : a = b) : Ending.returned (.bool a) = .returned (.bool b) := by rw [h]
theorem below_drewN {B : Nat} {a w : World} (h : Below B a w) (n : Nat) : Below B a (w.drewN n) := ⟨h.os, h.tape, h.output, h.size, h.block⟩
theorem bcl {B b o : Nat} {w w' : World} (h : Below B w w') (hb : b < B) : w'.cell? ⟨b, o, none⟩ = w.cell? ⟨b, o, none⟩ := h.cell (p := ⟨b, o, none⟩) hb
theorem bfr {B b o : Nat} {w w' : World} (h : Below B w w') (hb : b < B) : w'.frozen? ⟨b, o, none⟩ = w.frozen? ⟨b, o, none⟩ := h.frozen (p := ⟨b, o, none⟩) hb
theorem bal (w : World) (o : Obj) : Below w.heap.size w (w.alloc o) := (Below.refl _ w).alloc (Nat.le_refl _) o
theorem cell_below {w w' : World} {b o B : Nat} {v : Value} (hb : Below B w w') (hB : w.heap.size ≤ B) (hlt : b < w.heap.size) (h : w.cell? ⟨b, o, none⟩ = some v) : w'.cell? ⟨b, o, none⟩ = some v :=
  (hb.cell (p := ⟨b, o, none⟩) (by show b < B; omega)).trans h
theorem plain_add (b off i : Nat) : (⟨b, off, none⟩ : Addr).add i = ⟨b, off + i, none⟩ := by unfold Addr.add; split <;> simp_all
theorem setCell_other {W : World} {g k j : Nat} {v : Value} (h : k ≠ g) : (W.setCell ⟨g, j, none⟩ v).heap[k]? = W.heap[k]? := by
  show (W.heap.modify g _)[k]? = _
  rw [Array.getElem?_modify, if_neg (fun e => h e.symm)]
theorem set_cells {W : World} {g j : Nat} {v : Value} {cs : Array Value} {t : TypeId} {f : Nat × Nat} (h : W.heap[g]? = some (.cells cs t f)) : (W.setCell ⟨g, j, none⟩ v).heap[g]? = some (.cells (cs.setIfInBounds j v) t f) := by
  show (W.heap.modify g _)[g]? = _
  rw [Array.getElem?_modify, if_pos rfl, h]; rfl
theorem take_snoc {α : Type} (l : List α) (d : α) (k : Nat) (h : k < l.length) : l.take (k + 1) = l.take k ++ [l.getD k d] := by
  rw [List.take_succ_eq_append_getElem h, List.getD_eq_getElem?_getD, List.getElem?_eq_getElem h]; rfl

theorem nat_beq (a b : Nat) : ((a : Int) == (b : Int)) = decide (a = b) := by rw [Bool.eq_iff_iff]; simp; exact Int.ofNat_inj
theorem i64_mask (x : Int) (k : Nat) (hk : k < 63) : bits .and .i64 x ((2 ^ k - 1 : Nat) : Int) = x % (2 ^ k : Nat) := by
  have h2 : 2 ^ k < 2 ^ 63 := Nat.pow_lt_pow_right (by omega) hk
  have h3 : 0 < 2 ^ k := Nat.pos_of_ne_zero (by simp)
  show IntKind.i64.wrap ((BitVec.ofInt 64 x &&& BitVec.ofInt 64 ((2 ^ k - 1 : Nat) : Int)).toNat : Int) = _
  rw [BitVec.toNat_and, BitVec.ofInt_natCast, BitVec.toNat_ofNat, Nat.mod_eq_of_lt (show 2 ^ k - 1 < 2 ^ 64 by omega), Nat.and_two_pow_sub_one_eq_mod, BitVec.toNat_ofInt]
  have hd : ((2 ^ k : Nat) : Int) ∣ ((2 ^ 64 : Nat) : Int) := by
    refine Int.natCast_dvd_natCast.2 (Nat.pow_dvd_pow 2 (by omega))
  have h5 : ((((x % ((2 ^ 64 : Nat) : Int)).toNat % 2 ^ k : Nat) : Nat) : Int) = x % ((2 ^ k : Nat) : Int) := by
    rw [Int.natCast_emod, Int.toNat_of_nonneg (Int.emod_nonneg _ (by decide)), Int.emod_emod_of_dvd _ hd]
  rw [h5]
  have h6 := Int.emod_nonneg x (show ((2 ^ k : Nat) : Int) ≠ 0 by omega)
  have h7 := Int.emod_lt_of_pos x (show 0 < ((2 ^ k : Nat) : Int) by omega)
  rw [IntKind.wrap_i64]
  omega

def I64 (z : Int) : Prop := -9223372036854775808 ≤ z ∧ z ≤ 9223372036854775807
/-- a list whose element i is told by 'p', which is handed the block, and the place of its first cell; an element has 'k' cells -/
def Lies (w : World) (A : Option Addr) (n k : Nat) (p : Nat → Nat → Nat → Prop) : Prop :=
  n = 0 ∨ ∃ b off, A = some ⟨b, off, none⟩ ∧ b < w.heap.size ∧ ∀ i, i < n → p i b (off + i * k)
/-- numbers that lie in a slice -/
def Ints (w : World) (A : Option Addr) (l : List Int) : Prop :=
  (∀ z ∈ l, I64 z) ∧ Lies w A l.length 1 fun i b o => w.cell? ⟨b, o, none⟩ = some (.int .i64 (l.getD i 0))
theorem Lies.of_below {w w' : World} {A : Option Addr} {n k B : Nat} {p q : Nat → Nat → Nat → Prop} (h : Lies w A n k p) (hb : Below B w w') (hB : w.heap.size ≤ B) (hpq : ∀ i b o, i < n → b < w.heap.size → p i b o → q i b o) : Lies w' A n k q := by
  rcases h with h0 | ⟨b, off, rfl, hlt, hc⟩
  · exact .inl h0
  · exact .inr ⟨b, off, rfl, by have := hb.size; omega, fun i hi => hpq i b _ hi hlt (hc i hi)⟩
theorem Ints.of_below {w w' : World} {A : Option Addr} {l : List Int} {B : Nat} (h : Ints w A l) (hb : Below B w w') (hB : w.heap.size ≤ B) : Ints w' A l :=
  ⟨h.1, h.2.of_below hb hB fun _ _ _ _ hlt hp => cell_below hb hB hlt hp⟩
theorem Ints.at {w : World} {A : Option Addr} {l : List Int} (h : Ints w A l) {k : Nat} (hk : k < l.length) :
    ∃ b off, A = some ⟨b, off, none⟩ ∧ b < w.heap.size ∧ w.cell? ⟨b, off + k, none⟩ = some (.int .i64 (l.getD k 0)) := by
  rcases h.2 with h0 | ⟨b, off, rfl, hlt, hc⟩
  · omega
  · exact ⟨b, off, rfl, hlt, by have := hc k hk; rwa [Nat.mul_one] at this⟩

/-! ### rows of one's own -/
theorem own_stands {W W' : World} {B : Nat} {t : TypeId} {sz : Nat} {h : Value} {n : Nat} {xs : List Value} (x : W.ownsRow B t sz h n xs) (hb : ∀ k, h.ownBlock = some k → W'.heap[k]? = W.heap[k]?) : W'.ownsRow B t sz h n xs := by
  refine ⟨x.1, ?_⟩
  rcases x.2 with h1 | ⟨g, cap, cur, rfl, h2, h3, h4⟩
  · exact .inl h1
  · exact .inr ⟨g, cap, cur, rfl, h2, (hb g rfl).trans h3, h4⟩
theorem own_block {W : World} {B : Nat} {t : TypeId} {sz : Nat} {h : Value} {n : Nat} {xs : List Value} (x : W.ownsRow B t sz h n xs) {k : Nat} (hk : h.ownBlock = some k) : k < W.heap.size ∧ B ≤ k ∧ ∃ cur, W.heap[k]? = some (.cells cur t (0, 0)) := by
  rcases x.2 with ⟨rfl, _⟩ | ⟨g, cap, cur, rfl, hg, hh, _⟩
  · cases hk
  · simp [Value.ownBlock] at hk
    subst hk
    exact ⟨(Array.getElem?_eq_some_iff.1 hh).1, hg, cur, hh⟩
theorem own_slice {W : World} {B : Nat} {t : TypeId} {sz : Nat} {h : Value} {n : Nat} {xs : List Value} (x : W.ownsRow B t sz h n xs) : ∃ A c, h = .slice A n c := by
  rcases x.2 with ⟨rfl, rfl⟩ | ⟨g, cap, cur, rfl, _⟩
  · exact ⟨_, _, rfl⟩
  · exact ⟨_, _, rfl⟩
theorem own_below {W W' : World} {B C : Nat} {t : TypeId} {sz : Nat} {h : Value} {n : Nat} {xs : List Value} (x : W.ownsRow B t sz h n xs) (hb : Below C W W') (hC : W.heap.size ≤ C) : W'.ownsRow B t sz h n xs :=
  own_stands x fun k hk => hb.block k (Nat.lt_of_lt_of_le (own_block x hk).1 hC)
/-- where an element's cell lies -/
theorem own_cell {W : World} {B : Nat} {t : TypeId} {sz : Nat} {h : Value} {n : Nat} {xs : List Value} (x : W.ownsRow B t sz h n xs) {j : Nat} {u : Value} (hu : xs[j]? = some u) :
    ∃ g c, h = .slice (some ⟨g, 0, none⟩) n c ∧ g < W.heap.size ∧ W.cell? ⟨g, j, none⟩ = some u := by
  rcases x.2 with ⟨rfl, rfl⟩ | ⟨g, cap, cur, rfl, hg, hh, _, _, _, ht⟩
  · have := x.1
    rw [Nat.zero_mul] at this
    rw [List.length_eq_zero_iff.1 this] at hu
    cases hu
  · refine ⟨g, cap, rfl, (Array.getElem?_eq_some_iff.1 hh).1, ?_⟩
    rw [cell_of_row _ _ _ _ _ _ hh]
    rw [← ht, List.getElem?_take] at hu
    split at hu
    · simpa using hu
    · cases hu
/-- a list of numbers of one's own is numbers that lie in a slice -/
theorem own_ints {W : World} {B : Nat} {t : TypeId} {h : Value} {l : List Int} (x : W.ownsRow B t 1 h l.length (l.map (Value.int .i64))) (hl : ∀ z ∈ l, I64 z) : ∃ A c, h = .slice A l.length c ∧ Ints W A l := by
  rcases x.2 with ⟨rfl, h0⟩ | ⟨g, cap, cur, rfl, hg, hh, _, _, _, ht⟩
  · exact ⟨_, _, by rw [h0], hl, .inl h0⟩
  · refine ⟨_, cap, rfl, hl, .inr ⟨g, 0, rfl, (Array.getElem?_eq_some_iff.1 hh).1, fun i hi => ?_⟩⟩
    show W.cell? ⟨g, 0 + i * 1, none⟩ = some (.int .i64 (l.getD i 0))
    rw [Nat.zero_add, Nat.mul_one, cell_of_row _ _ _ _ _ _ hh]
    have : (l.map (Value.int .i64))[i]? = some (.int .i64 (l.getD i 0)) := by
      rw [List.getElem?_map, List.getD_eq_getElem?_getD, List.getElem?_eq_getElem hi]; rfl
    rw [← ht, List.getElem?_take] at this
    split at this
    · simpa using this
    · cases this

/-- append of one element, which lies in a block of its own -/
theorem wpList_one {ops : Array Oper} {rest : List Oper} {o : Oper} {a : Act} {Q : Exit → Act → World → Prop} (w : World) (hgd : o.guard = none) (s x : Operand) (t : TypeId)
    (ho : o.op = .call { callee := .builtin .append, args := #[s, x], argTypes := #[t, t] })
    (e : TypeId) (z : Value) (size bytes : Nat) (ht : Tryd.prog.underlying t = some (.slice e)) (hi : (Tryd.prog.info? e).map (fun i => (i.zero, i.size, i.bytes)) = some (some z, size, bytes)) (hzs : z.cells.size = size) (hsz : 0 < size) (hby : bytes ≤ 1000)
    (base : Nat) (v : Value) (n : Nat) (xs : List Value) (hs : a.eval s = v) (hown : w.ownsRow base e size v n xs)
    (q c : Nat) (us : List Value) (hx : a.eval x = .slice (some ⟨q, 0, none⟩) 1 c) (hq : w.heap[q]? = some (.cells us.toArray e (0, 0))) (hul : us.length = size) (hu : ∀ u ∈ us, u.oneCell' = true) (hn : n ≤ 100000) (hbase : base ≤ w.heap.size)
    (h : ∀ v' w', w'.ownsRow base e size v' (n + 1) (xs ++ us) → w.grownBy w' v.ownBlock → (v'.ownBlock = v.ownBlock ∨ v'.ownBlock = some w.heap.size) → wpList Tryd.prog ops Q rest (a.put o.dst v') w') :
    wpList Tryd.prog ops Q (o :: rest) a w := by
  rcases hi' : Tryd.prog.info? e with _ | i
  · rw [hi'] at hi; cases hi
  rw [hi'] at hi
  simp only [Option.map_some, Option.some.injEq, Prod.mk.injEq] at hi
  obtain ⟨hz, hs1, hb⟩ := hi
  have hnews : ∀ (j : Nat) (y : Value), us[j]? = some y → w.cell? ((⟨q, 0, none⟩ : Addr).add j) = some y := by
    intro j y hy
    rw [plain_add, cell_of_row _ _ _ _ _ _ hq]
    simpa using hy
  have hbb : (n + 1) * bytes ≤ 140737488355328 := by have := Nat.mul_le_mul (show n + 1 ≤ 100001 by omega) hby; omega
  refine wpList_plain hgd fun K hK => ?_
  obtain ⟨v', w', hr, h2, h3, _, h4⟩ := run_append_own_at (P := Tryd.prog) w base t o.type e i _ size bytes ht hi' hz hs1 hb hzs hsz v n xs hown ⟨q, 0, none⟩ 1 c us (by omega) hnews hu (by simp only [maxLen]; omega) hbb hbase
  unfold Oper.wp execOp
  simp only [ho, resolve, invoke, builtin, Sem.run_bind, Sem.run_pure, Result.andThen_ok, List.map_toArray, List.map_cons, List.map_nil, hs, hx, hr]
  exact hK _ _ (h v' w' h2 h3 h4)
/-- the same inside a fence -/
theorem wpListIn_one {F : Fence} {nF : Nat} {ops : Array Oper} {rest : List Oper} {o : Oper} {a : Act} {Q : Exit → Act → World → Prop} (w : World) (hgd : o.guard = none) (s x : Operand) (t : TypeId)
    (ho : o.op = .call { callee := .builtin .append, args := #[s, x], argTypes := #[t, t] })
    (e : TypeId) (z : Value) (size bytes : Nat) (ht : Tryd.prog.underlying t = some (.slice e)) (hi : (Tryd.prog.info? e).map (fun i => (i.zero, i.size, i.bytes)) = some (some z, size, bytes)) (hzs : z.cells.size = size) (hsz : 0 < size) (hby : bytes ≤ 1000)
    (base : Nat) (v : Value) (n : Nat) (xs : List Value) (hs : a.eval s = v) (hown : w.ownsRow base e size v n xs)
    (q c : Nat) (us : List Value) (hx : a.eval x = .slice (some ⟨q, 0, none⟩) 1 c) (hq : w.heap[q]? = some (.cells us.toArray e (0, 0))) (hul : us.length = size) (hu : ∀ u ∈ us, u.oneCell' = true) (hn : n ≤ 100000) (hbase : base ≤ w.heap.size)
    (h : ∀ v' w', w'.ownsRow base e size v' (n + 1) (xs ++ us) → w.grownBy w' v.ownBlock → (v'.ownBlock = v.ownBlock ∨ v'.ownBlock = some w.heap.size) → wpListIn F nF Tryd.prog ops Q rest (a.put o.dst v') w') :
    wpListIn F nF Tryd.prog ops Q (o :: rest) a w := by
  rcases hi' : Tryd.prog.info? e with _ | i
  · rw [hi'] at hi; cases hi
  rw [hi'] at hi
  simp only [Option.map_some, Option.some.injEq, Prod.mk.injEq] at hi
  obtain ⟨hz, hs1, hb⟩ := hi
  have hnews : ∀ (j : Nat) (y : Value), us[j]? = some y → w.cell? ((⟨q, 0, none⟩ : Addr).add j) = some y := by
    intro j y hy
    rw [plain_add, cell_of_row _ _ _ _ _ _ hq]
    simpa using hy
  have hbb : (n + 1) * bytes ≤ 140737488355328 := by have := Nat.mul_le_mul (show n + 1 ≤ 100001 by omega) hby; omega
  exact wpListIn_append_own_at w hgd s x t ho base e i z size bytes ht hi' hz hs1 hb hzs hsz v n xs hs hown ⟨q, 0, none⟩ 1 c us hx (by omega) hnews hu (by simp only [maxLen]; omega) hbb hbase fun v' w' h1 h2 _ h3 => h v' w' h1 h2 h3
def postM (fn : Func) (R : Ending → World → Prop) : Exit → Act → World → Prop
  | .normal, a, w | .ret, a, w => LeavesInM Fence.wide 2 Tryd.prog fn a.tmps R a.defers .returning w
  | .outgrown, _, w => R .outgrown w
  | _, _, _ => False
/-- A contract from a body that holds a range over a function. -/
theorem calls_of_wp_marks {f : FuncId} {fn : Func} {c : Code} {args : Array Value} {w : World} {R : Ending → World → Prop}
    (hf : Tryd.prog.funcs[f]? = some fn) (hb : fn.body = some c)
    (h : c.wp Tryd.prog (postM fn R) { tmps := args ++ Array.replicate (fn.ntmps - args.size) undef, defers := [] } w) : Calls Tryd.prog f args w R :=
  callsIn_wide.1 (callsIn_of_wp_marks hf hb trivial (wpIn_mono ((wpIn_wide (n := 2)).2 h) (fun e a w h => by
    cases e with
    | normal => exact h
    | ret => exact h
    | outgrown => exact h
    | panic c => exact h.elim
    | exit id => exact h
    | goto t => exact h)))

theorem marks_done {fn : Func} {tmps : Array Value} {W : World} {v : Value} {D : Nat} {R : Ending → World → Prop} (hK : W.heap[D]? = some (.deferred (some [])))
    (hr : (results fn tmps).run Tryd.prog (W.putObj D (.deferred none)) = .ok v (W.putObj D (.deferred none))) (h : R (.returned v) (W.putObj D (.deferred none))) :
    postM fn R .ret { tmps := tmps, defers := [{ target := .collected D, args := #[] }] } W := by
  refine ⟨by simp, .inl ⟨_, _, rfl, run_takeDeferred hK, ?_⟩⟩
  exact ⟨_, hr, h⟩
theorem below_put {B D : Nat} {w W : World} (h : Below B w W) (hD : B ≤ D) (hK : W.heap[D]? = some (.deferred (some []))) (o : Obj) : Below B w (W.putObj D o) :=
  h.trans ((Below.refl B W).grown (grownBy_putObj' W D o) (by have := (Array.getElem?_eq_some_iff.1 hK).1; omega) (fun k e => by cases e; omega))
theorem cell_put {W : World} {D : Nat} (hK : W.heap[D]? = some (.deferred (some []))) (o : Obj) {a : Addr} {v : Value} (h : W.cell? a = some v) : (W.putObj D o).cell? a = some v :=
  cell_kept h (grownBy_putObj' W D o) (fun r e => by cases e; exact ⟨_, hK, rfl⟩)
/-- what an append leaves as it was: all that is no cells, and every block but its own -/
theorem keeps_own {W W' : World} {B : Nat} {t : TypeId} {sz : Nat} {h : Value} {n : Nat} {xs : List Value} (x : W.ownsRow B t sz h n xs) (hg : W.grownBy W' h.ownBlock) : KeepsOthers W W' :=
  KeepsOthers.of_grownBy hg fun j o hj ho => by
    obtain ⟨_, _, cur, hc⟩ := own_block x hj
    rw [hc] at ho
    cases ho
    rfl
theorem below_own {W0 W W' : World} {B C : Nat} {t : TypeId} {sz : Nat} {h : Value} {n : Nat} {xs : List Value} (hb : Below B W0 W) (x : W.ownsRow C t sz h n xs) (hg : W.grownBy W' h.ownBlock) (hB : B ≤ C) (hW : B ≤ W.heap.size) : Below B W0 W' :=
  hb.grown hg hW fun k hk => by have := (own_block x hk).2.1; omega
/-- a range's own marks change no row of one's own -/
theorem own_kept {W W' : World} {B C : Nat} {t : TypeId} {sz : Nat} {h : Value} {n : Nat} {xs : List Value} (x : W.ownsRow B t sz h n xs) {row : Option Nat} (hg : W.grownBy W' row) (hr : ∀ r, row = some r → C ≤ r ∧ ∃ o : Obj, W.heap[r]? = some o ∧ o.isCells = false) : W'.ownsRow B t sz h n xs :=
  own_stands x fun k hk => by
    obtain ⟨hl, _, cur, hc⟩ := own_block x hk
    refine hg.block k hl fun e => ?_
    obtain ⟨_, o, ho, hn⟩ := hr k e.symm
    rw [hc] at ho
    cases ho
    cases hn
theorem row_kept {W W' : World} {k C : Nat} {cs : Array Value} {t : TypeId} {f : Nat × Nat} (x : W.heap[k]? = some (.cells cs t f)) {row : Option Nat} (hg : W.grownBy W' row) (hr : ∀ r, row = some r → C ≤ r ∧ ∃ o : Obj, W.heap[r]? = some o ∧ o.isCells = false) : W'.heap[k]? = some (.cells cs t f) := by
  refine (hg.block k (Array.getElem?_eq_some_iff.1 x).1 fun e => ?_).trans x
  obtain ⟨_, o, ho, hn⟩ := hr k e.symm
  rw [x] at ho
  cases ho
  cases hn
end Go.Proofs.YtdennekkbdlhdaaDoor
