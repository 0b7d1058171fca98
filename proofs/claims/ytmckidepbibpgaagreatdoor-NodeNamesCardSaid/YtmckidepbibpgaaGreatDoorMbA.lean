/-
  A map keyed by structs of a number and a truth.
-/
import Derived.Test.YtmckidepbibpgaaGreatDoorChkA
import Derived.MapKept
import Derived.WideKeyRuns
import Derived.Laws.StructEq
import Derived.StillTailTactics
import Derived.Deep.RegionHeld
namespace Go.Proofs.YtmckidepbibpgaaGreatDoor
open Go.RowKit Go.Deep
set_option linter.unusedVariables false
set_option linter.unusedSimpArgs false

def kval (k : Int × Bool) : Value := .agg #[.int .i64 k.1, .bool k.2]
/-- an entry: key, value, when it came -/
abbrev MEnt := (Int × Bool) × Value × Nat
def ent (e : MEnt) : MapEntry := { key := kval e.1, val := e.2.1, born := e.2.2 }
def findE (k : Int × Bool) : List MEnt → Nat → Option (Nat × Value)
  | [], _ => none
  | e :: l, i => if k = e.1 then some (i, e.2.1) else findE k l (i + 1)

theorem fields_of_stg : Tryz.prog.underlying 302 = some (.struct (Tryz.prog.fieldsOf 302)) := by kernel_rfl
theorem eq_stg (a b : Int × Bool) (w : World) : (Op.equal 302 (kval a) (kval b)).run Tryz.prog w = .ok (decide (a = b)) w := by
  unfold Op.equal kval
  show (Op.equalIn (9999 + 1) _ _ _).run _ _ = _
  rw [run_equalIn_struct w 9999 302 _ _ fields_of_stg (by kernel_rfl)]
  simp [Program.fieldsOf, Tryz.underlying302, Op.eqFields, part, isAgg, go_sem]
  obtain ⟨a1, a2⟩ := a
  obtain ⟨b1, b2⟩ := b
  by_cases h1 : a1 = b1 <;> by_cases h2 : a2 = b2 <;> simp [h1, h2]
theorem check_stg' (n : Nat) (e : Bool) (k : Int × Bool) (w : World) : (Instr.checkKey e (n + 1 + 1) 302 (kval k)).run Tryz.prog w = .ok () w := by
  unfold kval
  rw [Instr.checkKey]
  simp [run_underlying Tryz.underlying302, part, isAgg, go_sem]
  simp [Instr.checkKey, run_underlying Tryz.underlying3, run_underlying Tryz.underlying4, go_sem]
theorem check_stg (e : Bool) (k : Int × Bool) (w : World) : (Instr.checkKey e 10000 302 (kval k)).run Tryz.prog w = .ok () w := check_stg' 9998 e k w
theorem ask_stg (k : Int × Bool) (w : World) : ∀ (l : List MEnt) (i : Nat), (Instr.findAsking 302 (kval k) (l.map ent) i).run Tryz.prog w = .ok (findE k l i) w
  | [], i => by simp [Instr.findAsking, findE]
  | e :: l, i => by
    have ih := ask_stg k w l (i + 1)
    simp only [List.map_cons, Instr.findAsking, findE]
    have h1 : (ent e).key = kval e.1 := rfl
    have h2 : (ent e).val = e.2.1 := rfl
    rw [h1, h2]
    by_cases h : k = e.1
    · simp [eq_stg, h]
    · simp [eq_stg, h, ih]
theorem find_stg (k : Int × Bool) (w : World) (l : List MEnt) : (Instr.findKey 302 (kval k) (l.map ent)).run Tryz.prog w = .ok (findE k l 0) w := by
  rw [run_findKey_eq w (by kernel_rfl)]
  exact ask_stg k w l 0

def MapE (W : World) (r : Nat) (l : List MEnt) (c : Nat) : Prop := W.heap[r]? = some (.map (l.map ent).toArray c)
def putE (W : World) (r : Nat) (l : List MEnt) (c : Nat) : World := { W with heap := W.heap.setIfInBounds r (.map (l.map ent).toArray c) }
theorem MapE.put {W : World} {r : Nat} {l l' : List MEnt} {c c' : Nat} (h : MapE W r l c) : MapE (putE W r l' c') r l' c' := (MapKept.heap_set (o' := .map (l'.map ent).toArray c') h).1
theorem ins_stg {W : World} {r : Nat} {l : List MEnt} {c : Nat} (h : MapE W r l c) (k : Int × Bool) (v : Value) (hk : findE k l 0 = none) :
    (Instr.mapUpdate 299 (.map (some r)) (kval k) v).run Tryz.prog W = .ok () (putE W r (l ++ [(k, v, c)]) (c + 1)) := by
  have hl : ((l.map ent).toArray).toList = l.map ent := rfl
  have h' : W.heap[r]? = some (.map (l.map ent).toArray c) := h
  simp [Instr.mapUpdate, run_underlying Tryz.underlying299, MapKept.run_getObj_map h', check_stg, find_stg, hk, MapKept.run_setObj_map _ h', Result.andThen]
  unfold putE
  simp [ent]
theorem look_stg {W : World} {r : Nat} {l : List MEnt} {c : Nat} (h : MapE W r l c) (k : Int × Bool) (z : Value) (hz : (zeroValue 241).run Tryz.prog W = .ok z W) :
    (Instr.lookup 299 (.map (some r)) (kval k) true).run Tryz.prog W = .ok (match findE k l 0 with | some (_, v) => .tuple #[v, .bool true] | none => .tuple #[z, .bool false]) W := by
  have h' : W.heap[r]? = some (.map (l.map ent).toArray c) := h
  rcases hf : findE k l 0 with _ | ⟨i, v⟩ <;>
  simp [Instr.lookup, run_underlying Tryz.underlying299, MapKept.run_getObj_map h', check_stg, find_stg, hf, hz, Result.andThen]
theorem wp_ins {o : Oper} {a : Act} {W : World} {next : Act → World → Prop} {Q : Exit → Act → World → Prop} (m k x : Operand) (ho : o.op = .insert 299 m k x) (r : Nat) (l : List MEnt) (c : Nat) (key : Int × Bool) (v : Value)
    (hm : a.eval m = .map (some r)) (hk : a.eval k = kval key) (hx : a.eval x = v) (hf : findE key l 0 = none) (h : MapE W r l c) (hn : next (a.put o.dst undef) (putE W r (l ++ [(key, v, c)]) (c + 1))) : o.wp Tryz.prog a W next Q := by
  unfold Oper.wp execOp
  simp only [ho, hm, hk, hx]
  simp [ins_stg h key v hf, Result.andThen, Oper.upon]
  exact hn
theorem wp_look {o : Oper} {a : Act} {W : World} {next : Act → World → Prop} {Q : Exit → Act → World → Prop} (m k : Operand) (ho : o.op = .lookup 299 m k true) (r : Nat) (l : List MEnt) (c : Nat) (key : Int × Bool) (z : Value)
    (hm : a.eval m = .map (some r)) (hk : a.eval k = kval key) (hz : (zeroValue 241).run Tryz.prog W = .ok z W) (h : MapE W r l c)
    (hn : next (a.put o.dst (match findE key l 0 with | some (_, v) => .tuple #[v, .bool true] | none => .tuple #[z, .bool false])) W) : o.wp Tryz.prog a W next Q := by
  unfold Oper.wp execOp
  simp only [ho, hm, hk]
  simp [look_stg h key z hz, Result.andThen, Oper.upon]
  exact hn
theorem below_putE {B : Nat} {w W : World} {r : Nat} {l : List MEnt} {c : Nat} (h : Below B w W) (hr : B ≤ r) : Below B w (putE W r l c) :=
  ⟨h.os, h.tape, h.output, by unfold putE; simpa using h.size, fun k hk => by unfold putE; rw [Array.getElem?_setIfInBounds_ne (by omega)]; exact h.block k hk⟩

/-! ### What a member does -/
def cV (a b c : Nat) : Value := .agg #[.func (.func a) #[] #[], .func (.func b) #[] #[], .func (.func c) #[] #[]]
def cvA : Value := cV 252 253 254
def cvF : Value := cV 255 256 163
def cvL : Value := cV 257 258 163
def cvZ : Value := .agg #[.nilFunc, .nilFunc, .nilFunc]
def condF (k : Int × Bool) : Option Value := if k = (2, true) then some cvA else if k = (1, true) then some cvF else if k = (1, false) then some cvL else none
def CdM (W : World) (r : Nat) : Prop := ∃ l c, MapE W r l c ∧ ∀ k, (findE k l 0).map (·.2) = condF k
theorem CdM.below {W W' : World} {r : Nat} (h : CdM W r) (hb : Below W.heap.size W W') : CdM W' r := by
  obtain ⟨l, c, h1, h2⟩ := h
  exact ⟨l, c, (hb.block _ (Array.getElem?_eq_some_iff.1 h1).1).trans h1, h2⟩
end Go.Proofs.YtmckidepbibpgaaGreatDoor
