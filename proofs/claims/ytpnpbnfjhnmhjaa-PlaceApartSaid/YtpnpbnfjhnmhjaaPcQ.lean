/-
  A map of numbers to numbers.
-/
import Derived.Test.YtpnpbnfjhnmhjaaPcO
import Derived.MapKept
namespace Go.Proofs.Ytpnpbnfjhnmhjaa
open Go.RowKit Go.Shelf
set_option linter.unusedVariables false
set_option linter.unusedSimpArgs false
set_option maxRecDepth 100000

/-- an entry: key, value, when it came -/
abbrev IEnt := Int × Int × Nat
def ient (e : IEnt) : MapEntry := { key := .int .i64 e.1, val := .int .i64 e.2.1, born := e.2.2 }
def findI (k : Int) : List IEnt → Nat → Option (Nat × Int)
  | [], _ => none
  | e :: l, i => if k = e.1 then some (i, e.2.1) else findI k l (i + 1)
def lkI (l : List IEnt) (k : Int) : Int := match findI k l 0 with
  | some x => x.2
  | none => 0
theorem findI_shift (k : Int) : ∀ (l : List IEnt) (i : Nat), findI k l (i + 1) = (findI k l i).map fun x => (x.1 + 1, x.2)
  | [], i => rfl
  | e :: l, i => by
    unfold findI
    split
    · rfl
    · exact findI_shift k l (i + 1)
theorem lk_cons (e : IEnt) (l : List IEnt) (k : Int) : lkI (e :: l) k = if k = e.1 then e.2.1 else lkI l k := by
  have h : findI k (e :: l) 0 = if k = e.1 then some (0, e.2.1) else findI k l (0 + 1) := rfl
  unfold lkI
  rw [h]
  split
  · rename_i h2
    split at h2
    · cases h2; rename_i h3; rw [if_pos h3]
    · rename_i h3
      rw [if_neg h3]
      rw [findI_shift] at h2
      cases h4 : findI k l 0 with
      | none => rw [h4] at h2; cases h2
      | some y => rw [h4] at h2; cases h2; rfl
  · rename_i h2
    split at h2
    · cases h2
    · rename_i h3
      rw [if_neg h3]
      rw [findI_shift] at h2
      cases h4 : findI k l 0 with
      | none => rfl
      | some y => rw [h4] at h2; cases h2
theorem now_int (k : Int) : ∀ (l : List IEnt) (i : Nat), Instr.findNow (.int .i64) (.int .i64 k) (l.map ient) i = some ((findI k l i).map fun x => (x.1, Value.int .i64 x.2))
  | [], i => rfl
  | e :: l, i => by
    have ih := now_int k l (i + 1)
    simp only [List.map_cons, Instr.findNow, findI]
    have h1 : Instr.sameNow (.int .i64) (.int .i64 k) (ient e).key = some (k == e.1) := by
      show Instr.sameNow (.int .i64) (.int .i64 k) (.int .i64 e.1) = _
      simp [Instr.sameNow]
    rw [h1]
    by_cases h : k = e.1
    · rw [if_pos h, beq_iff_eq.2 h]; rfl
    · rw [if_neg h, beq_eq_false_iff_ne.2 h]; exact ih
theorem find_int (k : Int) (w : World) (l : List IEnt) : (Instr.findKey 3 (.int .i64 k) (l.map ient)).run Try.prog w = .ok ((findI k l 0).map fun x => (x.1, Value.int .i64 x.2)) w := by
  unfold Instr.findKey
  simp [run_underlying Try.underlying3, now_int, go_sem]
theorem check_int (e : Bool) (k : Int) (w : World) : (Instr.checkKey e 10000 3 (.int .i64 k)).run Try.prog w = .ok () w := by
  rw [Instr.checkKey]
  simp [run_underlying Try.underlying3, go_sem]
def MapI (W : World) (r : Nat) (l : List IEnt) (c : Nat) : Prop := W.heap[r]? = some (.map (l.map ient).toArray c)
def putM (W : World) (r : Nat) (o : Obj) : World := { W with heap := W.heap.setIfInBounds r o }
/-- the map says f -/
def NxM (W : World) (r : Nat) (f : Int → Int) : Prop := ∃ l c, MapI W r l c ∧ ∀ k, lkI l k = f k
theorem NxM.look {W : World} {r : Nat} {f : Int → Int} (h : NxM W r f) (k : Int) : (Instr.lookup 57 (.map (some r)) (.int .i64 k) false).run Try.prog W = .ok (.int .i64 (f k)) W := by
  obtain ⟨l, c, h1, h2⟩ := h
  rw [← h2 k]
  have h' : W.heap[r]? = some (.map (l.map ient).toArray c) := h1
  have hz : (zeroValue 3).run Try.prog W = .ok (.int .i64 0) W := by
    simp [Try.zeroValue3]
  unfold lkI
  rcases hf : findI k l 0 with _ | ⟨i, v⟩ <;>
  simp [Instr.lookup, run_underlying Try.underlying57, MapKept.run_getObj_map h', check_int, find_int, hf, hz, Result.andThen]
theorem findI_get (k : Int) : ∀ (l : List IEnt) (i n : Nat) (v : Int), findI k l i = some (n, v) → ∃ j, n = i + j ∧ ∃ c, l[j]? = some (k, v, c)
  | [], i, n, v, h => by cases h
  | e :: l, i, n, v, h => by
    unfold findI at h
    split at h
    · rename_i hk
      cases h
      exact ⟨0, rfl, e.2.2, by rw [hk]; rfl⟩
    · obtain ⟨j, e1, c, e2⟩ := findI_get k l (i + 1) n v h
      exact ⟨j + 1, by omega, c, e2⟩
theorem lk_modify (k v : Int) : ∀ (l : List IEnt) (n : Nat) (x : Int), findI k l 0 = some (n, x) → ∀ z, lkI (l.modify n fun e => (k, v, e.2.2)) z = if z = k then v else lkI l z
  | [], n, x, h, z => by cases h
  | e :: l, n, x, h, z => by
    unfold findI at h
    split at h
    · rename_i hk
      cases h
      rw [List.modify_zero_cons, lk_cons, lk_cons, ← hk]
      split <;> rfl
    · rename_i hk
      rw [findI_shift] at h
      cases hf : findI k l 0 with
      | none => rw [hf] at h; cases h
      | some y =>
        rw [hf] at h
        obtain ⟨m, y2⟩ := y
        cases h
        rw [List.modify_succ_cons, lk_cons, lk_cons, lk_modify k v l m y2 hf z]
        by_cases hz : z = e.1
        · rw [if_pos hz, if_pos hz, if_neg (fun h => hk (by rw [← h]; exact hz))]
        · rw [if_neg hz, if_neg hz]
theorem lk_push (k v : Int) (c : Nat) : ∀ (l : List IEnt), findI k l 0 = none → ∀ z, lkI (l ++ [(k, v, c)]) z = if z = k then v else lkI l z
  | [], _, z => by
    rw [List.nil_append, lk_cons]
  | e :: l, h, z => by
    unfold findI at h
    split at h
    · cases h
    · rename_i hk
      rw [findI_shift] at h
      have hf : findI k l 0 = none := by
        cases hf : findI k l 0 with
        | none => rfl
        | some y => rw [hf] at h; cases h
      rw [List.cons_append, lk_cons, lk_cons, lk_push k v c l hf z]
      by_cases hz : z = e.1
      · rw [if_pos hz, if_pos hz, if_neg (fun h => hk (by rw [← h]; exact hz))]
      · rw [if_neg hz, if_neg hz]
theorem stays_int (k : Int) (w : World) : (Instr.keyThatStays (.int .i64 k) (.int .i64 k)).run Try.prog w = .ok (.int .i64 k) w := by
  unfold Instr.keyThatStays
  simp [Instr.sameBits]
theorem map_modify (k v : Int) : ∀ (l : List IEnt) (n : Nat), ((l.map ient).modify n fun e => { key := .int .i64 k, val := .int .i64 v, born := e.born }) = (l.modify n fun e => (k, v, e.2.2)).map ient
  | [], n => by simp
  | e :: l, 0 => rfl
  | e :: l, n + 1 => by
    rw [List.map_cons, List.modify_succ_cons, List.modify_succ_cons, List.map_cons, map_modify k v l n]
theorem NxM.set {W : World} {r : Nat} {f : Int → Int} (h : NxM W r f) (k v : Int) : ∃ o : Obj, o.isCells = false ∧ (Instr.mapUpdate 57 (.map (some r)) (.int .i64 k) (.int .i64 v)).run Try.prog W = .ok () (putM W r o) ∧ NxM (putM W r o) r (fun z => if z = k then v else f z) := by
  obtain ⟨l, c, h1, h2⟩ := h
  have h' : W.heap[r]? = some (.map (l.map ient).toArray c) := h1
  cases hf : findI k l 0 with
  | none =>
    refine ⟨.map ((l ++ [(k, v, c)]).map ient).toArray (c + 1), rfl, ?_, l ++ [(k, v, c)], c + 1, (MapKept.heap_set h').1, fun z => by rw [lk_push k v c l hf z, h2]⟩
    simp [Instr.mapUpdate, run_underlying Try.underlying57, MapKept.run_getObj_map h', check_int, find_int, hf, MapKept.run_setObj_map _ h', Result.andThen]
    unfold putM
    simp [ient]
  | some x =>
    obtain ⟨n, y⟩ := x
    obtain ⟨j, e1, cc, e2⟩ := findI_get k l 0 n y hf
    rw [Nat.zero_add] at e1
    subst e1
    refine ⟨.map ((l.modify n fun e => (k, v, e.2.2)).map ient).toArray c, rfl, ?_, _, c, (MapKept.heap_set h').1, fun z => by rw [lk_modify k v l n y hf z, h2]⟩
    simp [Instr.mapUpdate, run_underlying Try.underlying57, MapKept.run_getObj_map h', check_int, find_int, hf, e2, stays_int, MapKept.run_setObj_map _ h', Result.andThen]
    have hst : (Instr.keyThatStays (ient (k, y, cc)).key (.int .i64 k)).run Try.prog W = .ok (.int .i64 k) W := stays_int k W
    rw [hst]
    dsimp only
    rw [MapKept.run_setObj_map _ h', map_modify]
    rfl
end Go.Proofs.Ytpnpbnfjhnmhjaa
