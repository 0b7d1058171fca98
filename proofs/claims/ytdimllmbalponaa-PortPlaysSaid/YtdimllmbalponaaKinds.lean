/-
  The table of what ports do, by kind and direction.
-/
import Derived.Test.YtdimllmbalponaaBase
import Derived.Carry
import Derived.MapKept
namespace Go.Proofs.Ytdimllmbalponaa
open Go.RowKit
set_option linter.unusedVariables false

theorem run_put {w : World} {mty kt et : TypeId} {r clock : Nat} {es : Array MapEntry} {z : Int} (val : Value) (hm : Try.prog.underlying mty = some (.map kt et)) (hk : Try.prog.underlying kt = some (.int .i64)) (hb : w.heap[r]? = some (.map es clock))
    (hf : Instr.findNow (.int .i64) (.int .i64 z) es.toList 0 = some none) :
    (Instr.mapUpdate mty (.map (some r)) (.int .i64 z) val).run Try.prog w = .ok () (w.putObj r (.map (es.push { key := .int .i64 z, val := val, born := clock }) (clock + 1))) := by
  have hc : (Instr.checkKey false 10000 kt (.int .i64 z)).run Try.prog w = .ok () w := MapKept.run_checkKey (k := .int .i64 z) hk (by simp [MapKept.IsKey]) false 9999
  simp [Instr.mapUpdate, run_underlying hm, MapKept.run_getObj_map hb, hc, MapKept.run_findKey hk hf, MapKept.run_setObj_map _ hb, Result.andThen, World.putObj]
theorem wpList_put {ops : Array Oper} {rest : List Oper} {o : Oper} {a : Act} {w : World} {Q : Exit → Act → World → Prop} (hgd : o.guard = none) (mty : TypeId) (m k x : Operand) (ho : o.op = .insert mty m k x)
    {kt et : TypeId} {r clock : Nat} {es : Array MapEntry} {z : Int} (val : Value) (hm' : a.eval m = .map (some r)) (hk' : a.eval k = .int .i64 z) (hx : a.eval x = val) (hm : Try.prog.underlying mty = some (.map kt et)) (hk : Try.prog.underlying kt = some (.int .i64)) (hb : w.heap[r]? = some (.map es clock))
    (hf : Instr.findNow (.int .i64) (.int .i64 z) es.toList 0 = some none)
    (h : wpList Try.prog ops Q rest (a.put o.dst undef) (w.putObj r (.map (es.push { key := .int .i64 z, val := val, born := clock }) (clock + 1)))) : wpList Try.prog ops Q (o :: rest) a w := by
  refine wpList_plain hgd fun K hK => ?_
  unfold Oper.wp execOp
  simp only [ho, hm', hk', hx, Sem.run_bind, run_put val hm hk hb hf, Result.andThen_ok, Sem.run_pure]
  exact hK _ _ h
/-- the deeds of a kind and direction -/
def deedsV (dl dm fl fm : Int) (p g : Nat) : Value := .agg #[.int .i64 dl, .int .i64 dm, .int .i64 fl, .int .i64 fm, .func (.func p) #[] #[], .func (.func g) #[] #[]]
def ent (k : Int) (v : Value) (b : Nat) : MapEntry := { key := .int .i64 k, val := v, born := b }
/-- the table lies in memory, its outer map at block m -/
def Kinds (W : World) (B m : Nat) : Prop := ∃ s q, B ≤ m ∧ W.heap[m]? = some (.map #[ent 1 (.map (some s)) 0, ent 2 (.map (some q)) 1] 2) ∧
  W.heap[s]? = some (.map #[ent 1 (deedsV 0 0 0 0 25 26) 0, ent 2 (deedsV 0 0 1 65535 25 27) 1] 2) ∧
  W.heap[q]? = some (.map #[ent 1 (deedsV 1 8 0 0 28 29) 0, ent 2 (deedsV 1 8 0 0 30 31) 1] 2)

theorem below_putObj {B : Nat} {a w : World} (h : Below B a w) (hB : a.heap.size ≤ B → True) {r : Nat} (hr : B ≤ r) (o : Obj) : Below B a (w.putObj r o) :=
  ⟨h.os, h.tape, h.output, by simpa using h.size, fun k hk => (World.putObj_heap_other (by omega)).trans (h.block k hk)⟩
/-- where the three maps lie; x: the third one, once it is made -/
structure KW (w w0 : World) (e1 e2 e3 : Array MapEntry) (c1 c2 c3 : Nat) (x : Bool) (W : World) : Prop where
  bx : W.heap[w.heap.size]? = some (.cells #[.int .i64 1, .int .i64 8] 47 (0, 0))
  m1 : W.heap[w0.heap.size]? = some (.map e1 c1)
  m2 : W.heap[w0.heap.size + 1]? = some (.map e2 c2)
  m3 : x = true → W.heap[w0.heap.size + 2]? = some (.map e3 c3)
  siz : W.heap.size = w0.heap.size + (if x then 3 else 2)
  bel : Below w.heap.size w W
section
variable {w w0 : World} {e1 e2 e3 : Array MapEntry} {c1 c2 c3 : Nat} {x : Bool} {W : World}
theorem KW.put1 (h : KW w w0 e1 e2 e3 c1 c2 c3 x W) (hz : w.heap.size + 1 ≤ w0.heap.size) (e : Array MapEntry) (c : Nat) : KW w w0 e e2 e3 c c2 c3 x (W.putObj w0.heap.size (.map e c)) :=
  ⟨(World.putObj_heap_other (by omega)).trans h.bx, World.putObj_heap_same (by have := h.siz; split at this <;> omega), (World.putObj_heap_other (by omega)).trans h.m2, fun hx => (World.putObj_heap_other (by omega)).trans (h.m3 hx), by simpa using h.siz, below_putObj h.bel (fun _ => trivial) (by omega) _⟩
theorem KW.put2 (h : KW w w0 e1 e2 e3 c1 c2 c3 x W) (hz : w.heap.size + 1 ≤ w0.heap.size) (e : Array MapEntry) (c : Nat) : KW w w0 e1 e e3 c1 c c3 x (W.putObj (w0.heap.size + 1) (.map e c)) :=
  ⟨(World.putObj_heap_other (by omega)).trans h.bx, (World.putObj_heap_other (by omega)).trans h.m1, World.putObj_heap_same (by have := h.siz; split at this <;> omega), fun hx => (World.putObj_heap_other (by omega)).trans (h.m3 hx), by simpa using h.siz, below_putObj h.bel (fun _ => trivial) (by omega) _⟩
theorem KW.put3 (h : KW w w0 e1 e2 e3 c1 c2 c3 true W) (hz : w.heap.size + 1 ≤ w0.heap.size) (e : Array MapEntry) (c : Nat) : KW w w0 e1 e2 e c1 c2 c true (W.putObj (w0.heap.size + 2) (.map e c)) :=
  ⟨(World.putObj_heap_other (by omega)).trans h.bx, (World.putObj_heap_other (by omega)).trans h.m1, (World.putObj_heap_other (by omega)).trans h.m2, fun _ => World.putObj_heap_same (by have := h.siz; simp at this; omega), by simpa using h.siz, below_putObj h.bel (fun _ => trivial) (by omega) _⟩
theorem KW.first (hc : w0.heap[w.heap.size]? = some (.cells #[.int .i64 1, .int .i64 8] 47 (0, 0))) (hb : Below w.heap.size w w0) (hz : w.heap.size + 1 ≤ w0.heap.size) : KW w w0 #[] #[] #[] 0 0 0 false ((w0.alloc (.map #[] 0)).alloc (.map #[] 0)) := by
  refine ⟨(heap_alloc_old _ _ (by simp; omega)).trans ((heap_alloc_old _ _ (by omega)).trans hc), (heap_alloc_old _ _ (by simp)).trans (heap_alloc_new _ _), ?_, (fun h => by cases h), (by simp), (hb.alloc (by omega) _).alloc (by simp; omega) _⟩
  have h := heap_alloc_new (w0.alloc (.map #[] 0)) (.map #[] 0)
  simpa using h
theorem KW.third (h : KW w w0 e1 e2 e3 c1 c2 c3 false W) (hz : w.heap.size + 1 ≤ w0.heap.size) : KW w w0 e1 e2 #[] c1 c2 0 true (W.alloc (.map #[] 0)) := by
  have hs : W.heap.size = w0.heap.size + 2 := by simpa using h.siz
  refine ⟨(heap_alloc_old W _ (by omega)).trans h.bx, (heap_alloc_old W _ (by omega)).trans h.m1, (heap_alloc_old W _ (by omega)).trans h.m2, fun _ => ?_, by simp [hs], h.bel.alloc h.bel.size _⟩
  rw [← hs]; exact heap_alloc_new W _
end

set_option maxRecDepth 100000 in
set_option maxHeartbeats 1000000 in
theorem kinds_at (w : World) : Calls Try.prog 9 #[] w fun e w' => ∃ m, e = .returned (.map (some m)) ∧ Kinds w' w.heap.size m ∧ Below w.heap.size w w' := by
  have hmm := @run_makeMap Try.prog
  have hu1 : Try.prog.underlying 54 = some (.map 3 53) := by kernel_rfl
  have hu2 : Try.prog.underlying 53 = some (.map 3 51) := by kernel_rfl
  have hui : Try.prog.underlying 3 = some (.int .i64) := by kernel_rfl
  have U1 := hide hu1; have U2 := hide hu2; have UI := hide hui
  clear hu1 hu2 hui
  obtain ⟨w0, hw0⟩ : ∃ w0, w.alloc (.cells #[.int .i64 1, .int .i64 8] 47) = w0 := ⟨_, rfl⟩
  have c0 : w0.heap[w.heap.size]? = some (.cells #[.int .i64 1, .int .i64 8] 47 (0, 0)) := by rw [← hw0]; exact heap_alloc_new w _
  have b0 : Below w.heap.size w w0 := by rw [← hw0]; exact bal w _
  have z0 : w.heap.size + 1 ≤ w0.heap.size := by rw [← hw0]; simp
  have K0 := hide (KW.first c0 b0 z0)
  clear c0 b0
  go_enter Try.func9, Try.ntmps9
  go_wp2_with (first
    | (refine wpList_put rfl 53 (.tmp 4) (.const (.int .i64 1)) (.tmp 5) rfl (r := w0.heap.size + 1) (deedsV 0 0 0 0 25 26) rfl rfl rfl U2.out UI.out K0.out.m2 rfl ?_
       have K1 := hide (K0.out.put2 z0 (#[].push (ent 1 (deedsV 0 0 0 0 25 26) 0)) (0 + 1))
       obtain ⟨w1, hw1⟩ : ∃ W, ((w0.alloc (.map #[] 0)).alloc (.map #[] 0)).putObj (w0.heap.size + 1) (.map (#[].push (ent 1 (deedsV 0 0 0 0 25 26) 0)) (0 + 1)) = W := ⟨_, rfl⟩
       rw [hw1] at K1
       change wpList _ _ _ _ _ (((w0.alloc (.map #[] 0)).alloc (.map #[] 0)).putObj (w0.heap.size + 1) (.map (#[].push (ent 1 (deedsV 0 0 0 0 25 26) 0)) (0 + 1)))
       rw [hw1]
       clear hw1 K0)
    | (refine wpList_put rfl 53 (.tmp 4) (.const (.int .i64 2)) (.tmp 7) rfl (r := w0.heap.size + 1) (deedsV 0 0 1 65535 25 27) rfl rfl rfl U2.out UI.out K1.out.m2 rfl ?_
       have K2 := hide (K1.out.put2 z0 ((#[].push (ent 1 (deedsV 0 0 0 0 25 26) 0)).push (ent 2 (deedsV 0 0 1 65535 25 27) (0 + 1))) ((0 + 1) + 1))
       obtain ⟨w2, hw2⟩ : ∃ W, (w1).putObj (w0.heap.size + 1) (.map ((#[].push (ent 1 (deedsV 0 0 0 0 25 26) 0)).push (ent 2 (deedsV 0 0 1 65535 25 27) (0 + 1))) ((0 + 1) + 1)) = W := ⟨_, rfl⟩
       rw [hw2] at K2
       change wpList _ _ _ _ _ ((w1).putObj (w0.heap.size + 1) (.map ((#[].push (ent 1 (deedsV 0 0 0 0 25 26) 0)).push (ent 2 (deedsV 0 0 1 65535 25 27) (0 + 1))) ((0 + 1) + 1)))
       rw [hw2]
       clear hw2 K1)
    | (refine wpList_put rfl 54 (.tmp 3) (.const (.int .i64 1)) (.tmp 8) rfl (r := w0.heap.size) (.map (some (w0.heap.size + 1))) rfl rfl rfl U1.out UI.out K2.out.m1 rfl ?_
       have K3 := hide (K2.out.put1 z0 (#[].push (ent 1 (.map (some (w0.heap.size + 1))) 0)) (0 + 1))
       obtain ⟨w3, hw3⟩ : ∃ W, (w2).putObj (w0.heap.size) (.map (#[].push (ent 1 (.map (some (w0.heap.size + 1))) 0)) (0 + 1)) = W := ⟨_, rfl⟩
       rw [hw3] at K3
       change wpList _ _ _ _ _ ((w2).putObj (w0.heap.size) (.map (#[].push (ent 1 (.map (some (w0.heap.size + 1))) 0)) (0 + 1)))
       rw [hw3]
       have x30 : (w3.alloc (.map #[] 0)).cell? ⟨w.heap.size, 0, none⟩ = some (.int .i64 1) := by rw [cell_of_row _ _ _ _ _ _ (K3.out.third z0).bx]; rfl
       have x31 : (w3.alloc (.map #[] 0)).cell? ⟨w.heap.size, 1, none⟩ = some (.int .i64 8) := by rw [cell_of_row _ _ _ _ _ _ (K3.out.third z0).bx]; rfl
       have x3 : w3.heap.size = w0.heap.size + 2 := by simpa using K3.out.siz
       clear hw3 K2)
    | (refine wpList_put rfl 53 (.tmp 9) (.const (.int .i64 1)) (.tmp 11) rfl (r := w0.heap.size + 2) (deedsV 1 8 0 0 28 29) rfl rfl rfl U2.out UI.out ((K3.out.third z0).m3 rfl) rfl ?_
       have K4 := hide ((K3.out.third z0).put3 z0 (#[].push (ent 1 (deedsV 1 8 0 0 28 29) 0)) (0 + 1))
       obtain ⟨w4, hw4⟩ : ∃ W, (w3.alloc (.map #[] 0)).putObj (w0.heap.size + 2) (.map (#[].push (ent 1 (deedsV 1 8 0 0 28 29) 0)) (0 + 1)) = W := ⟨_, rfl⟩
       rw [hw4] at K4
       change wpList _ _ _ _ _ ((w3.alloc (.map #[] 0)).putObj (w0.heap.size + 2) (.map (#[].push (ent 1 (deedsV 1 8 0 0 28 29) 0)) (0 + 1)))
       rw [hw4]
       have x40 : w4.cell? ⟨w.heap.size, 0, none⟩ = some (.int .i64 1) := by rw [cell_of_row _ _ _ _ _ _ K4.out.bx]; rfl
       have x41 : w4.cell? ⟨w.heap.size, 1, none⟩ = some (.int .i64 8) := by rw [cell_of_row _ _ _ _ _ _ K4.out.bx]; rfl
       clear hw4 K3)
    | (refine wpList_put rfl 53 (.tmp 9) (.const (.int .i64 2)) (.tmp 13) rfl (r := w0.heap.size + 2) (deedsV 1 8 0 0 30 31) rfl rfl rfl U2.out UI.out (K4.out.m3 rfl) rfl ?_
       have K5 := hide (K4.out.put3 z0 ((#[].push (ent 1 (deedsV 1 8 0 0 28 29) 0)).push (ent 2 (deedsV 1 8 0 0 30 31) (0 + 1))) ((0 + 1) + 1))
       obtain ⟨w5, hw5⟩ : ∃ W, (w4).putObj (w0.heap.size + 2) (.map ((#[].push (ent 1 (deedsV 1 8 0 0 28 29) 0)).push (ent 2 (deedsV 1 8 0 0 30 31) (0 + 1))) ((0 + 1) + 1)) = W := ⟨_, rfl⟩
       rw [hw5] at K5
       change wpList _ _ _ _ _ ((w4).putObj (w0.heap.size + 2) (.map ((#[].push (ent 1 (deedsV 1 8 0 0 28 29) 0)).push (ent 2 (deedsV 1 8 0 0 30 31) (0 + 1))) ((0 + 1) + 1)))
       rw [hw5]
       clear hw5 K4)
    | (refine wpList_put rfl 54 (.tmp 3) (.const (.int .i64 2)) (.tmp 14) rfl (r := w0.heap.size) (.map (some (w0.heap.size + 2))) rfl rfl rfl U1.out UI.out K5.out.m1 rfl ?_
       have K6 := hide (K5.out.put1 z0 ((#[].push (ent 1 (.map (some (w0.heap.size + 1))) 0)).push (ent 2 (.map (some (w0.heap.size + 2))) (0 + 1))) ((0 + 1) + 1))
       obtain ⟨w6, hw6⟩ : ∃ W, (w5).putObj (w0.heap.size) (.map ((#[].push (ent 1 (.map (some (w0.heap.size + 1))) 0)).push (ent 2 (.map (some (w0.heap.size + 2))) (0 + 1))) ((0 + 1) + 1)) = W := ⟨_, rfl⟩
       rw [hw6] at K6
       change wpList _ _ _ _ _ ((w5).putObj (w0.heap.size) (.map ((#[].push (ent 1 (.map (some (w0.heap.size + 1))) 0)).push (ent 2 (.map (some (w0.heap.size + 2))) (0 + 1))) ((0 + 1) + 1)))
       rw [hw6]
       clear hw6 K5))
  go_ret
  exact ⟨w0.heap.size, rfl, ⟨w0.heap.size + 1, w0.heap.size + 2, by omega, K6.out.m1, K6.out.m2, K6.out.m3 rfl⟩, K6.out.bel⟩

/-- what is found in a map of two -/
def pick (z : Int) (a b c : Value) : Value := if z = 1 then a else if z = 2 then b else c
theorem run_look {W : World} {mty kt et : TypeId} {r clock b1 b2 : Nat} {a b c : Value} (z : Int) (ok : Bool) (hm : Try.prog.underlying mty = some (.map kt et)) (hk : Try.prog.underlying kt = some (.int .i64)) (hb : W.heap[r]? = some (.map #[ent 1 a b1, ent 2 b b2] clock))
    (hz : (zeroValue et).run Try.prog W = .ok c W) :
    (Instr.lookup mty (.map (some r)) (.int .i64 z) ok).run Try.prog W = .ok (if ok then .tuple #[pick z a b c, .bool (decide (z = 1 ∨ z = 2))] else pick z a b c) W := by
  have hc : ∀ e, (Instr.checkKey e 10000 kt (.int .i64 z)).run Try.prog W = .ok () W := fun e => MapKept.run_checkKey (k := .int .i64 z) hk (by simp [MapKept.IsKey]) e 9999
  have hf : Instr.findNow (.int .i64) (.int .i64 z) (#[ent 1 a b1, ent 2 b b2] : Array MapEntry).toList 0 = some (if z = 1 then some (0, a) else if z = 2 then some (1, b) else none) := by
    by_cases h1 : z = 1
    · subst h1; rfl
    · by_cases h2 : z = 2
      · subst h2; rfl
      · have e1 : (z == 1) = false := by simpa using h1
        have e2 : (z == 2) = false := by simpa using h2
        simp [Instr.findNow, Instr.sameNow, ent, h1, h2, e1, e2]
  by_cases h1 : z = 1
  · subst h1
    cases ok <;> simp [Instr.lookup, run_underlying hm, MapKept.run_getObj_map hb, hc, MapKept.run_findKey hk hf, Result.andThen, pick]
  · by_cases h2 : z = 2
    · subst h2
      cases ok <;> simp [Instr.lookup, run_underlying hm, MapKept.run_getObj_map hb, hc, MapKept.run_findKey hk hf, Result.andThen, pick]
    · cases ok <;> simp [Instr.lookup, run_underlying hm, MapKept.run_getObj_map hb, hc, MapKept.run_findKey hk hf, Result.andThen, pick, h1, h2, hz]
theorem run_look_none {W : World} {mty kt et : TypeId} {c : Value} (z : Int) (hm : Try.prog.underlying mty = some (.map kt et)) (hk : Try.prog.underlying kt = some (.int .i64)) (hz : (zeroValue et).run Try.prog W = .ok c W) :
    (Instr.lookup mty (.map none) (.int .i64 z) true).run Try.prog W = .ok (.tuple #[c, .bool false]) W := by
  have hc : ∀ e, (Instr.checkKey e 10000 kt (.int .i64 z)).run Try.prog W = .ok () W := fun e => MapKept.run_checkKey (k := .int .i64 z) hk (by simp [MapKept.IsKey]) e 9999
  have hf : Instr.findNow (.int .i64) (.int .i64 z) ([] : List MapEntry) 0 = some none := rfl
  simp [Instr.lookup, run_underlying hm, hc, MapKept.run_findKey hk hf, Result.andThen, hz]
end Go.Proofs.Ytdimllmbalponaa
