/-
  Bytes as strings, and a struct that is built, or stored whole in a new block: steps of a walk.
-/
import Derived.Test.YtihldmcakcobaaaEq
import Derived.Laws.BytesArg
namespace Go.Proofs.Ytihldmcakcobaaa
open Go.RowKit
set_option linter.unusedVariables false

/-- bytes as a string -/
def str (l : List Nat) : ByteArray := strOfNums (l.map fun c : Nat => (c : Int))
theorem str_of (w : World) (A : Option Addr) (n cap : Nat) (l : List Nat) (hB : Bytes w A l) (hn : l.length = n) :
    (convert 28 9 (.slice A n cap)).run Try.prog w = .ok (.string (str l)) w := by
  subst hn
  rcases hB.2 with rfl | ⟨b, off, rfl, _, hc⟩
  · show (convert 28 9 (.slice A 0 cap)).run Try.prog w = _
    rcases A with _ | ad
    · exact run_convert_bytes_nil (P := Try.prog) w 28 5 Try.underlying28 Try.underlying5 0 cap 9 Try.underlying9
    · rw [run_convert_bytes_string w 28 9 5 _ 0 cap Try.underlying28 Try.underlying5 Try.underlying9,
        run_bytesToString w ad 0 cap [] (by simp [loadCells, loadCellsFrom])]
      rfl
  · exact run_convert_bytes_arg (P := Try.prog) w 28 5 Try.underlying28 Try.underlying5 b off _ cap (l.map fun c : Nat => (c : Int)) (by simp) (fun i hi => by
      rw [hc i hi]
      simp [List.getD_eq_getElem?_getD, hi]) 9 Try.underlying9

theorem str_list (l : List Nat) : (str l).toList = l.map UInt8.ofNat := by
  unfold str strOfNums
  simp [ByteArray.toList_eq]
theorem str_eq {p q : List Nat} (h : ∀ c ∈ p, c < 256) (h' : ∀ c ∈ q, c < 256) : ((str p).toList == (str q).toList) = decide (p = q) := by
  rw [str_list, str_list, u8_inj h h']

/-- a new block that holds a whole frame -/
theorem new_row (w : World) (F : Array Value) : Below w.heap.size w ((w.alloc (.cells fr0 27)).setRow w.heap.size F) ∧
    ((w.alloc (.cells fr0 27)).setRow w.heap.size F).heap[w.heap.size]? = some (.cells F 27 (0, 0)) ∧ ((w.alloc (.cells fr0 27)).setRow w.heap.size F).heap.size = w.heap.size + 1 :=
  ⟨below_setRow (bal w _) (Nat.le_refl _) _, setRow_heap _ _ _ _ _ _ (heap_alloc_new w _), by simp⟩
theorem wpList_built {P : Program} {ops : Array Oper} {rest : List Oper} {o : Oper} {a : Act} {w : World} {Q : Exit → Act → World → Prop} (hg : o.guard = none) (t : TypeId) (parts : Array (Nat × Operand)) (ho : o.op = .build t parts)
    (cells : Array Value) (hb : P.built t (parts.map fun (i, x) => (i, a.eval x)).toList = some cells)
    (h : wpList P ops Q rest (a.put o.dst (.agg cells)) w) : wpList P ops Q (o :: rest) a w :=
  wpList_build hg t parts ho (by rw [hb]; rfl) (by rw [hb]; exact h)
/-- a whole frame loaded, by an operation that is guarded -/
theorem wpList_load_g {ops : Array Oper} {rest : List Oper} {o : Oper} {a : Act} {w : World} {Q : Exit → Act → World → Prop} (hw : Region.wanted o (yielded ops a.tmps) = true) (x : Operand) (ho : o.op = .load 27 x)
    (g : Nat) (hx : a.eval x = .pointer (some ⟨g, 0, none⟩)) (cs : Array Value) (hg : w.heap[g]? = some (.cells cs 27 (0, 0))) (hs : cs.size = 67)
    (h : wpList Try.prog ops Q rest (a.put o.dst (.agg cs)) w) : wpList Try.prog ops Q (o :: rest) a w :=
  wpList_step fun K hK => by
    rw [if_pos hw]
    exact wp_load_row _ x ho g hx _ cs _ _ hg Try.underlying27 rfl (fr_info hs) (hK _ _ h)
end Go.Proofs.Ytihldmcakcobaaa
