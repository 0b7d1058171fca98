/-
  The bytes of a state: what stateBytes answers, for any slot and members.
-/
import Derived.Test.YtihldmcakcobaaaRow
import Derived.Deep.WholeRow
namespace Go.Proofs.Ytihldmcakcobaaa
open Go.RowKit
set_option linter.unusedVariables false

/-- bytes as cells -/
def bys (l : List Nat) : Array Value := (l.map fun c : Nat => Value.int .u8 (c : Int)).toArray
theorem bys_size (l : List Nat) : (bys l).size = l.length := by simp [bys]
theorem bys_get (l : List Nat) (i : Nat) (h : i < l.length) : (bys l)[i]? = some (.int .u8 ((l.getD i 0 : Nat) : Int)) := by
  simp [bys, List.getElem?_eq_getElem h]
theorem bys_one (l : List Nat) : (bys l).all (·.oneCell') = true := by
  rw [Array.all_eq_true]
  intro i hi
  simp [bys, Value.oneCell']

/-- a state's bytes -/
def st (z m : Int) : List Nat := [(z / 16777216 % 256).toNat, (z / 65536 % 256).toNat, (z / 256 % 256).toNat, (z % 256).toNat, (m / 256).toNat, (m % 256).toNat]
theorem st_len (z m : Int) : (st z m).length = 6 := rfl
theorem st_lt (z m : Int) (h0 : 0 ≤ m) (h1 : m ≤ 65535) : ∀ c ∈ st z m, c < 256 := by
  intro c hc
  simp only [st, List.mem_cons, List.not_mem_nil, or_false] at hc
  omega
theorem st_cells (z m : Int) (h0 : 0 ≤ m) : bys (st z m) =
    #[.int .u8 (z / 16777216 % 256), .int .u8 (z / 65536 % 256), .int .u8 (z / 256 % 256), .int .u8 (z % 256), .int .u8 (m / 256), .int .u8 (m % 256)] := by
  have e : ∀ a : Int, 0 ≤ a → (a.toNat : Int) = a := fun a h => Int.toNat_of_nonneg h
  simp only [bys, st, List.map_cons, List.map_nil]
  rw [e _ (by omega), e _ (by omega), e _ (by omega), e _ (by omega), e _ (by omega), e _ (by omega)]

set_option maxHeartbeats 400000 in
theorem state_any (z m : Int) (w : World) (hz : (Lit.int .i64 z).wf = true) (hm : (Lit.int .u16 m).wf = true) :
    Calls Try.prog 24 #[.agg #[.int .i64 z, .int .u16 m]] w fun e w' => e = .returned (.agg (bys (st z m))) ∧ Below w.heap.size w w' := by
  have hb := bounds_u16 hm
  have hb2 := bounds_i64 hz
  rw [st_cells z m hb.1]
  go_enter Try.func24, Try.ntmps24
  go_wp2
  refine bodyPost_ret (v := .agg #[.int .u8 (z / 16777216 % 256), .int .u8 (z / 65536 % 256), .int .u8 (z / 256 % 256), .int .u8 (z % 256), .int .u8 (m / 256), .int .u8 (m % 256)]) (by simp [results, Try.results24, go_sem]) rfl ⟨rfl, ?_⟩
  exact ((Below.refl _ _).alloc (Nat.le_refl _) _).alloc (by simp) _
end Go.Proofs.Ytihldmcakcobaaa
