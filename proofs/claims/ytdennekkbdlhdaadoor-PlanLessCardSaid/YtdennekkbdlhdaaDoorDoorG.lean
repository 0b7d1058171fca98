/-
  A package variable that reads as a datum of integers holds just these; so the two tables stand.
-/
import Derived.Test.YtdennekkbdlhdaaDoorMC
import Derived.Test.YtdennekkbdlhdaaDoorRows
import Derived.KernelRfl
import Derived.ProofKit
import Derived.LaidMore
import Derived.OpenShut
import Derived.Stop.Joined
import Derived.ChangeArms
import Derived.LaidLaws
namespace Go.Proofs.YtdennekkbdlhdaaDoor
open Go.RowKit Go.WideShapes Go.ChangeShapes
set_option linter.unusedVariables false
set_option linter.unusedSimpArgs false

mutual
def flatD {H : Type} : DataW H → List Value
  | .lit (.int k n) => [.int k n]
  | .agg ps => flatAll ps
  | _ => []
def flatAll {H : Type} : List (DataW H) → List Value
  | [] => []
  | d :: l => flatD d ++ flatAll l
end

section
variable {H : Type} {enc : TypeId × Value → H} {P : Program} {W : World} {base : Nat} {sp : Nat → Bool} {held : Bool}

/-- what is read at type t is the datum's own numbers -/
def Flat (enc : TypeId × Value → H) (P : Program) (W : World) (base : Nat) (sp : Nat → Bool) (held : Bool) (t : TypeId) : Prop :=
  ∀ fuel cs x, DataW.trod enc P W base sp held fuel t cs = some x → cs = flatD x.1

theorem flat_int {t : TypeId} {k : IntKind} (ht : P.underlying t = some (.int k)) : Flat enc P W base sp held t := fun fuel cs x h => by
  obtain ⟨n, rfl, rfl, _⟩ := DataW.trod_int ht h
  simp [flatD]

theorem chunks {c : Nat} : ∀ (xs : List (DataW H × List MemPlace)) (cs : List Value), cs.length = xs.length * c → (∀ i y, xs[i]? = some y → (cs.drop (i * c)).take c = flatD y.1) → cs = flatAll (xs.map (·.1))
  | [], cs, hl, _ => by simpa [flatAll] using hl
  | y :: xs, cs, hl, h => by
    have h0 := h 0 y rfl
    simp only [Nat.zero_mul, List.drop_zero] at h0
    have := chunks (c := c) xs (cs.drop c) (by simp [hl, Nat.succ_mul]) (fun i z hz => by
      have := h (i + 1) z (by simpa using hz)
      rw [List.drop_drop]
      rw [← this]
      congr 2
      rw [Nat.succ_mul]; omega)
    simp only [List.map_cons, flatAll, ← this, ← h0, List.take_append_drop]

theorem flat_array {t e : TypeId} {n : Nat} (ht : P.underlying t = some (.array n e)) (hc : P.cellsOf t = n * P.cellsOf e) (he : Flat enc P W base sp held e) : Flat enc P W base sp held t := fun fuel cs x h => by
  obtain ⟨xs, m, rfl, rfl, hl, hn, hel⟩ := DataW.trod_array ht h
  simp only [flatD]
  refine chunks (c := P.cellsOf e) xs cs (by rw [hl, hc, hn]) fun i y hy => ?_
  have hi : i < n := by
    have := (List.getElem?_eq_some_iff.1 hy).1
    omega
  exact he m _ y ((hel i hi).trans hy)

theorem flat_pair {t : TypeId} {fs : Array Field} {f0 f1 : Field} (ht : P.underlying t = some (.struct fs)) (hf : fs.toList = [f0, f1]) (h0 : f0.offset = 0) (h1 : f1.offset = P.cellsOf f0.type) (hc : P.cellsOf t = P.cellsOf f0.type + P.cellsOf f1.type)
    (a : Flat enc P W base sp held f0.type) (b : Flat enc P W base sp held f1.type) : Flat enc P W base sp held t := fun fuel cs x h => by
  cases fuel with
  | zero => simp [DataW.trod] at h
  | succ m =>
    unfold DataW.trod at h
    rw [ht] at h
    simp only at h
    split at h
    · rename_i hl
      rw [hf] at h
      obtain ⟨xs, hm, rfl⟩ := Option.map_eq_some_iff.1 h
      simp only [List.mapM_cons, List.mapM_nil, Option.bind_eq_bind, Option.bind_eq_some_iff, Option.pure_def, Option.some.injEq] at hm
      obtain ⟨y0, q0, z, ⟨y1, q1, z2, rfl, rfl⟩, rfl⟩ := hm
      have r0 := a m _ y0 q0
      have r1 := b m _ y1 q1
      rw [h0, List.drop_zero] at r0
      rw [h1] at r1
      simp only [List.map_cons, List.map_nil, flatD, flatAll, List.append_nil, ← r0, ← r1]
      rw [List.take_of_length_le (l := cs.drop _) (by rw [List.length_drop]; omega), List.take_append_drop]
    · cases h
end

theorem flat_pair' {H : Type} {enc : TypeId × Value → H} {P : Program} {W : World} {base : Nat} {sp : Nat → Bool} {held : Bool} {t a b : TypeId} {fs : Array Field} (ht : P.underlying t = some (.struct fs)) (hf : fs.toList.map (fun f => (f.type, f.offset)) = [(a, 0), (b, P.cellsOf a)])
    (hc : P.cellsOf t = P.cellsOf a + P.cellsOf b) (ha : Flat enc P W base sp held a) (hb : Flat enc P W base sp held b) : Flat enc P W base sp held t := by
  obtain ⟨f0, l, hl, e0, h1⟩ := List.map_eq_cons_iff.1 hf
  obtain ⟨f1, l', rfl, e1, h2⟩ := List.map_eq_cons_iff.1 h1
  obtain rfl := List.map_eq_nil_iff.1 h2
  simp only [Prod.mk.injEq] at e0 e1
  obtain ⟨rfl, e0⟩ := e0
  obtain ⟨rfl, e1⟩ := e1
  exact flat_pair ht hl e0 e1 hc ha hb

theorem cell_one {P : Program} {W : World} {n : String} {cs : Array Value} {g : Nat} {l : List Value} (hg : P.globalNamed n = some g) (hvar : W.var? P n = some cs) (h : cs.toList = l) :
    g < W.heap.size ∧ ∀ j v, l[j]? = some v → W.cell? ⟨g, j, none⟩ = some v := by
  refine ⟨?_, fun j v hv => ?_⟩
  · simp only [World.var?, hg, Option.bind_some] at hvar
    split at hvar
    · rename_i hh; exact (Array.getElem?_eq_some_iff.1 hh).1
    · cases hvar
  · rw [World.var?_cell hg hvar j, ← Array.getElem?_toList, h]
    exact hv
theorem flat_bounds {H : Type} {enc : TypeId × Value → H} {W : World} {sp : Nat → Bool} {held : Bool} : Flat enc Tryd.prog W 0 sp held 94 :=
  flat_pair' (a := 3) (b := 3) Tryd.underlying94 (by kernel_rfl) (by kernel_rfl) (flat_int Tryd.underlying3) (flat_int Tryd.underlying3)
theorem flat_depth {H : Type} {enc : TypeId × Value → H} {W : World} {sp : Nat → Bool} {held : Bool} : Flat enc Tryd.prog W 0 sp held 109 :=
  flat_array (n := 3) (e := 94) (by kernel_rfl) (by kernel_rfl) flat_bounds
theorem flat_fresh {H : Type} {enc : TypeId × Value → H} {W : World} {sp : Nat → Bool} {held : Bool} : Flat enc Tryd.prog W 0 sp held 110 :=
  flat_array (n := 3) (e := 109) (by kernel_rfl) (by kernel_rfl) flat_depth

def listed : List (String × DataW Unit) := [("rota/config.depthOf", Rows.laid_rota_config_depthOf), ("rota/config.freshOf", Rows.laid_rota_config_freshOf)]

theorem known_of {W : World} (h : laidMetH Tryd.prog listed W) : Glo W := by
  have h : laidMet Tryd.prog listed W := h
  obtain ⟨ps, ⟨g, t, cs, fuel, p, q, hg, ht, hvar, hd, ⟨g', t', cs', fuel', p', q', hg', ht', hvar', hd', _, _⟩, _⟩, _⟩ := h
  obtain rfl := Option.some.inj ((show Tryd.prog.globalNamed "rota/config.depthOf" = some 0 by kernel_rfl).symm.trans hg)
  obtain rfl := Option.some.inj ((show Tryd.prog.globalNamed "rota/config.freshOf" = some 1 by kernel_rfl).symm.trans hg')
  obtain rfl := Option.some.inj ((show (Tryd.prog.globals[0]?).map (·.type) = some 109 by kernel_rfl).symm.trans ht)
  obtain rfl := Option.some.inj ((show (Tryd.prog.globals[1]?).map (·.type) = some 110 by kernel_rfl).symm.trans ht')
  obtain ⟨a1, a2⟩ := cell_one (l := ([0, 0, 0, 0, 1, 8] : List Int).map (Value.int .i64)) hg hvar (by rw [flat_depth _ _ _ hd]; kernel_rfl)
  obtain ⟨b1, b2⟩ := cell_one (l := ([0, 0, 0, 0, 0, 0, 0, 0, 0, 0, 1, 65535, 0, 0, 0, 0, 0, 0] : List Int).map (Value.int .i64)) hg' hvar' (by rw [flat_fresh _ _ _ hd']; kernel_rfl)
  exact ⟨b1, fun k z hz => a2 k _ (by rw [List.getElem?_map, hz]; rfl), fun k z hz => b2 k _ (by rw [List.getElem?_map, hz]; rfl)⟩

/-- the door's own heap meets the condition -/
theorem door_met (os : Os) (args : Array Value) : laidMetH Tryd.prog listed ((World.doorLaid Tryd.prog 400 os).forCall (fun _ _ => 0) ⟨#[], args, []⟩).memory :=
  laidMetH_of_parts3 (fuel := 8) (laidMet_of_run' 8 (by kernel_rfl) (by kernel_rfl)) (by kernel_rfl) (by kernel_rfl)

end Go.Proofs.YtdennekkbdlhdaaDoor
