/-
  The door's own examples: true, whatever is drawn, in each memory that meets the row's condition.
-/
import Derived.Test.YtmckidepbibpgaaGreatDoorEvE
import Derived.Test.YtmckidepbibpgaaGreatDoorOrcC
import Derived.Test.YtmckidepbibpgaaGreatDoorOrcM
import Derived.Test.YtmckidepbibpgaaGreatDoorRows
import Derived.KernelRfl
import Derived.ProofKit
import Derived.LaidMore
import Derived.OpenShut
import Derived.Stop.Joined
namespace Go.Proofs.YtmckidepbibpgaaGreatDoor
open Go.Proofs.YtmckidepbibpgaaGreatDoor.Ev Go.RowKit
set_option linter.unusedVariables false

def ints (l : List Int) : List AV := l.map (.i .i64)
def cells0 : List AV := ints [0, 0, 0, 0, 1, 8]
def cells1 : List AV := ints [0, 0, 0, 0, 0, 0, 0, 0, 0, 0, 1, 65535, 0, 0, 0, 0, 0, 0]
def cells2 : List AV := ([0, 1, 28, 2, 29, 14, 24, 3, 30, 22, 20, 15, 25, 17, 4, 8, 31, 27, 13, 23, 21, 19, 16, 7, 26, 12, 18, 6, 11, 5, 10, 9] : List Int).map (.i .u8)
def known : List (Nat × List AV) := [(0, cells0), (1, cells1), (2, cells2)]

theorem flat_bounds {H : Type} {enc : TypeId × Value → H} {W : World} {sp : Nat → Bool} {held : Bool} : Flat enc Tryz.prog W 0 sp held 316 :=
  flat_pair' (a := 3) (b := 3) Tryz.underlying316 (by kernel_rfl) (by kernel_rfl) (flat_int Tryz.underlying3) (flat_int Tryz.underlying3)
theorem flat_depth {H : Type} {enc : TypeId × Value → H} {W : World} {sp : Nat → Bool} {held : Bool} : Flat enc Tryz.prog W 0 sp held 348 :=
  flat_array (n := 3) (e := 316) (by kernel_rfl) (by kernel_rfl) flat_bounds
theorem flat_fresh {H : Type} {enc : TypeId × Value → H} {W : World} {sp : Nat → Bool} {held : Bool} : Flat enc Tryz.prog W 0 sp held 349 :=
  flat_array (n := 3) (e := 348) (by kernel_rfl) (by kernel_rfl) flat_depth

theorem flat_bruijn {H : Type} {enc : TypeId × Value → H} {W : World} {sp : Nat → Bool} {held : Bool} : Flat enc Tryz.prog W 0 sp held 381 :=
  flat_array (n := 32) (e := 5) (by kernel_rfl) (by kernel_rfl) (flat_int Tryz.underlying5)

def listed : List (String × DataW Unit) := [("math/bits.deBruijn32tab", Rows.laid_math_bits_deBruijn32tab), ("rota/config.depthOf", Rows.laid_rota_config_depthOf), ("rota/config.freshOf", Rows.laid_rota_config_freshOf)]

theorem known_of {W : World} (h : laidMetH Tryz.prog listed W) : GOk known W := by
  have h : laidMet Tryz.prog listed W := h
  obtain ⟨ps, ⟨g2, t2, cs2, fuel2, p2, q2, hg2, ht2, hvar2, hd2, ⟨g, t, cs, fuel, p, q, hg, ht, hvar, hd, ⟨g', t', cs', fuel', p', q', hg', ht', hvar', hd', _, _⟩, _⟩, _⟩, _⟩ := h
  obtain rfl := Option.some.inj ((show Tryz.prog.globalNamed "math/bits.deBruijn32tab" = some 2 by kernel_rfl).symm.trans hg2)
  obtain rfl := Option.some.inj ((show Tryz.prog.globalNamed "rota/config.depthOf" = some 0 by kernel_rfl).symm.trans hg)
  obtain rfl := Option.some.inj ((show Tryz.prog.globalNamed "rota/config.freshOf" = some 1 by kernel_rfl).symm.trans hg')
  obtain rfl := Option.some.inj ((show (Tryz.prog.globals[2]?).map (·.type) = some 381 by kernel_rfl).symm.trans ht2)
  obtain rfl := Option.some.inj ((show (Tryz.prog.globals[0]?).map (·.type) = some 348 by kernel_rfl).symm.trans ht)
  obtain rfl := Option.some.inj ((show (Tryz.prog.globals[1]?).map (·.type) = some 349 by kernel_rfl).symm.trans ht')
  refine gok_cons (gok_one hg hvar ?_) (gok_cons (gok_one hg' hvar' ?_) (gok_cons (gok_one hg2 hvar2 ?_) gok_nil))
  · rw [flat_depth _ _ _ hd]; kernel_rfl
  · rw [flat_fresh _ _ _ hd']; kernel_rfl
  · rw [flat_bruijn _ _ _ hd2]; kernel_rfl

/-- the door's own heap meets the condition -/
theorem door_met (os : Os) (args : Array Value) : laidMetH Tryz.prog listed ((World.doorLaid Tryz.prog 400 os).forCall (fun _ _ => 0) ⟨#[], args, []⟩).memory :=
  laidMetH_of_parts3 (fuel := 8) (laidMet_of_run' 8 (by kernel_rfl) (by kernel_rfl)) (by kernel_rfl) (by kernel_rfl)

theorem glo_of {W : World} (hG : GOk known W) : Glo W where
  lt := (hG 1 cells1 rfl).1
  d k z hz := by
    obtain ⟨x, h1, h2⟩ := (hG 0 cells0 rfl).2 k (.i .i64 z) (by simp only [cells0, ints, List.getElem?_map, hz]; rfl)
    cases h1
    exact h2
  f k z hz := by
    obtain ⟨x, h1, h2⟩ := (hG 1 cells1 rfl).2 k (.i .i64 z) (by simp only [cells1, ints, List.getElem?_map, hz]; rfl)
    cases h1
    exact h2

theorem gok_below {G : List (Nat × List AV)} {W W' : World} (h : GOk G W) (hb : Below W.heap.size W W') : GOk G W' := fun g cs hg =>
  ⟨Nat.lt_of_lt_of_le (h g cs hg).1 hb.size, fun j v hv => let ⟨x, h1, h2⟩ := (h g cs hg).2 j v hv; ⟨x, h1, (hb.cell (p := ⟨g, j, none⟩) (h g cs hg).1).trans h2⟩⟩

/-- what the run is told: config.Check, what a member does, eight steps of a sum -/
noncomputable def orc : Orc := fun f args σ =>
  match Nat.beq f 38 with
  | true => checkO args σ
  | false => match Nat.beq f 152 with
    | true => conductO args σ
    | false => match Nat.beq f 215 with
      | true => eightO args σ
      | false => none
theorem orc_ok {W : World} (hG : GOk known W) : OrcOk Tryz.prog W orc := by
  intro θ σ w f args v σ' hR hV h
  unfold orc at h
  split at h
  · rename_i hf
    obtain rfl := Nat.eq_of_beq_eq_true hf
    exact checkO_ok (fun w hb => (glo_of hG).below hb (Nat.le_refl _)) θ σ w args v σ' hR hV h
  · split at h
    · rename_i hf
      obtain rfl := Nat.eq_of_beq_eq_true hf
      exact conductO_ok hR hV h
    · split at h
      · rename_i hf
        obtain rfl := Nat.eq_of_beq_eq_true hf
        exact eightO_ok hR hV h
      · cases h
end Go.Proofs.YtmckidepbibpgaaGreatDoor
