/-
  A region that draws: each operation's value known ahead, and at the end one store.
-/
import Derived.Test.YtdennekkbdlhdaaDoorFcE
namespace Go.Proofs.YtdennekkbdlhdaaDoor
open Go.RowKit Go.Shelf
set_option linter.unusedVariables false

theorem wp_cut2 {c : Code} {Q : Exit → Act → World → Prop} {a : Act} {w : World} (I : Act → World → Prop) (h1 : c.wp Tryd.prog (fun e a w => e = .normal ∧ I a w) a w) (h2 : ∀ a w, I a w → Q .normal a w) : c.wp Tryd.prog Q a w :=
  wp_mono h1 fun e a w ⟨he, hI⟩ => by subst he; exact h2 a w hI
section
variable {ops : Array Oper} {Q : Exit → Act → World → Prop}
def sF (n : Nat) (Vs : List Value) (W5 : World) (ad : Addr) (v : Value) (j : Nat) (vals : Nat → Value) (W : World) : Prop :=
  (∀ x, Vs[j]? = some x → vals j = x) ∧ (j = n → ∃ W1, Below W5.heap.size W5 W1 ∧ W = W1.setCell ad v) ∧ (j = n + 1 → Below W5.heap.size W5 W)
def sT (n j : Nat) : Nat := if j = n + 1 then n else 1000
def sM (n j : Nat) : List Nat := if n ≤ j then [] else [j]
theorem wp_vals_store {id : Nat} {a : Act} {w : World} (Vs : List Value) (ad : Addr) (v : Value) (hVs : ops.size = Vs.length + 1) (hm : Tryd.prog.follows .mixedOrders = true) (hp : plainB .any ops = true) (hz : ops.size ≤ 1000)
    (hs : AllFrom (StepW Tryd.prog .any ops Q a (fun _ => True) (sF Vs.length Vs w.drew ad v) (sT Vs.length)) 0 ops.toList)
    (he : ∀ vals W W1, Below w.heap.size w.drew W1 → W = W1.setCell ad v → (∀ j x, Vs[j]? = some x → vals j = x) → Q .normal (canon ops (Array.replicate ops.size true) vals a ops.size) W) : (Code.region id ops true).wp Tryd.prog Q a w := by
  refine wp_region_factsW (fun _ => True) (sF Vs.length Vs w.drew ad v) (sT Vs.length) (sM Vs.length) (fun j hj => if_pos (by omega)) (fun j k hk hne => ?_) (fun j vals vals' W h hF => ?_) hm hp trivial (fun j hj => ?_) hs fun vals W _ hF => ?_
  · unfold sM at hk
    split at hk
    · cases hk
    · exact absurd (List.mem_singleton.1 hk) hne
  · refine ⟨fun x hx => ?_, hF.2.1, hF.2.2⟩
    have hj : j < Vs.length := (List.getElem?_eq_some_iff.1 hx).1
    have := h j (by unfold sM; rw [if_neg (by omega)]; exact List.mem_singleton_self _)
    rw [← this]; exact hF.1 x hx
  · exact ⟨fun x hx => (by rw [List.getElem?_eq_none (by omega)] at hx; cases hx), fun e => absurd e (by omega), fun _ => Below.refl _ _⟩
  · obtain ⟨W1, h1, h2⟩ := (hF Vs.length (by omega) (by unfold sT; rw [if_neg (by omega)]; omega)).2.1 rfl
    exact he vals W W1 h1 h2 fun j x hx => (hF j (by have := (List.getElem?_eq_some_iff.1 hx).1; omega) (by have := (List.getElem?_eq_some_iff.1 hx).1; unfold sT; rw [if_neg (by omega)]; omega)).1 x hx
variable {n : Nat} {Vs : List Value} {W5 : World} {ad : Addr} {v : Value} {C : World → Prop} {l : Array Bool} {vals : Nat → Value} {W : World}
theorem sv_at (hI : InvW .any ops C (sF n Vs W5 ad v) (sT n) l vals W) (hz : ops.size ≤ 1000) (hn : ops.size = n + 1) {j : Nat} {x : Value} (hj : l.getD j false = true) (hv : Vs[j]? = some x) (hjn : j ≤ n) : vals j = x :=
  (hI.fact j (.inr hj) (by unfold sT; rw [if_neg (by omega)]; exact neverW hI hz)).1 x hv
theorem sb_at (hI : InvW .any ops C (sF n Vs W5 ad v) (sT n) l vals W) (hn : ops.size = n + 1) (h : l.getD n false = false) : Below W5.heap.size W5 W :=
  (hI.fact (n + 1) (.inl (by omega)) (by unfold sT; rw [if_pos rfl]; exact h)).2.2 rfl
theorem sF_val {i : Nat} {x : Value} (h : Vs[i]? = some x) (hi : i < n) : sF n Vs W5 ad v i (upd vals i x) W :=
  ⟨fun y hy => (by rw [h] at hy; cases hy; simp [upd]), fun e => absurd e (by omega), fun e => absurd e (by omega)⟩
theorem sF_end {x : Value} {W1 : World} (h : Vs.length = n) (hb : Below W5.heap.size W5 W1) : sF n Vs W5 ad v n (upd vals n x) (W1.setCell ad v) :=
  ⟨fun y hy => (by rw [List.getElem?_eq_none (by omega)] at hy; cases hy), fun _ => ⟨W1, hb, rfl⟩, fun e => absurd e (by omega)⟩
/-- what only makes memory keeps what there is -/
theorem sF_keep {i : Nat} {W' : World} (hI : InvW .any ops C (sF n Vs W5 ad v) (sT n) l vals W) (hn : ops.size = n + 1) (h : l.getD n false = false) (hb : Below W5.heap.size W5 W') : ∀ j, j ≠ i → sT n j ≠ i → (ops.size ≤ j ∨ l.getD j false = true) → l.getD (sT n j) false = false → sF n Vs W5 ad v j vals W' := fun j _ _ hd hT => by
  have hf := hI.fact j hd hT
  refine ⟨hf.1, fun e => ?_, fun _ => hb⟩
  subst e
  rcases hd with hd | hd
  · omega
  · rw [h] at hd; cases hd
/-- behind the store -/
theorem sF_last {W' : World} (hI : InvW .any ops C (sF n Vs W5 ad v) (sT n) l vals W) (hn : ops.size = n + 1) : ∀ j, j ≠ n → sT n j ≠ n → (ops.size ≤ j ∨ l.getD j false = true) → l.getD (sT n j) false = false → sF n Vs W5 ad v j vals W' := fun j hj hT hd hT2 => by
  have hf := hI.fact j hd hT2
  refine ⟨hf.1, fun e => absurd e hj, fun e => ?_⟩
  subst e
  exact absurd (by unfold sT; rw [if_pos rfl]) hT
end
end Go.Proofs.YtdennekkbdlhdaaDoor
