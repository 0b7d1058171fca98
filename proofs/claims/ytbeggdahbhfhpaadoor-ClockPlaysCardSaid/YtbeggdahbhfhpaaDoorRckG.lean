/-
  The document's own row on links: what stands while it looks.
-/
import Derived.Test.YtbeggdahbhfhpaaDoorRckF
import Derived.Test.YtbeggdahbhfhpaaDoorTwB
namespace Go.Proofs.YtbeggdahbhfhpaaDoor
open Go.RowKit Go.Deep
set_option linter.unusedVariables false
set_option linter.unusedSimpArgs false

theorem info_num : (Tryd.prog.info? 3).map (fun i => (i.zero, i.size, i.bytes)) = some (some (.int .i64 0), 1, 8) := by kernel_rfl

/-- a configuration, a link in a block of its own, and a list of numbers of the function's own -/
structure UsS (w W : World) (c : Conf) (d : Ad) (lb : Nat) (s : Int) (A : Option Addr) (n m : Nat) (o : Int) (v : Value) (xs : List Int) : Prop where
  cf : CfS w W c d
  lk : LkAt W lb s A n m o
  us : W.ownsRow (w.heap.size + 1) 3 1 v xs.length (xs.map (Value.int .i64))
  ne : ∀ g, v.ownBlock = some g → g ≠ lb
theorem ownsRow.on {W W' : World} {b : Nat} {e : TypeId} {size n : Nat} {v : Value} {xs : List Value} (h : W.ownsRow b e size v n xs) (hb : Below W.heap.size W W') : W'.ownsRow b e size v n xs :=
  ownsRow.kept h fun g hg => hb.block g (by obtain ⟨_, cur, e⟩ := ownsRow.blk h hg; exact (Array.getElem?_eq_some_iff.1 e).1)
theorem UsS.below {w W W' : World} {c : Conf} {d : Ad} {lb : Nat} {s : Int} {A : Option Addr} {n m : Nat} {o : Int} {v : Value} {xs : List Int} (h : UsS w W c d lb s A n m o v xs) (hb : Below W.heap.size W W') : UsS w W' c d lb s A n m o v xs :=
  ⟨h.cf.below hb, h.lk.below hb (Nat.le_refl _), ownsRow.on h.us hb, h.ne⟩
theorem UsS.push {w W W' : World} {c : Conf} {d : Ad} {lb : Nat} {s : Int} {A : Option Addr} {n m : Nat} {o : Int} {v v' : Value} {xs : List Int} {z : Int} (h0 : Glo w) (h1 : ConfAt w c d) (h : UsS w W c d lb s A n m o v xs) (t : TypeId)
    (how : W'.ownsRow (w.heap.size + 1) 3 1 v' (xs.length + 1) (xs.map (Value.int .i64) ++ [.int .i64 z])) (hgr : (W.alloc (.cells #[.int .i64 z] t)).grownBy W' v.ownBlock)
    (hor : v'.ownBlock = v.ownBlock ∨ ∀ k, v'.ownBlock = some k → (W.alloc (.cells #[.int .i64 z] t)).heap.size ≤ k) : UsS w W' c d lb s A n m o v' (xs ++ [z]) := by
  have ha := h.below ((Below.refl W.heap.size W).alloc (Nat.le_refl _) (.cells #[.int .i64 z] t))
  have hrow : ∀ k, v.ownBlock = some k → w.heap.size < k := fun k e => (ownsRow.blk h.us e).1
  have hk : ∀ (o : Nat) (u : Value), (W.alloc (.cells #[.int .i64 z] t)).cell? ⟨lb, o, none⟩ = some u → W'.cell? ⟨lb, o, none⟩ = some u := fun o u e => (World.cell?_of_block (w := W.alloc (.cells #[.int .i64 z] t)) (hgr.block lb ha.lk.lt (fun e' => h.ne lb e'.symm rfl))).trans e
  refine ⟨CfS.grown h0 h1 ha.cf hgr hrow ha.cf.x.lt, ⟨Nat.lt_of_lt_of_le ha.lk.lt hgr.size, hk _ _ ha.lk.c0, hk _ _ ha.lk.c1, hk _ _ ha.lk.c2⟩, ?_, fun g hg => ?_⟩
  · rw [List.length_append, List.map_append]
    exact how
  · rcases hor with e | e
    · rw [e] at hg; exact h.ne g hg
    · have := e g hg
      have := ha.lk.lt
      omega
theorem UsS.ints {W : World} {b : Nat} {A : Option Addr} {C : Nat} {xs : List Int} (h : W.ownsRow b 3 1 (.slice A xs.length C) xs.length (xs.map (Value.int .i64))) (hz : ∀ z ∈ xs, I64 z) : Ints W A xs := by
  obtain ⟨A', C', e, _, _, h3⟩ := ownsRow.slice h
  injection e with e1 _ e2
  subst e1 e2
  rcases h3 with h3 | ⟨g, rfl, ho⟩
  · exact ⟨hz, .inl h3⟩
  · refine ⟨hz, .inr ⟨g, 0, rfl, ho.lt, fun i hi => ?_⟩⟩
    rw [Nat.zero_add, Nat.mul_one]
    refine ho.cell ?_
    rw [List.getElem?_map, List.getElem?_eq_getElem hi, List.getD_eq_getElem?_getD, List.getElem?_eq_getElem hi]
    rfl
theorem names_upto (c : Conf) (k : Nat) (hk : k ≤ c.links.length) (h : ∀ j, j < k → LinkOk c (c.links.getD j default)) : ∀ z ∈ namesOf (c.links.take k), ofB z c.ports.length = true := by
  refine names_in c _ (mem_ok fun j hj => ?_)
  rw [List.length_take] at hj
  have := h j (by omega)
  rwa [show (c.links.take k).getD j default = c.links.getD j default from by rw [List.getD_eq_getElem?_getD, List.getElem?_take, if_pos (by omega), List.getD_eq_getElem?_getD]]
theorem ris_of (c : Conf) (d : Ad) (n : Int) (w : World) (h : ConfAt w c d) :
    Calls Tryd.prog 140 #[c.val d, .int .i64 n] w fun e w' => e = .returned (.bool (ofB n c.ports.length)) ∧ Below w.heap.size w w' := by
  rw [show ofB n c.ports.length = isB c n from by unfold ofB isB; rw [Bool.decide_and]]
  exact ris_any c d n w h
end Go.Proofs.YtbeggdahbhfhpaaDoor
