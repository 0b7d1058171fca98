/-
  The bus: one send alone; what was received stays; two that received alike.
-/
import Derived.Test.YtbeggdahbhfhpaaDoorBuP
namespace Go.Proofs.YtbeggdahbhfhpaaDoor
open Go.RowKit Go.Deep
set_option linter.unusedVariables false
set_option linter.unusedSimpArgs false

/-- one send in a block of its own -/
theorem one_snk {w W : World} {g q : Nat} {AO : Option Addr} {oo : Nat} (x : SnD) (hq : W.heap[q]? = some (.cells #[.int .i64 x.node, .slice AO x.l.length oo] 65 (0, 0))) (hne : q ≠ g) (hO : Bytes w AO x.l) (hb : ∀ j, j < w.heap.size → W.heap[j]? = w.heap[j]?) (hs : w.heap.size ≤ W.heap.size) (hg : w.heap.size ≤ g) :
    SnK W g (some ⟨q, 0, none⟩) [x] := fun V hV => by
  have hl := (Array.getElem?_eq_some_iff.1 hq).1
  have hv := (hV.blk q hl hne).trans hq
  refine .inr ⟨q, 0, rfl, (Array.getElem?_eq_some_iff.1 hv).1, fun i hi => ?_⟩
  obtain rfl : i = 0 := by simp at hi; exact hi
  exact ⟨(bcellOf hv 0).trans rfl, AO, oo, (bcellOf hv 1).trans rfl, hO.stays (fun j hj => (hV.blk j (by omega) (by omega)).trans (hb j hj)) (Nat.le_trans hs hV.siz)⟩
/-- what was received lies above the bus's own block -/
theorem RecV.over {W W' : World} {base g : Nat} {v : Value} {r : Option (List Nat)} (h : RecV W base v r) (hg : Gk g W W') (hb : g < base) : RecV W' base v r := by
  rcases r with _ | l
  · exact h
  · obtain ⟨q, c, e, h1, h2⟩ := h
    exact ⟨q, c, e, h1, h2.kept (hg.blk q h2.blk (by omega))⟩
theorem recvB_len {l l' : List Nat} {o : Int} {C : List CpD} {i : Nat} (h : recvB l o C i = some l') : l'.length = l.length := by
  unfold recvB at h
  split at h
  · split at h
    · cases h
    · split at h
      · cases h; exact corr_len _ _ _
      · cases h; rfl
  · cases h; rfl
/-- two that received alike -/
theorem recv_alike {W : World} {b1 b2 : Nat} {v1 v2 : Value} {r : Option (List Nat)} (h1 : RecV W b1 v1 r) (h2 : RecV W b2 v2 r) : ∃ (l : List Nat) (A B : Option Addr) (m n : Nat), v1 = .slice A l.length m ∧ v2 = .slice B l.length n ∧ Bytes W A l ∧ Bytes W B l ∧ A.isNone = B.isNone ∧ ∀ K, (∀ l', r = some l' → l'.length ≤ K) → l.length ≤ K := by
  rcases r with _ | l
  · have hn : Bytes W none [] := And.intro (fun c hc => absurd hc List.not_mem_nil) (Or.inl rfl)
    exact ⟨[], none, none, 0, 0, h1, h2, hn, hn, rfl, fun K _ => Nat.zero_le _⟩
  · obtain ⟨q1, c1, e1, _, o1⟩ := h1
    obtain ⟨q2, c2, e2, _, o2⟩ := h2
    exact ⟨l, _, _, c1, c2, e1, e2, o1.bytes, o2.bytes, rfl, fun K h => h l rfl⟩
/-- nothing but draws since -/
structure Dr (w W : World) : Prop where
  heap : W.heap = w.heap
  bel : Below 0 w W
theorem Dr.refl (w : World) : Dr w w := ⟨rfl, Below.refl _ _⟩
theorem Dr.drewN {w W : World} (h : Dr w W) (n : Nat) : Dr w (W.drewN n) := ⟨h.heap, h.bel.trans ((bbel W n).mono (Nat.zero_le _))⟩
theorem Dr.gk {w W : World} (h : Dr w W) (g : Nat) : Gk g w W := ⟨by rw [h.heap]; exact Nat.le_refl _, fun j _ _ => by rw [h.heap]⟩
theorem Dr.cell {w W : World} (h : Dr w W) {a : Addr} {v : Value} (hc : w.cell? a = some v) : W.cell? a = some v := by
  unfold World.cell? at hc ⊢
  rw [h.heap]
  exact hc
theorem Dr.bytes {w W : World} (h : Dr w W) {A : Option Addr} {l : List Nat} (hB : Bytes w A l) : Bytes W A l :=
  hB.stays (fun j _ => by rw [h.heap]) (by rw [h.heap]; exact Nat.le_refl _)
theorem below_gk {B g : Nat} {w we W : World} (h : Below B w we) (h0 : Below 0 we W) (hg : Gk g we W) (h1 : B ≤ g) (h2 : B ≤ we.heap.size) : Below B w W :=
  h.trans ⟨h0.os, h0.tape, h0.output, h0.size, fun k hk => hg.blk k (by omega) (by omega)⟩
end Go.Proofs.YtbeggdahbhfhpaaDoor
