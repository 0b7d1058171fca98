/-
  A copy of bytes, by the library's Clone: whatever they are (nil, empty or not).
-/
import Derived.Test.YtihldmcakcobaaaRight
import Derived.Test.YtihldmcakcobaaaCopy
namespace Go.Proofs.Ytihldmcakcobaaa
open Go.RowKit
set_option linter.unusedVariables false

/-- bytes of the call's own: none at all, or a block from base on -/
def Mine (base : Nat) (W : World) (A : Option Addr) (n : Nat) (f : Nat → Nat) : Prop := n = 0 ∨ ∃ g, A = some ⟨g, 0, none⟩ ∧ base ≤ g ∧ Row W g n f

set_option maxHeartbeats 1000000 in
theorem clone_nil (w : World) : Calls Try.prog 31 #[.slice none 0 0] w fun e w' => e = .returned (.slice none 0 0) ∧ w = w' := by
  have hn := Lib.run_eql_slice_nil (P := Try.prog)
  go_enter Try.func31, Try.ntmps31
  go_wp2
  go_ret
  exact ⟨rfl, rfl⟩

/-- the whole block of such a slice -/
def Capd (base : Nat) (W : World) (A : Option Addr) (c : Nat) : Prop := ∃ g cur, A = some ⟨g, 0, none⟩ ∧ base ≤ g ∧ W.heap[g]? = some (.cells cur 5 (0, 0)) ∧ cur.size = c
theorem Capd.kept {base : Nat} {W W' : World} {A : Option Addr} {c : Nat} (h : Capd base W A c) (hb : ∀ g, A = some ⟨g, 0, none⟩ → W'.heap[g]? = W.heap[g]?) : Capd base W' A c := by
  obtain ⟨g, cur, hA, hg, hh, hs⟩ := h
  exact ⟨g, cur, hA, hg, (hb g hA).trans hh, hs⟩
theorem Capd.store {base : Nat} {W : World} {A : Option Addr} {c g t : Nat} {v : Value} (h : Capd base W A c) (hA : A = some ⟨g, 0, none⟩) : Capd base (W.setCell ⟨g, t, none⟩ v) A c := by
  obtain ⟨g', cur, hA', hg, hh, hs⟩ := h
  obtain rfl : g = g' := by rw [hA] at hA'; injection hA' with h1; injection h1
  refine ⟨g, cur.setIfInBounds t v, hA, hg, ?_, by simpa using hs⟩
  show (W.heap.modify g _)[g]? = _
  rw [Array.getElem?_modify, if_pos rfl, hh]
  rfl

set_option maxHeartbeats 1000000 in
theorem clone_cap (b : List Nat) (n : Nat) (ad : Addr) (cap : Nat) (w : World) (hn : b.length = n) (hm : n ≤ 1000000) (hB : Bytes w (some ad) b) :
    Calls Try.prog 31 #[.slice (some ad) n cap] w fun e w' => ∃ A c, e = .returned (.slice A n c) ∧ n ≤ c ∧ c ≤ maxLen ∧ Mine w.heap.size w' A n (fun t => b.getD t 0) ∧ Capd w.heap.size w' A c ∧ Below w.heap.size w w' := by
  have hnil := Lib.run_eql_slice_nil (P := Try.prog)
  have Hn := hide hn
  have hl := (hB.of_below (bal w (.cells #[] 5)) (Nat.le_refl _))
  have HL := hide hl
  clear hn hB hl
  go_enter Try.func31, Try.ntmps31
  go_wp2_with (refine wpList_copyc _ rfl (.tmp 5) (.tmp 6) rfl w.heap.size rfl (heap_alloc_new w _) (some ad) n cap b rfl HL.out Hn.out hm ?_; intro g c w1 cur hnc hcm hg hcur hcs hR hb1)
  go_ret
  exact ⟨_, _, rfl, hnc, hcm, .inr ⟨g, rfl, hg, hR⟩, ⟨g, cur, rfl, hg, hcur, hcs⟩, (bal w _).trans (hb1.mono (Nat.le_refl _))⟩
theorem clone_some (b : List Nat) (n : Nat) (ad : Addr) (cap : Nat) (w : World) (hn : b.length = n) (hm : n ≤ 1000000) (hB : Bytes w (some ad) b) :
    Calls Try.prog 31 #[.slice (some ad) n cap] w fun e w' => ∃ A c, e = .returned (.slice A n c) ∧ n ≤ c ∧ c ≤ maxLen ∧ Mine w.heap.size w' A n (fun t => b.getD t 0) ∧ Below w.heap.size w w' :=
  (clone_cap b n ad cap w hn hm hB).mono fun e w' ⟨A, c, h1, h2, h3, h4, _, h5⟩ => ⟨A, c, h1, h2, h3, h4, h5⟩
end Go.Proofs.Ytihldmcakcobaaa
