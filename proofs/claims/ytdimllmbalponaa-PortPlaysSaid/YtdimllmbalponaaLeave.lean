/-
  The first message that waits, taken.
-/
import Derived.Test.YtdimllmbalponaaDelete
namespace Go.Proofs.Ytdimllmbalponaa
open Go.RowKit Go.Shelf
set_option linter.unusedVariables false

theorem flat_len (ms : List Msg) : (ms.flatMap Msg.cells).length = ms.length * 2 := by
  induction ms with
  | nil => rfl
  | cons m ms ih => simp [List.flatMap_cons, ih, Msg.cells]; omega
theorem flat_one (ms : List Msg) : ∀ u ∈ ms.flatMap Msg.cells, u.oneCell' = true := by
  intro u hu
  obtain ⟨m, _, hu⟩ := List.mem_flatMap.1 hu
  simp only [Msg.cells, List.mem_cons, List.not_mem_nil, or_false] at hu
  rcases hu with rfl | rfl <;> rfl
/-- where the first message lies -/
theorem BoxW.head {W : World} {base b : Nat} {P : Prm} {h : Value} {m : Msg} {ms : List Msg} {lost : Bool} (x : BoxW W base b P h (m :: ms) lost) :
    ∃ g cap cur, h = .slice (some ⟨g, 0, none⟩) (ms.length + 1) cap ∧ base ≤ g ∧ W.heap[g]? = some (.cells cur 76 (0, 0)) ∧ ms.length + 1 ≤ cap ∧ cap ≤ maxLen ∧ cur.size = cap * 2 ∧ cur.toList.take ((ms.length + 1) * 2) = m.cells ++ ms.flatMap Msg.cells ∧
      W.cell? ⟨g, 0, none⟩ = some (.slice (some ⟨m.blk, 0, none⟩) m.txt.length m.cap) ∧ W.cell? ⟨g, 1, none⟩ = some (.int .i64 m.slot) := by
  rcases x.held.2 with ⟨_, h1⟩ | ⟨g, cap, cur, h1, h2, h3, h4, h5, h6, h7⟩
  · simp at h1
  · have h7' : cur.toList.take ((ms.length + 1) * 2) = m.cells ++ ms.flatMap Msg.cells := by simpa using h7
    have hc : ∀ j, j < 2 → W.cell? ⟨g, j, none⟩ = m.cells[j]? := by
      intro j hj
      rw [cell_of_row _ _ _ _ _ _ h3, ← Array.getElem?_toList]
      have : (cur.toList.take ((ms.length + 1) * 2))[j]? = cur.toList[j]? := List.getElem?_take_of_lt (by omega)
      rw [← this, h7', List.getElem?_append_left (by simpa [Msg.cells] using hj)]
    exact ⟨g, cap, cur, h1, h2, h3, by simpa using h4, h5, h6, h7', hc 0 (by omega), hc 1 (by omega)⟩

set_option maxRecDepth 100000 in
set_option maxHeartbeats 1000000 in
theorem leave_at {base b : Nat} {P : Prm} {h : Value} {m : Msg} {ms : List Msg} {lost : Bool} {w : World} (x : BoxW w base b P h (m :: ms) lost) (z' : Int) (hm : m.txt.length ≤ 1000000) :
    Calls Try.prog 29 #[.pointer (some ⟨b, 0, none⟩), .int .i64 z'] w fun e w' => ∃ g' c' h', e = .returned (.tuple #[.slice (some ⟨g', 0, none⟩) m.txt.length c', .int .i64 0]) ∧ OwnS w' w.heap.size g' m.txt.length c' m.txt ∧ BoxW w' base b P h' ms lost ∧ KeepH base b h h' w w' := by
  obtain ⟨g, cap, cur, rfl, hg, hh, hcap, hcm, hcs, htake, h0, h1⟩ := x.head
  have hbl := x.lt
  have hlo := x.lo
  have hgl : g < w.heap.size := (Array.getElem?_eq_some_iff.1 hh).1
  have hgb : g ≠ b := by
    rintro rfl
    rw [x.row] at hh
    injection hh with hh
    injection hh with _ hh
    exact absurd hh (by decide)
  have hfst := first_some b g (ms.length + 1) cap m.txt.length m.cap ⟨m.blk, 0, none⟩ m.slot z' m.txt w (by omega) (x.cell 13 _ rfl) h0 h1 rfl hm (OwnS.bytes (x.each m (List.mem_cons_self ..)))
  have HX := hide x; have HF := hide hfst; have HH := hide hh; have HT := hide htake; have HCS := hide hcs
  clear x hfst hh h0 h1 htake hcs
  go_enter Try.func29, Try.ntmps29
  go_wp2_with fail
  refine HF.out.mono ?_
  rintro e w1 ⟨g', c', rfl, ho, hb1⟩
  have X1 := hide (HX.out.later hb1)
  have B1 := hide hb1
  have HO := hide ho
  have H1 := hide ((hb1.block g hgl).trans HH.out)
  have q13 := X1.out.cell 13 _ rfl
  have z1 := hb1.size
  clear hb1 ho HF
  go_wp2_with fail
  refine (delete_at H1.out HCS.out (by omega) hcap hcm (by rw [HT.out]; intro u hu; exact flat_one ms u (by simpa [Msg.cells] using hu))).mono ?_
  rintro e w2 ⟨rfl, cur', hc1, hc2, hc3, hc4, hc5, hb2⟩
  have hrow2 := (hc4 b (fun e => hgb e.symm)).trans X1.out.row
  have hown2 : w2.ownsRow base 76 2 (.slice (some ⟨g, 0, none⟩) ms.length cap) ms.length (ms.flatMap Msg.cells) :=
    ⟨flat_len ms, .inr ⟨g, cap, cur', rfl, hg, hc1, by omega, hcm, hc2, by rw [show ms.length = ms.length + 1 - 1 by omega, hc3, HT.out]; simp [Msg.cells]⟩⟩
  have heach2 : ∀ m' ∈ ms, m'.at w2 base := fun m' hm' => OwnS.kept (X1.out.each m' (List.mem_cons_of_mem _ hm')) (hc4 _ (bytes_block (X1.out.each m' (List.mem_cons_of_mem _ hm')) H1.out (by decide)))
  have HO2 := hide (HO.out.kept (hc4 g' (by have := HO.out.base; omega)))
  have hbx := hide (boxW_row hlo hrow2 hown2 heach2)
  have HR := hide hrow2
  have HB2 := hide ((B1.out.mono (by omega)).trans (hb2.mono hg))
  have HK := hide (show ∀ k, k < w.heap.size → k ≠ b → k ≠ g → w2.heap[k]? = w.heap[k]? from fun k hk _ h2 => (hc4 k h2).trans (B1.out.block k hk))
  have z2 : w1.heap.size = w2.heap.size := hc5.symm
  have r13 : w2.cell? ⟨b, 13, none⟩ = some (.slice (some ⟨g, 0, none⟩) (ms.length + 1) cap) := by rw [cell_of_row _ _ _ _ _ _ hrow2]; rfl
  have f13 : w2.frozen? ⟨b, 13, none⟩ = false := by unfold World.frozen?; rw [hrow2]; simp
  clear hc1 hc2 hc3 hc4 hc5 hb2 hrow2 hown2 heach2 q13 X1 B1 H1 HO
  go_wp2
  go_ret2
  have hgo := HO2.out.base
  refine ⟨g', c', _, rfl, HO2.out.kept (heap_setCell_other _ _ _ _ (by show g' ≠ b; omega)), hbx.out, ⟨⟨HB2.out.setCell (p := ⟨b, 13, none⟩) hlo _, fun k hk h1 h2 => (heap_setCell_other _ _ _ _ h1).trans (HK.out k hk h1 (fun e => h2 (by rw [e]; rfl))), ?_⟩, .inl rfl⟩⟩
  show _ ≤ (w2.heap.modify _ _).size
  rw [Array.size_modify]; omega
end Go.Proofs.Ytdimllmbalponaa
