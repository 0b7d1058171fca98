/-
  Reach, told: which partition comes to which.
-/
import Derived.Test.YthngjegimecaaaaDoorRchD
namespace Go.Proofs.YthngjegimecaaaaDoor
open Go.RowKit Go.Deep
set_option linter.unusedVariables false
set_option linter.unusedSimpArgs false

def slB (n b : Nat) : Value := .slice (some ⟨b, 0, none⟩) n n
/-- what Reach answers: rows of bools, each in a block of its own -/
structure RmS (W : World) (g : Nat) (bs : List Nat) (n : Nat) (R : List (List Nat)) : Prop where
  len : bs.length = n
  blk : W.heap[g]? = some (.cells (bs.map (slB n)).toArray 34 (0, 0))
  row : ∀ p, p < n → ∃ S : List Bool, W.heap[bs.getD p 0]? = some (.cells (bls S) 4 (0, 0)) ∧ S.length = n ∧ ∀ j, S.getD j false = true ↔ Rch R p j
  low : ∀ b ∈ bs, g < b
  inc : bs.Pairwise (· < ·)
theorem RmS.below {W W' : World} {g n : Nat} {bs : List Nat} {R : List (List Nat)} (h : RmS W g bs n R) (hb : Below W.heap.size W W') : RmS W' g bs n R :=
  ⟨h.len, (hb.block _ (Array.getElem?_eq_some_iff.1 h.blk).1).trans h.blk, fun p hp => by
    obtain ⟨S, h1, h2⟩ := h.row p hp
    exact ⟨S, (hb.block _ (Array.getElem?_eq_some_iff.1 h1).1).trans h1, h2⟩, h.low, h.inc⟩
theorem RmS.at {W : World} {g n : Nat} {bs : List Nat} {R : List (List Nat)} (h : RmS W g bs n R) {p : Nat} (hp : p < n) : ∃ b, W.cell? ⟨g, p, none⟩ = some (.slice (some ⟨b, 0, none⟩) n n) ∧ ∀ j, j < n → ∃ v : Bool, W.cell? ⟨b, j, none⟩ = some (.bool v) ∧ (v = true ↔ Rch R p j) := by
  obtain ⟨S, h1, h2, h3⟩ := h.row p hp
  refine ⟨bs.getD p 0, ?_, fun j hj => ⟨S.getD j false, bls_at h1 (by omega), h3 j⟩⟩
  rw [cell_of_row _ _ _ _ _ _ h.blk]
  have hl := h.len
  simp [slB, List.getD_eq_getElem?_getD, List.getElem?_eq_getElem (show p < bs.length by omega)]
theorem set_next (l : List Value) (m : Nat) (x v : Value) : (l ++ List.replicate (m + 1) x).set l.length v = l ++ [v] ++ List.replicate m x := by
  rw [List.set_append, if_neg (by omega), Nat.sub_self, List.replicate_succ]
  simp
theorem make_nilb (n : Nat) (hn : n ≤ 100000) (W : World) : (Instr.makeSlice 31 (.int .i64 (n : Int)) (.int .i64 (n : Int))).run Tryd.prog W = .ok (.slice (some ⟨W.heap.size, 0, none⟩) n n) (W.alloc (.cells (nilsA n) 34)) := by
  have hi3 : (Tryd.prog.info? 34).map (fun i => (i.zero, i.size, i.bytes)) = some (some (.slice none 0 0), 1, 24) := by kernel_rfl
  rcases hi : Tryd.prog.info? 34 with _ | i
  · rw [hi] at hi3; cases hi3
  rw [hi] at hi3
  simp only [Option.map_some, Option.some.injEq, Prod.mk.injEq] at hi3
  obtain ⟨hz, hs2, hb⟩ := hi3
  have hm := run_make (P := Tryd.prog) W 31 34 i (.slice none 0 0) Tryd.underlying31 hi hz .i64 .i64 (n : Int) (n : Int) (by omega) (by omega) (by rw [hb]; omega) (by omega)
  rw [hm]
  have e : madeCells (Value.slice none 0 0).cells n = nilsA n := by
    unfold nilsA
    apply Array.ext_getElem?
    intro j
    by_cases hj : j < n
    · simp [madeCells, Value.cells, hj, Nat.mod_one]
    · simp [madeCells, hj]
  simp [hs2, e]
/-- rows so far -/
structure RpS (W : World) (g : Nat) (bs : List Nat) (n k : Nat) (R : List (List Nat)) : Prop where
  len : bs.length = k
  blk : W.heap[g]? = some (.cells (bs.map (slB n) ++ List.replicate (n - k) (Value.slice none 0 0)).toArray 34 (0, 0))
  row : ∀ p, p < k → ∃ S : List Bool, W.heap[bs.getD p 0]? = some (.cells (bls S) 4 (0, 0)) ∧ S.length = n ∧ ∀ j, S.getD j false = true ↔ Rch R p j
  low : ∀ b ∈ bs, g < b ∧ b < W.heap.size
  inc : bs.Pairwise (· < ·)
theorem RpS.more {W W' : World} {g n k : Nat} {bs : List Nat} {R : List (List Nat)} {S : List Bool} (h : RpS W g bs n k R) (hk : k < n) (hb : Below W.heap.size W W') (hS : W'.heap[W.heap.size]? = some (.cells (bls S) 4 (0, 0))) (hl : S.length = n) (hr : ∀ j, S.getD j false = true ↔ Rch R k j) (hg : g < W.heap.size) :
    RpS (W'.setCell ⟨g, k, none⟩ (slB n W.heap.size)) g (bs ++ [W.heap.size]) n (k + 1) R := by
  have hsz := hb.size
  have hWl := (Array.getElem?_eq_some_iff.1 hS).1
  have hz : (W'.setCell ⟨g, k, none⟩ (slB n W.heap.size)).heap.size = W'.heap.size := by
    show (W'.heap.modify _ _).size = _
    rw [Array.size_modify]
  refine ⟨by rw [List.length_append, h.len]; rfl, ?_, fun p hp => ?_, fun b hbm => ?_, ?_⟩
  · show (W'.heap.modify g _)[g]? = _
    rw [Array.getElem?_modify, if_pos rfl, hb.block g hg, h.blk]
    simp only [Option.map_some]
    congr 2
    apply Array.ext'
    show (Array.setIfInBounds _ _ _).toList = _
    simp only [Array.toList_setIfInBounds]
    have e1 : n - k = n - (k + 1) + 1 := by omega
    have e2 := set_next (bs.map (slB n)) (n - (k + 1)) (Value.slice none 0 0) (slB n W.heap.size)
    rw [List.length_map, h.len] at e2
    rw [e1, e2, List.map_append]
    rfl
  · rcases Nat.lt_succ_iff_lt_or_eq.1 hp with h1 | rfl
    · obtain ⟨S1, a1, a2⟩ := h.row p h1
      have e : (bs ++ [W.heap.size]).getD p 0 = bs.getD p 0 := by
        rw [List.getD_eq_getElem?_getD, List.getElem?_append_left (by rw [h.len]; exact h1), List.getD_eq_getElem?_getD]
      have hm : bs.getD p 0 ∈ bs := by rw [List.getD_eq_getElem?_getD, List.getElem?_eq_getElem (by rw [h.len]; exact h1)]; exact List.getElem_mem _
      have := (h.low _ hm).1
      rw [e]
      exact ⟨S1, by rw [setCell_other (by omega), hb.block _ (h.low _ hm).2]; exact a1, a2⟩
    · have e : (bs ++ [W.heap.size]).getD p 0 = W.heap.size := by
        rw [List.getD_eq_getElem?_getD, List.getElem?_append_right (by rw [h.len]; omega), h.len, Nat.sub_self]; rfl
      rw [e]
      exact ⟨S, by rw [setCell_other (by omega)]; exact hS, hl, hr⟩
  · rw [hz]
    rcases List.mem_append.1 hbm with h1 | h1
    · have := h.low b h1; omega
    · rw [List.mem_singleton.1 h1]; omega
  · rw [List.pairwise_append]
    exact ⟨h.inc, by simp, fun a ha b hb => by rw [List.mem_singleton.1 hb]; exact (h.low a ha).2⟩

set_option maxRecDepth 100000 in
set_option maxHeartbeats 4000000 in
theorem reach_at (c : Conf) (d : Ad) (w : World) (hg : Glo w) (h : ConfAt w c d) (hn : c.parts.length ≤ 1000) (hk100 : c.links.length ≤ 100) (hd : ∀ k, k < c.links.length → (c.links.getD k default).dests.length ≤ 1000) :
    Calls Tryd.prog 7 #[c.val d] w fun e w' => ∃ g bs, e = .returned (.slice (some ⟨g, 0, none⟩) c.parts.length c.parts.length) ∧ RmS w' g bs c.parts.length (nextF c c.links) ∧ w.heap.size ≤ g ∧ Below w.heap.size w w' := by
  have hS := CfS.first 28 hg h
  have HLn := hide (fun W (H : CfS w W c d) => linked_at c d W H.g H.cf hn hk100 hd)
  have HRl : Hid (∀ k, ((nextF c c.links).getD k []).length ≤ 1000000) := fun k => by
    have h1 := row_len c hd c.links.length (Nat.le_refl _) k
    rw [List.take_length] at h1
    omega
  clear hg h
  generalize hA : w.alloc (.cells (c.cells d) 28) = wa at hS
  have hza : wa.heap.size = w.heap.size + 1 := by rw [← hA]; simp
  obtain ⟨oA, oC, pA, pC, wA, wC, qA, qC, lA, lC⟩ := d
  unfold Conf.val at HLn ⊢
  unfold Conf.cells at hA
  dsimp only at hA hS HLn ⊢
  have HA := hide hA
  have HS := hide hS
  clear hA hS
  obtain ⟨_, ⟨_, e0, e1, e2, e3, e4, e5, e6, e7, e8, e9, e10, e11⟩, _, _⟩ := HS.out
  dsimp only at e0 e1 e2 e3 e4 e5 e6 e7 e8 e9 e10 e11
  go_enter Tryd.func7, Tryd.ntmps7
  go_wp2_with fail
  rw [HA.out]
  clear HA
  refine (HLn.out wa HS.out).mono ?_
  rintro e w1 ⟨vs, rfl, hN, hb1⟩
  have HS1 := hide (HS.out.below hb1)
  have HN := hide hN
  have hl1 := (Array.getElem?_eq_some_iff.1 hN.blk).1
  have hbel1 := HS1.out.bel
  have hmk := make_nilb c.parts.length (by omega) w1
  have hn2 := heap_alloc_new w1 (.cells (nilsA c.parts.length) 34)
  have hb2 := bal w1 (.cells (nilsA c.parts.length) 34)
  have hz2 : (w1.alloc (.cells (nilsA c.parts.length) 34)).heap.size = w1.heap.size + 1 := by simp
  obtain ⟨_, ⟨_, _, _, _, _, _, _, _, _, p8, _, _, _⟩, _, _⟩ := HS1.out
  dsimp only at p8
  have HR0 : Hid (RpS (w1.alloc (.cells (nilsA c.parts.length) 34)) w1.heap.size [] c.parts.length 0 (nextF c c.links)) := ⟨rfl, hn2, fun p hp => by omega, fun b hb => (by cases hb), List.Pairwise.nil⟩
  have HB2 := hide hb2
  clear hN hb1 HS HLn e0 e1 e2 e3 e4 e5 e6 e7 e8 e9 e10 e11 hn2 hb2 hza
  have HZ2 := hide hz2
  clear hz2
  have HBE := hide hbel1
  have hwz := hbel1.size
  clear hbel1
  go_upto_region 3 with fail
  clear p8 hmk
  generalize w1.alloc (.cells (nilsA c.parts.length) 34) = w2 at HR0 HB2 HZ2 ⊢
  go_wp2_with fail
  go_loopw [14, 5] (fun i s5 W => ∃ (k : Nat) (bs : List Nat), k ≤ c.parts.length ∧ i = .int .i64 k ∧ Below w1.heap.size w1 W ∧ w1.heap.size < W.heap.size ∧ RpS W w1.heap.size bs c.parts.length k (nextF c c.links)) (fun i _ _ => c.parts.length - (intOf i).toNat)
  case atStart => exact ⟨0, [], by omega, rfl, HB2.out, by have := HZ2.out; omega, HR0.out⟩
  case round =>
    obtain ⟨k, bs, hk, rfl, hbw, hlw, hr⟩ := hrel
    have HBW := hide hbw; have HR := hide hr
    clear hbw hr HR0 HB2 HZ2
    by_cases hlt : k < c.parts.length
    · have HKL := hide (show k + 1 ≤ c.parts.length by omega)
      have hcall := reached_at wr (wa.heap.size + 2) (wa.heap.size + 1) c.parts.length k vs (nextF c c.links) (HN.out.below HBW.out) (nextF_len c c.links) (nextF_lt c c.links) HRl.out hlt hn
      go_wp2_with fail
      refine hcall.mono ?_
      rintro e w4 ⟨S, rfl, s1, s2, s3, hb4⟩
      have HRm := hide (HR.out.more hlt hb4 s1 s2 s3 hlw)
      have hgb := (hb4.block _ hlw).trans HR.out.blk
      have c0 : w4.cell? ⟨w1.heap.size, k, none⟩ = some (.slice none 0 0) := by
        rw [cell_of_row _ _ _ _ _ _ hgb]
        have hbl := HR.out.len
        rw [List.getElem?_toArray, List.getElem?_append_right (by rw [List.length_map, hbl]; exact Nat.le_refl _), List.length_map, hbl, Nat.sub_self, show c.parts.length - k = c.parts.length - (k + 1) + 1 by omega, List.replicate_succ]
        rfl
      have f0 : w4.frozen? ⟨w1.heap.size, k, none⟩ = false := by unfold World.frozen?; rw [hgb]; rfl
      have HB4 : Hid (Below w1.heap.size w1 (w4.setCell ⟨w1.heap.size, k, none⟩ (slB c.parts.length wr.heap.size))) := (HBW.out.trans (hb4.mono (by omega))).setCell (p := ⟨w1.heap.size, k, none⟩) (Nat.le_refl _) _
      have HL4 : Hid (w1.heap.size < (w4.setCell ⟨w1.heap.size, k, none⟩ (slB c.parts.length wr.heap.size)).heap.size) := (Array.getElem?_eq_some_iff.1 HRm.out.blk).1
      clear hb4 s1 s2 s3 hgb hcall HR HBW
      unfold slB at HRm HB4 HL4
      go_wp2_with fail
      go_roundw
      case rel => exact ⟨k + 1, _, HKL.out, by go_num, HB4.out, HL4.out, HRm.out⟩
      case measure => have := HKL.out; simp [intOf]; omega
    · obtain rfl : k = c.parts.length := by omega
      have hblk := HR.out.blk
      rw [Nat.sub_self, List.replicate_zero, List.append_nil] at hblk
      have HF : Hid (RmS wr w1.heap.size bs c.parts.length (nextF c c.links)) := ⟨HR.out.len, hblk, HR.out.row, fun b hb => (HR.out.low b hb).1, HR.out.inc⟩
      have HBF := hide (HBE.out.trans (HBW.out.mono hwz))
      clear hblk
      go_wp2
      go_ret
      exact ⟨_, bs, rfl, HF.out, hwz, HBF.out⟩
end Go.Proofs.YthngjegimecaaaaDoor
