/-
  Whether the sum in a frame's bytes is right for who believes a state: isSummed.
-/
import Derived.Test.YtihldmcakcobaaaLow
import Derived.Deep.QuietTactic
import Derived.BigQuiet
namespace Go.Proofs.Ytihldmcakcobaaa
open Go.RowKit Go.Shelf
attribute [local go_sem] Oper.semAt_some
set_option linter.unusedVariables false

/-- is the sum that stands at the end right for this state? -/
def summed (b : List Nat) (z m : Int) : Bool := decide (SumMath.four (SumMath.more (SumMath.more 0 (st z m)) ((b.drop 6).take 65)) = b.drop 71)

theorem upto_mem {α : Type} {f : Nat → α} {k n : Nat} {x : α} (h : k ≤ n) (hx : x ∈ upto f k) : x ∈ upto f n := by
  simp only [upto, List.mem_map, List.mem_range] at hx ⊢
  obtain ⟨i, hi, rfl⟩ := hx
  exact ⟨i, by omega, rfl⟩
theorem drop_four {b : List Nat} (hb : b.length = 75) : b.drop 71 = [b.getD 71 0, b.getD 72 0, b.getD 73 0, b.getD 74 0] := by
  apply List.ext_getElem
  · simp; omega
  · intro i h1 h2
    simp only [List.length_drop, hb] at h1
    have h3 : i = 0 ∨ i = 1 ∨ i = 2 ∨ i = 3 := by omega
    rcases h3 with rfl | rfl | rfl | rfl <;> simp [hb]
theorem four_iff {b : List Nat} {v : Nat} (hb : b.length = 75) (hv : v < 4294967296) : (∀ x ∈ upto (pbOf 3 v) (3 + 1), b.getD (71 + x.1.1) 0 = x.1.2) ↔ SumMath.four v = b.drop 71 := by
  rw [drop_four hb]
  simp only [upto, List.range, List.range.loop, List.map_cons, List.map_nil, List.mem_cons, List.not_mem_nil, or_false, forall_eq_or_imp, forall_eq, pbOf, SumMath.four, List.cons.injEq, and_true]
  simp only [Nat.reduceMod, Nat.reduceAdd, Nat.reduceMul, Nat.reducePow, Nat.div_one]
  omega

theorem st_split (z m : Int) (hm : (Lit.int .u16 m).wf = true) : ∃ c0 c1 c2 c3 c4 c5 : Nat, st z m = [c0, c1, c2, c3, c4, c5] ∧ ∀ c ∈ [c0, c1, c2, c3, c4, c5], c < 256 := by
  have hb := bounds_u16 hm
  exact ⟨_, _, _, _, _, _, rfl, st_lt z m hb.1 hb.2⟩

set_option maxRecDepth 100000 in
set_option maxHeartbeats 1000000 in
theorem summed_any (b : List Nat) (A : Option Addr) (cap : Nat) (z m : Int) (w : World) (hn : b.length = 75) (hcap : 75 ≤ cap) (hcm : cap ≤ maxLen) (hB : Bytes w A b) (hz : (Lit.int .i64 z).wf = true) (hm : (Lit.int .u16 m).wf = true) :
    Calls Try.prog 28 #[.slice A 75 cap, .agg #[.int .i64 z, .int .u16 m]] w fun e w' => e = .returned (.bool (summed b z m)) ∧ Below w.heap.size w w' := by
  obtain ⟨c0, c1, c2, c3, c4, c5, hst, hlt⟩ := st_split z m hm
  have hcall : ∀ W, Calls Try.prog 24 #[.agg #[.int .i64 z, .int .u16 m]] W fun e w' => e = .returned (.agg #[.int .u8 c0, .int .u8 c1, .int .u8 c2, .int .u8 c3, .int .u8 c4, .int .u8 c5]) ∧ Below W.heap.size W w' := by
    intro W
    have h := state_any z m W hz hm
    rw [hst] at h
    exact h
  have hD := hB.drop 6 cap (by omega)
  have hD2 := hD.take 65
  rw [if_neg (show ¬ cap = 6 by omega)] at hD2
  have hlen : ((b.drop 6).take 65).length = 65 := by simp; omega
  obtain ⟨blk, off, rfl, hblk, hcell⟩ := hB.at (k := 0) (by omega)
  have hsum : summed b z m = decide (SumMath.four (SumMath.more (SumMath.more 0 [c0, c1, c2, c3, c4, c5]) ((b.drop 6).take 65)) = b.drop 71) := by rw [← hst]; rfl
  generalize hv : SumMath.more (SumMath.more 0 [c0, c1, c2, c3, c4, c5]) ((b.drop 6).take 65) = v at hsum
  have hvlt : v < 4294967296 := by rw [← hv]; exact SumMath.more_lt _ _
  have hslt := SumMath.more_lt 0 [c0, c1, c2, c3, c4, c5]
  have HM := hide hsum
  have HV := hide hv
  have Hn := hide hn
  have HB := hide hD2; have HC := hide hcell; have HL := hide hlen; have HT := hide hlt
  unfold maxLen at hcm
  clear hm hz hst hD hD2 hcell hsum hv hlen hB hn hlt
  refine calls_of_wp_marks Try.func28 rfl ?_
  simp only [Try.ntmps28, List.size_toArray, List.length_cons, List.length_nil, Nat.reduceAdd, Nat.reduceSub, Array.replicate_succ, Array.replicate_zero, List.push_toArray, List.append_toArray, List.nil_append, List.cons_append]
  go_wp2_with fail
  refine (hcall _).mono ?_
  rintro e w1 ⟨rfl, hb⟩
  have hs1 : w1.cell? ⟨w.heap.size, 0, none⟩ = some (.slice (some ⟨blk, off, none⟩) 75 cap) := (hb.cell (p := ⟨w.heap.size, 0, none⟩) (by simp; omega)).trans (by simp [go_sem])
  have hr1 : w1.cell? ⟨w.heap.size + 1 + 1, 0, none⟩ = some (.bool false) := (hb.cell (p := ⟨w.heap.size + 1 + 1, 0, none⟩) (by simp)).trans (by simp [go_sem])
  have hf1 : w1.frozen? ⟨w.heap.size + 1 + 1, 0, none⟩ = false := (hb.frozen (p := ⟨w.heap.size + 1 + 1, 0, none⟩) (by simp)).trans (by simp [go_sem])
  have hz1 := hb.size
  simp only [World.size_alloc] at hz1
  have hbel : Below w.heap.size w w1 := (((((Below.refl _ w).alloc (Nat.le_refl _) _).alloc (by simp) _).alloc (by simp; omega) _)).trans (hb.mono (by simp; omega))
  clear hb hcall
  go_wp2_with fail
  have hBs : Bytes (w1.alloc (.cells #[.int .u8 c0, .int .u8 c1, .int .u8 c2, .int .u8 c3, .int .u8 c4, .int .u8 c5] 57)) (some ⟨w1.heap.size, 0, none⟩) [c0, c1, c2, c3, c4, c5] :=
    Bytes.new w1 [c0, c1, c2, c3, c4, c5] HT.out _ rfl _ _ _ rfl
  have hBm : Bytes (w1.alloc (.cells #[.int .u8 c0, .int .u8 c1, .int .u8 c2, .int .u8 c3, .int .u8 c4, .int .u8 c5] 57)) (some ⟨blk, off + 6, none⟩) ((b.drop 6).take 65) :=
    (HB.out.of_below hbel (Nat.le_refl _)).of_below ((Below.refl _ w1).alloc (Nat.le_refl _) _) (Nat.le_refl _)
  have hs2 : (w1.alloc (.cells #[.int .u8 c0, .int .u8 c1, .int .u8 c2, .int .u8 c3, .int .u8 c4, .int .u8 c5] 57)).cell? ⟨w.heap.size, 0, none⟩ = some (.slice (some ⟨blk, off, none⟩) 75 cap) := (bcl (bal _ _) (by omega)).trans hs1
  have hr2 : (w1.alloc (.cells #[.int .u8 c0, .int .u8 c1, .int .u8 c2, .int .u8 c3, .int .u8 c4, .int .u8 c5] 57)).cell? ⟨w.heap.size + 1 + 1, 0, none⟩ = some (.bool false) := (bcl (bal _ _) (by omega)).trans hr1
  have hf2 : (w1.alloc (.cells #[.int .u8 c0, .int .u8 c1, .int .u8 c2, .int .u8 c3, .int .u8 c4, .int .u8 c5] 57)).frozen? ⟨w.heap.size + 1 + 1, 0, none⟩ = false := (bfr (bal _ _) (by omega)).trans hf1
  have hz2 : (w1.alloc (.cells #[.int .u8 c0, .int .u8 c1, .int .u8 c2, .int .u8 c3, .int .u8 c4, .int .u8 c5] 57)).heap.size = w1.heap.size + 1 := by simp
  have hbel2 : Below w.heap.size w (w1.alloc (.cells #[.int .u8 c0, .int .u8 c1, .int .u8 c2, .int .u8 c3, .int .u8 c4, .int .u8 c5] 57)) := hbel.alloc (by omega) _
  generalize w1.alloc (.cells #[.int .u8 c0, .int .u8 c1, .int .u8 c2, .int .u8 c3, .int .u8 c4, .int .u8 c5] 57) = w2 at hBs hBm hs2 hr2 hf2 hz2 hbel2 ⊢
  clear hs1 hr1 hf1 hbel
  have H1 := hide hBs; have H2 := hide hBm; have Hz2 := hide hz2; have Hf2 := hide hf2; have Hr2 := hide hr2
  clear hBs hBm hz2 hf2 hr2
  go_quiet ((first
    | (go_at_call 26; exact sum_q [c0, c1, c2, c3, c4, c5] _ _ _ _ _ rfl H1.out (by omega))
    | (go_at_call 34; exact more_q ((b.drop 6).take 65) _ _ _ _ _ _ hslt HL.out H2.out (by omega))))
  rw [HV.out]
  go_wp2_with (go_at_call 25; refine (low_any v 4 _).mono ?_; rintro e w' ⟨rfl, rfl⟩)
  have hz2 := Hz2.out
  obtain ⟨w3, hw3⟩ : ∃ w3, ((w2.drewN nq).alloc (.cells #[.int .u64 v] 62)).alloc (.cells #[.int .i64 4] 3) = w3 := ⟨_, rfl⟩
  have hb3 : Below w2.heap.size w2 w3 := by
    rw [← hw3]
    exact ((below_drewN (Below.refl _ w2) nq).alloc (Nat.le_refl _) _).alloc (by show _ ≤ _; simp) _
  have hz3 : w3.heap.size = w2.heap.size + 1 + 1 := by rw [← hw3]; simp
  have hn3 : w3.cell? ⟨w2.heap.size, 0, none⟩ = some (.int .u64 v) := by rw [← hw3, bcl (bal _ _) (by simp)]; exact cell_of_row _ _ 0 _ _ _ (heap_alloc_new (w2.drewN nq) _)
  have hc3 : w3.cell? ⟨w2.heap.size + 1, 0, none⟩ = some (.int .i64 ((3 + 1 : Nat) : Int)) := by rw [← hw3]; simp [go_sem]
  have hs3 := (bcl hb3 (by omega)).trans hs2
  have hr3 := (bcl hb3 (by omega)).trans Hr2.out
  have hf3 := (bfr hb3 (by omega)).trans Hf2.out
  have hbel3 : Below w.heap.size w w3 := hbel2.trans (hb3.mono (by omega))
  rw [hw3]
  clear hw3 hb3 hs2 hbel2
  refine' wp_low v 3 w2.heap.size (w2.heap.size + 1) (by omega) (by omega) rfl (by omega) (by omega) hn3 hc3 rfl
    (fun pre W => ((W.cell? ⟨w.heap.size, 0, none⟩ = some (.slice (some ⟨blk, off, none⟩) 75 cap) ∧ W.cell? ⟨w.heap.size + 1 + 1, 0, none⟩ = some (.bool false) ∧ W.frozen? ⟨w.heap.size + 1 + 1, 0, none⟩ = false) ∧ Below w.heap.size w W) ∧ ∀ x ∈ pre, b.getD (71 + x.1.1) 0 = x.1.2)
    (fun j pre W => ((W.cell? ⟨w.heap.size + 1 + 1, 0, none⟩ = some (.bool false)) ∧ Below w.heap.size w W) ∧ j = .ret ∧ ∃ x ∈ pre, b.getD (71 + x.1.1) 0 ≠ x.1.2)
    (OwnFrom.and (OwnFrom.and (Own.from (fun s A B row hs hg hr => ⟨cell_kept hs.1 hg hr, cell_kept hs.2.1 hg hr, (frozen_kept hs.2.1 hg hr).trans hs.2.2⟩) _) (ownFrom_below (Nat.le_refl _) (by omega))) (ownFrom_pure _ _))
    (fun j => OwnFrom.and (OwnFrom.and (Own.from (fun s A B row hs hg hr => cell_kept hs hg hr) _) (ownFrom_below (Nat.le_refl _) (by omega))) (ownFrom_pure _ _))
    ⟨⟨⟨hs3, hr3, hf3⟩, hbel3⟩, fun x hx => by cases hx⟩
    _ ?assign ?body ?done ?stop
  case assign =>
    intro l x W K hK
    gi_wp2
    exact hK
  case body =>
    rintro l pre ⟨⟨i, c⟩, hi, hc⟩ W ⟨⟨⟨hs, hr, hf⟩, hbl⟩, hpre⟩ hlen
    dsimp only at hi hc ⊢
    have hcx : W.cell? ⟨blk, off + (71 + i), none⟩ = some (.int .u8 ((b.getD (71 + i) 0 : Nat) : Int)) := (bcl hbl hblk).trans (HC.out (71 + i) (by have := Hn.out; omega))
    have hcx2 : W.cell? ⟨blk, off + (71 + i), none⟩ = some (.int .u8 ((b.getD (71 + i) 0 : Nat) : Int)) := hcx
    have Hpre := hide hpre
    clear hpre hn3 hc3 hs3 hr3 hf3 hbel3
    by_cases hE : b.getD (71 + i) 0 = c
    · have HE := hide hE
      rw [hE] at hcx
      clear hE hcx2
      gi_wp2
      exact ⟨KeepsOthers.refl _, KBox.refl _ _ _, ⟨⟨⟨hs, hr, hf⟩, hbl⟩, fun x hx => by
        rcases List.mem_append.1 hx with h | h
        · exact Hpre.out x h
        · obtain rfl := List.mem_singleton.1 h
          exact HE.out⟩⟩
    · have hne : ((b.getD (71 + i) 0 : Nat) : Int) ≠ (c : Int) := fun h => hE (by omega)
      have HE := hide hE
      clear hE hcx2
      obtain ⟨c', hc'⟩ : ∃ c', b.getD (71 + i) 0 = c' := ⟨_, rfl⟩
      rw [hc'] at hcx hne
      have HE2 := hide hc'; clear hc'
      have hne2 : (((c' : Nat) : Int) != (c : Int)) = true := by simpa using hne
      have hne3 : (((c' : Nat) : Int) == (c : Int)) = false := by simpa using hne
      clear hne
      gi_wp2
      refine ⟨KeepsOthers.setCell _ _ _, ⟨⟨World.cell?_setCell_same' _ _ _ (by rw [hr]; rfl), hbl.setCell (p := ⟨w.heap.size + 1 + 1, 0, none⟩) (show w.heap.size ≤ w.heap.size + 1 + 1 by omega) _⟩, rfl, _, List.mem_append_right _ (List.mem_singleton.2 rfl), ?_⟩⟩
      exact HE.out
  case done =>
    rintro D W hD ⟨⟨⟨hs, hr, hf⟩, hbl⟩, hpre⟩ hK
    have hv2 : summed b z m = true := by rw [HM.out]; exact decide_eq_true ((four_iff Hn.out hvlt).1 hpre)
    have HV2 := hide hv2
    clear hn3 hc3 hs3 hr3 hf3 hbel3 hpre hv2
    go_wp2
    have hr2 : (W.setCell ⟨w.heap.size + 1 + 1, 0, none⟩ (.bool true)).cell? ⟨w.heap.size + 1 + 1, 0, none⟩ = some (.bool true) := World.cell?_setCell_same' _ _ _ (by rw [hr]; rfl)
    have hK2 : (W.setCell ⟨w.heap.size + 1 + 1, 0, none⟩ (.bool true)).heap[D]? = some (.deferred (some [])) := (KeepsOthers.setCell _ _ _).same D _ hK rfl
    have hb2 : Below w.heap.size w (W.setCell ⟨w.heap.size + 1 + 1, 0, none⟩ (.bool true)) := hbl.setCell (p := ⟨w.heap.size + 1 + 1, 0, none⟩) (show w.heap.size ≤ w.heap.size + 1 + 1 by omega) _
    have hc2 := cell_put hK2 (.deferred none) hr2
    exact marks_done hK2 (v := .bool true) (by simp [results, Try.results28, go_sem, hc2]) ⟨by rw [HV2.out], below_put hb2 (by omega) hK2 _⟩
  case stop =>
    rintro D j k W hD hk ⟨⟨hr, hbl⟩, rfl, hpre⟩ hK
    have hv2 : summed b z m = false := by
      rw [HM.out]
      obtain ⟨x, hx, hx2⟩ := hpre
      refine decide_eq_false fun h => hx2 ((four_iff Hn.out hvlt).2 h x (upto_mem hk hx))
    have HV2 := hide hv2
    clear hn3 hc3 hs3 hr3 hf3 hbel3 hpre hv2
    go_wp2
    have hc2 := cell_put hK (.deferred none) hr
    exact marks_done hK (v := .bool false) (by simp [results, Try.results28, go_sem, hc2]) ⟨by rw [HV2.out], below_put hbl (by omega) hK _⟩
end Go.Proofs.Ytihldmcakcobaaa
