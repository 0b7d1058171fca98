/-
  What anybody makes of a frame with bits turned does not hang on its payload: the sum is linear, and both frames have the sum of all frames.
-/
import Derived.Test.YtecmpkbpngnpbaaTurnMath
namespace Go.Proofs.Ytecmpkbpngnpbaa
open Go.RowKit
set_option linter.unusedVariables false

theorem four_of {b : List Nat} (hl : b.length = 4) (hb : ∀ c ∈ b, c < 256) : ∃ n, n < 4294967296 ∧ SumMath.four n = b := by
  match b, hl with
  | [c0, c1, c2, c3], _ =>
    have h0 := hb c0 (by simp); have h1 := hb c1 (by simp); have h2 := hb c2 (by simp); have h3 := hb c3 (by simp)
    refine ⟨c0 + 256 * c1 + 65536 * c2 + 16777216 * c3, by omega, ?_⟩
    simp only [SumMath.four, List.cons.injEq, and_true]
    omega

theorem summed_iff {b : List Nat} (hl : b.length = 75) (hb : ∀ c ∈ b, c < 256) (z m : Int) (hs : ∀ c ∈ st z m, c < 256) : summed b z m = true ↔ SumMath.more 0 (st z m ++ b.drop 6) = 558161692 := by
  obtain ⟨n, hn, h4⟩ := four_of (b := b.drop 71) (by simp [hl]) (fun c hc => hb c (List.mem_of_mem_drop hc))
  have e : st z m ++ b.drop 6 = (st z m ++ (b.drop 6).take 65) ++ SumMath.four n := by
    rw [h4, List.append_assoc]
    congr 1
    have h := (List.take_append_drop 65 (b.drop 6)).symm
    rwa [List.drop_drop] at h
  have hX : ∀ c ∈ st z m ++ (b.drop 6).take 65, c < 256 := by
    intro c hc
    rcases List.mem_append.1 hc with h | h
    · exact hs c h
    · exact hb c (List.mem_of_mem_drop (List.mem_of_mem_take h))
  unfold summed
  rw [decide_eq_true_iff, ← h4, e, ← SumMath.more_append _ _ hX, SumMath.sealed_iff (SumMath.more_lt _ _) hn, SumMath.more_append (st z m) _ hs]
  constructor
  · intro h; exact (four_inj h (SumMath.more_lt _ _) hn).symm
  · rintro rfl; rfl

theorem blind_sum {C C' E E' : List Nat} (z m : Int) (hC : C.length = 75) (hC' : C'.length = 75) (hE : E.length = 75) (hE' : E'.length = 75) (lC : ∀ c ∈ C, c < 256) (lE : ∀ c ∈ E, c < 256) (lE' : ∀ c ∈ E', c < 256) (hs : ∀ c ∈ st z m, c < 256)
    (h6 : ∀ t, t < 6 → E.getD t 0 = E'.getD t 0) (hx : ∀ t, t < 75 → C'.getD t 0 = C.getD t 0 ^^^ E.getD t 0 ^^^ E'.getD t 0) (r : Nat) (sE : SumMath.more 0 E = r) (sE' : SumMath.more 0 E' = r) :
    SumMath.more 0 (st z m ++ C'.drop 6) = SumMath.more 0 (st z m ++ C.drop 6) := by
  have lX : (st z m ++ C.drop 6).length = 75 := by rw [List.length_append, st_len, List.length_drop, hC]
  have bX : ∀ c ∈ st z m ++ C.drop 6, c < 256 := by
    intro c hc
    rcases List.mem_append.1 hc with h | h
    · exact hs c h
    · exact lC c (List.mem_of_mem_drop h)
  have e : st z m ++ C'.drop 6 = (List.range 75).map fun t => (st z m ++ C.drop 6).getD t 0 ^^^ E.getD t 0 ^^^ E'.getD t 0 := by
    refine ext_getD (by simp [st_len, hC']) (fun t ht => ?_)
    have ht : t < 75 := by simpa [st_len, hC'] using ht
    rw [show ((List.range 75).map fun t => (st z m ++ C.drop 6).getD t 0 ^^^ E.getD t 0 ^^^ E'.getD t 0).getD t 0 = (st z m ++ C.drop 6).getD t 0 ^^^ E.getD t 0 ^^^ E'.getD t 0 by
      rw [List.getD_eq_getElem?_getD, List.getElem?_map, List.getElem?_range ht]; rfl]
    rw [getD_app, getD_app, st_len]
    by_cases h : t < 6
    · rw [if_pos h, if_pos h, h6 t h, SumMath.xor_undo]
    · rw [if_neg h, if_neg h]
      have d : ∀ l : List Nat, (l.drop 6).getD (t - 6) 0 = l.getD t 0 := by
        intro l
        rw [List.getD_eq_getElem?_getD, List.getElem?_drop, show 6 + (t - 6) = t by omega, List.getD_eq_getElem?_getD]
      rw [d, d, hx t ht]
  rw [e, SumMath.linear _ E E' 75 (by omega) (by omega) (by omega) bX lE lE', List.take_of_length_le (by omega), List.take_of_length_le (by omega), List.take_of_length_le (by omega), sE, sE', SumMath.xor_undo]

/-- bits turned twice -/
def twice (b : List Nat) (z1 : Int) (k1 : Nat) (z2 : Int) (k2 : Nat) : List Nat := corr (corr b z1 k1) z2 k2
theorem twice_len (b : List Nat) (z1 : Int) (k1 : Nat) (z2 : Int) (k2 : Nat) : (twice b z1 k1 z2 k2).length = b.length := by unfold twice; rw [corr_len, corr_len]
theorem twice_lt {b : List Nat} (z1 : Int) (k1 : Nat) (z2 : Int) (k2 : Nat) (h : ∀ c ∈ b, c < 256) : ∀ c ∈ twice b z1 k1 z2 k2, c < 256 := corr_lt _ _ _ (corr_lt _ _ _ h)
theorem twice_get (b : List Nat) (z1 : Int) (k1 : Nat) (z2 : Int) (k2 t : Nat) (ht : t < b.length) : (twice b z1 k1 z2 k2).getD t 0 = b.getD t 0 ^^^ over z1 k1 t ^^^ over z2 k2 t := by
  unfold twice
  rw [corr_get _ _ _ _ (by rw [corr_len]; exact ht), corr_get _ _ _ _ ht]

/-- **WHAT ANYBODY SAYS OF A TURNED FRAME DOES NOT HANG ON ITS PAYLOAD.** -/
theorem blind {E E' : List Nat} (z1 : Int) (k1 : Nat) (z2 : Int) (k2 : Nat) (hE : E.length = 75) (hE' : E'.length = 75) (lE : ∀ c ∈ E, c < 256) (lE' : ∀ c ∈ E', c < 256) (dE : decE E = 0) (dE' : decE E' = 0) (h7 : ∀ t, t < 7 → E.getD t 0 = E'.getD t 0) :
    (∀ q z m : Int, 0 ≤ m → m ≤ 65535 → accE (twice E z1 k1 z2 k2) q z m = accE (twice E' z1 k1 z2 k2) q z m) ∧ decE (twice E z1 k1 z2 k2) = decE (twice E' z1 k1 z2 k2) := by
  have lC := twice_lt z1 k1 z2 k2 lE; have lC' := twice_lt z1 k1 z2 k2 lE'
  have nC : (twice E z1 k1 z2 k2).length = 75 := by rw [twice_len, hE]
  have nC' : (twice E' z1 k1 z2 k2).length = 75 := by rw [twice_len, hE']
  have gC := fun t (ht : t < 75) => twice_get E z1 k1 z2 k2 t (by omega)
  have gC' := fun t (ht : t < 75) => twice_get E' z1 k1 z2 k2 t (by omega)
  have hd : ∀ t, t < 7 → (twice E z1 k1 z2 k2).getD t 0 = (twice E' z1 k1 z2 k2).getD t 0 := fun t ht => by rw [gC t (by omega), gC' t (by omega), h7 t ht]
  have hx : ∀ t, t < 75 → (twice E' z1 k1 z2 k2).getD t 0 = (twice E z1 k1 z2 k2).getD t 0 ^^^ E.getD t 0 ^^^ E'.getD t 0 := by
    intro t ht
    rw [gC t ht, gC' t ht]
    generalize E.getD t 0 = a; generalize E'.getD t 0 = b; generalize over z1 k1 t = c; generalize over z2 k2 t = d
    apply Nat.eq_of_testBit_eq
    intro i
    simp only [Nat.testBit_xor]
    generalize a.testBit i = a'; generalize b.testBit i = b'; generalize c.testBit i = c'; generalize d.testBit i = d'
    revert a' b' c' d'
    decide
  have hsum : ∀ z m : Int, 0 ≤ m → m ≤ 65535 → summed (twice E z1 k1 z2 k2) z m = summed (twice E' z1 k1 z2 k2) z m := by
    intro z m h0 h1
    have hs := st_lt z m h0 h1
    rw [Bool.eq_iff_iff, summed_iff nC lC z m hs, summed_iff nC' lC' z m hs,
      blind_sum z m nC nC' hE hE' lC lE lE' hs (fun t ht => h7 t (by omega)) hx 558161692 (dec_sealed E lE dE) (dec_sealed E' lE' dE')]
  generalize twice E z1 k1 z2 k2 = C at *
  generalize twice E' z1 k1 z2 k2 = C' at *
  have eS : slotB C = slotB C' := by unfold slotB; rw [hd 0 (by omega), hd 1 (by omega), hd 2 (by omega), hd 3 (by omega)]
  have eM : memB C = memB C' := by unfold memB; rw [hd 4 (by omega), hd 5 (by omega)]
  have eF : isFr C = isFr C' := by unfold isFr; rw [nC, nC', hd 6 (by omega), eS]
  have bM : memB C' ≤ 65535 := by
    have h4 := getD_lt lC' 4; have h5 := getD_lt lC' 5
    unfold memB
    omega
  refine ⟨fun q z m h0 h1 => ?_, ?_⟩
  · unfold accE meets
    rw [eF, hsum z m h0 h1, hd 6 (by omega), eS, eM]
  · unfold decE owns
    rw [eF, eS, eM, hsum _ _ (by omega) (by omega)]
end Go.Proofs.Ytecmpkbpngnpbaa
