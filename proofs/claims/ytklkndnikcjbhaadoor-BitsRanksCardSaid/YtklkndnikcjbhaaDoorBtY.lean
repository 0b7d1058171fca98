/-
  The document's Unrank.
-/
import Derived.Test.YtklkndnikcjbhaaDoorBtX
import Derived.Test.YtklkndnikcjbhaaDoorBtN
namespace Go.Proofs.YtklkndnikcjbhaaDoor
open Go.RowKit Go.Shelf
set_option linter.unusedVariables false
set_option linter.unusedSimpArgs false

theorem subV_60 (k : Int) : ∃ a e : Int, subV 60 k = .tuple #[.int .u64 a, .int .i64 e] ∧ ((k < 0 ∨ 60 < k) → a = 0) ∧ (0 ≤ k → k ≤ 60 → a = (ch 60 k.toNat : Nat)) := by
  unfold subV
  rw [if_neg (by decide)]
  by_cases h : k < 0 ∨ 60 < k
  · rw [if_pos (by omega)]
    exact ⟨0, 0, rfl, fun _ => rfl, fun h1 h2 => by omega⟩
  · rw [if_neg (by omega)]
    exact ⟨_, _, rfl, fun h' => absurd h' h, fun _ _ => rfl⟩

set_option maxRecDepth 100000 in
set_option maxHeartbeats 4000000 in
theorem runrank_at (k : Int) (r : Nat) (hr : r < 18446744073709551616) (w : World) :
    Calls Tryd.prog 27 #[.int .i64 k, .int .u64 r] w fun e w' => e = .returned (unV k r) ∧ Below w.heap.size w w' := by
  by_cases h1 : k < 0 ∨ 60 < k
  · have H := hide (show unV k r = .tuple #[.int .u64 0, .int .i64 120] from if_pos (by omega))
    obtain ⟨a, e, hs, ha, _⟩ := subV_60 k
    obtain rfl := ha h1
    have HS := hide (fun W => rsub_at 60 k W)
    rw [hs] at HS
    clear hs ha h1
    go_enter Tryd.func27, Tryd.ntmps27
    go_wp2_with fail
    refine (HS.out _).mono ?_
    rintro e w' ⟨rfl, rfl⟩
    go_wp2_with fail
    go_ret2
    exact ⟨by rw [H.out]; rfl, Below.refl _ _⟩
  · obtain ⟨k, rfl⟩ := Int.eq_ofNat_of_zero_le (show 0 ≤ k by omega)
    have hk : k ≤ 60 := by omega
    have HV := hide (show unV (k : Int) r = if ch 60 k ≤ r then .tuple #[.int .u64 0, .int .i64 120] else .tuple #[.int .u64 (un 60 k r : Nat), .int .i64 0] from by
      unfold unV
      rw [Int.toNat_natCast]
      by_cases h3 : ch 60 k ≤ r
      · rw [if_pos (.inr (.inr h3)), if_pos h3]
      · rw [if_neg (by omega), if_neg h3])
    have HS := hide (fun W => rsub_at 60 k W)
    rw [show subV 60 (k : Int) = .tuple #[.int .u64 (ch 60 k : Nat), .int .i64 0] from subV_of (n := 60) (by decide)] at HS
    have hz := (zero_of_info info_bc).1
    clear h1
    by_cases h3 : ch 60 k ≤ r
    · rw [if_pos h3] at HV
      have h3i : (ch 60 k : Int) ≤ (r : Int) := by omega
      generalize ch 60 k = c60 at *
      go_enter Tryd.func27, Tryd.ntmps27
      go_wp2_with fail
      refine (HS.out _).mono ?_
      rintro e w' ⟨rfl, rfl⟩
      go_wp2_with fail
      go_ret2
      exact ⟨by rw [HV.out]; rfl, Below.refl _ _⟩
    · rw [if_neg h3] at HV
      have hI := UnI.first hk hr (by omega)
      have HT := hide (un_lt 60 k r)
      have h3i : ¬ (ch 60 k : Int) ≤ (r : Int) := by omega
      generalize un 60 k r = T at *
      generalize ch 60 k = c60 at *
      have hd0 : decide (c60 ≤ r) = false := decide_eq_false h3
      have HI := hide hI
      have HNum := hide (fun (f : Nat → Bool) W => number_at f W)
      clear hI h3
      go_enter Tryd.func27, Tryd.ntmps27
      go_wp2_with fail
      refine (HS.out _).mono ?_
      rintro e w' ⟨rfl, rfl⟩
      go_wp2_with fail
      have HRow := hide (heap_alloc_new w (.cells (bc fun _ => false) 60))
      have HB := hide (bal w (.cells (bc fun _ => false) 60))
      generalize w.alloc (.cells (bc fun _ => false) 60) = w1 at HRow HB ⊢
      clear hz
      go_loopw [0, 1, 9] (fun kv rv i wr => ∃ (n k r s : Nat) (f : Nat → Bool), n ≤ 60 ∧ kv = .int .i64 k ∧ rv = .int .u64 r ∧ i = .int .i64 ((n : Int) - 1) ∧ UnI T n k r s ∧ (∀ j, j < 64 → f j = (decide (n ≤ j) && T.testBit j)) ∧ Below w.heap.size w wr ∧ wr.heap[w.heap.size]? = some (.cells (bc f) 60 (0, 0))) (fun _ _ i _ => (intOf i + 1).toNat)
      case atStart => exact ⟨60, k, r, 0, fun _ => false, by omega, rfl, rfl, rfl, HI.out, fun j hj => by
        by_cases h : 60 ≤ j
        · rw [Nat.testBit_lt_two_pow (Nat.lt_of_lt_of_le HT.out (Nat.pow_le_pow_right (n := 2) (by decide) h))]; simp
        · simp [h], HB.out, HRow.out⟩
      case round =>
        obtain ⟨n, k, r, s, f, hn, rfl, rfl, rfl, hI, hf, hb, hrow⟩ := hrel
        clear h3i HI HRow HB
        cases n with
        | zero =>
          have hX := hide (show numb f 64 = T from numb_of (by have := HT.out; omega) fun i hi => by rw [hf i hi]; simp)
          have H1 := hide hrow
          have HB := hide hb
          clear hI hf hrow hb
          go_wp2_with (first
            | (refine wpList_load_row rfl 60 (.tmp 8) rfl w.heap.size rfl 60 (bc f) (0, 0) _ H1.out Tryd.underlying60 rfl (bc_info _) ?_))
          refine (HNum.out f _).mono ?_
          rintro e w2 ⟨rfl, hb2⟩
          have HB2 := hide (HB.out.trans (hb2.mono HB.out.size))
          rw [hX.out]
          clear hb2
          go_wp2_with fail
          go_ret2
          exact ⟨by rw [HV.out]; rfl, HB2.out⟩
        | succ n =>
          have e1 : ((n + 1 : Nat) : Int) - 1 = (n : Int) := by omega
          rw [e1]
          have hk60 := hI.k60
          have HSn := hide (fun W => rsub_at n k W)
          rw [subV_of (show n ≤ 60 by omega)] at HSn
          have hch := ch_64 (n := n) (by omega) k
          have hr64 := hI.r64
          by_cases hc : ch n k ≤ r
          · obtain ⟨a1, a2, a3⟩ := hI.yes (by omega) HT.out hc
            have HA := hide a2
            have hbit := hide (show T.testBit n = true from by
              have h := ((un_step hI.lt).1 hc).2.2.1
              rw [hI.rest, Nat.testBit_mod_two_pow] at h
              simpa using h)
            have hcell : wr.cell? ⟨w.heap.size, n, none⟩ = some (.bool (f n)) := by rw [cell_of_row _ _ _ _ _ _ hrow, bc_get _ _ (by omega)]
            have hfz : wr.frozen? ⟨w.heap.size, n, none⟩ = false := by simp [World.frozen?, hrow]
            have HRow := hide (show (wr.setCell ⟨w.heap.size, n, none⟩ (.bool true)).heap[w.heap.size]? = some (.cells (bc fun i => if i = n then true else f i) 60 (0, 0)) from by rw [set_cells hrow, bc_set])
            have HB := hide (hb.setCell (p := ⟨w.heap.size, n, none⟩) (Nat.le_refl _) (.bool true))
            have HF := hide hf
            generalize ch n k = c at *
            generalize f n = b0 at hcell
            have d1 : decide ((k : Int) > 0) = true := decide_eq_true (by omega)
            have d2 : decide (0 < k) = true := decide_eq_true (by omega)
            have d3 : decide ((c : Int) ≤ (r : Int)) = true := decide_eq_true (by omega)
            have d4 : decide (c ≤ r) = true := decide_eq_true hc
            clear hI a2 hf hb hrow
            go_wp2_with fail
            refine (HSn.out _).mono ?_
            rintro e w' ⟨rfl, rfl⟩
            go_wp2_with fail
            go_roundw
            case rel =>
              refine ⟨n, k - 1, r - c, s ||| 2 ^ n, fun i => if i = n then true else f i, by omega, ?_, ?_, rfl, HA.out, fun j hj => ?_, HB.out, HRow.out⟩
              · congr 1; omega
              · congr 1; omega
              · dsimp only
                by_cases e : j = n
                · subst e; simp [hbit.out]
                · rw [if_neg e, HF.out j hj]
                  by_cases h : n + 1 ≤ j
                  · simp [h, show n ≤ j by omega]
                  · simp [h, show ¬ n ≤ j by omega]
            case measure => simp [intOf]
          · have HA := hide (hI.no hc)
            have hbit := hide (show T.testBit n = false from by
              have h := ((un_step hI.lt).2 hc).1
              rw [hI.rest, Nat.testBit_mod_two_pow] at h
              simpa using h)
            have HRow := hide hrow
            have HB := hide hb
            have HF := hide hf
            generalize ch n k = c at *
            clear hI hf hb hrow
            go_wp2_with fail
            refine (HSn.out _).mono ?_
            rintro e w' ⟨rfl, rfl⟩
            go_wp2_with fail
            all_goals
              go_roundw
              case rel =>
                refine ⟨n, k, r, s, f, by omega, rfl, rfl, rfl, HA.out, fun j hj => ?_, HB.out, HRow.out⟩
                rw [HF.out j hj]
                by_cases e : j = n
                · subst e; simp [hbit.out]
                · by_cases h : n + 1 ≤ j
                  · simp [h, show n ≤ j by omega]
                  · simp [h, show ¬ n ≤ j by omega]
              case measure => simp [intOf]
end Go.Proofs.YtklkndnikcjbhaaDoor
