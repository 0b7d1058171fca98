/-
  A frame that may be sent, made of any one: right.
-/
import Derived.Test.YtihldmcakcobaaaOwn
namespace Go.Proofs.Ytihldmcakcobaaa
open Go.RowKit
set_option linter.unusedVariables false

theorem i64_mask (x : Int) (k : Nat) (hk : k < 63) : bits .and .i64 x ((2 ^ k - 1 : Nat) : Int) = x % (2 ^ k : Nat) := by
  have h2 : 2 ^ k < 2 ^ 63 := Nat.pow_lt_pow_right (by omega) hk
  have h3 : 0 < 2 ^ k := Nat.pos_of_ne_zero (by simp)
  show IntKind.i64.wrap ((BitVec.ofInt 64 x &&& BitVec.ofInt 64 ((2 ^ k - 1 : Nat) : Int)).toNat : Int) = _
  rw [BitVec.toNat_and, BitVec.ofInt_natCast, BitVec.toNat_ofNat, Nat.mod_eq_of_lt (show 2 ^ k - 1 < 2 ^ 64 by omega), Nat.and_two_pow_sub_one_eq_mod, BitVec.toNat_ofInt]
  have hd : ((2 ^ k : Nat) : Int) ∣ ((2 ^ 64 : Nat) : Int) := by
    refine Int.natCast_dvd_natCast.2 (Nat.pow_dvd_pow 2 (by omega))
  have h5 : ((((x % ((2 ^ 64 : Nat) : Int)).toNat % 2 ^ k : Nat) : Nat) : Int) = x % ((2 ^ k : Nat) : Int) := by
    rw [Int.natCast_emod, Int.toNat_of_nonneg (Int.emod_nonneg _ (by decide)), Int.emod_emod_of_dvd _ hd]
  rw [h5]
  have h6 := Int.emod_nonneg x (show ((2 ^ k : Nat) : Int) ≠ 0 by omega)
  have h7 := Int.emod_lt_of_pos x (show 0 < ((2 ^ k : Nat) : Int) by omega)
  rw [IntKind.wrap_i64]
  omega

/-- the owner and the slot of a frame that may be sent -/
def ro (o : Int) : Nat := (o % 16).toNat
def rs (s : Int) : Int := s % 2147483648
theorem ro_lt (o : Int) : ro o < 16 := by unfold ro; omega
theorem rs_lo (s : Int) : 0 ≤ rs s := by unfold rs; omega
theorem rs_hi (s : Int) : rs s ≤ 2147483647 := by unfold rs; omega
theorem and_15 (o : Int) : bits .and .i64 o 15 = ((ro o : Nat) : Int) := by
  have h := i64_mask o 4 (by omega)
  have h2 : bits .and .i64 o 15 = o % 16 := h
  rw [h2]; unfold ro; omega
theorem and_31 (s : Int) : bits .and .i64 s 2147483647 = rs s := i64_mask s 31 (by omega)

set_option maxRecDepth 100000 in
set_option maxHeartbeats 1000000 in
theorem right_any (o s m : Int) (p : List Nat) (w : World) (hp : p.length = 64) :
    Calls Try.prog 21 #[.agg (frv o s m p)] w fun e w' => e = .returned (.agg (frv (ro o : Nat) (rs s) m p)) ∧ Below w.heap.size w w' := by
  have hz := (zero_of_info info_fr).1
  obtain ⟨F, hF⟩ : ∃ F, frv o s m p = F := ⟨_, rfl⟩
  have f0 : F[0]? = some (.int .i64 o) := by rw [← hF]; exact frv_0 _ _ _ _
  have f1 : F[1]? = some (.int .i64 s) := by rw [← hF]; exact frv_1 _ _ _ _
  have hset : (F.setIfInBounds 0 (.int .i64 (ro o : Nat))).setIfInBounds 1 (.int .i64 (rs s)) = frv (ro o : Nat) (rs s) m p := by
    rw [← hF]; simp [frv]
  have hGs : (frv (ro o : Nat) (rs s) m p).size = 67 := by rw [frv_size, hp]
  have hG1 := frv_one (ro o : Nat) (rs s) m p
  obtain ⟨G, hG⟩ : ∃ G, frv (ro o : Nat) (rs s) m p = G := ⟨_, rfl⟩
  rw [hG] at hset hGs hG1
  rw [hF]
  have a15 := and_15 o
  have a31 := and_31 s
  have HS := hide fr0_size; have GS := hide hGs; have G1 := hide hG1; have HSET := hide hset; have HG := hide hG; have A15 := hide a15; have A31 := hide a31
  clear hset hGs hG1 hF hG a15 a31 hp
  obtain ⟨w1, hw1⟩ : ∃ w1, (w.alloc (.cells F 27)).alloc (.cells fr0 27) = w1 := ⟨_, rfl⟩
  have r1 : w1.heap[w.heap.size]? = some (.cells F 27 (0, 0)) := by rw [← hw1]; exact heap_alloc2_old w _ _
  have r2 : w1.heap[w.heap.size + 1]? = some (.cells fr0 27 (0, 0)) := by rw [← hw1]; exact heap_alloc2_new w _ _
  have hb : Below w.heap.size w w1 := by rw [← hw1]; exact (bal w _).alloc (by simp) _
  have c0 : w1.cell? ⟨w.heap.size, 0, none⟩ = some (.int .i64 o) := by rw [cell_of_row _ _ _ _ _ _ r1]; exact f0
  have z0 : w1.frozen? ⟨w.heap.size, 0, none⟩ = false := frozen_of_row _ _ _ _ _ r1
  obtain ⟨w2, hw2⟩ : ∃ w2, w1.setCell ⟨w.heap.size, 0, none⟩ (.int .i64 (ro o : Nat)) = w2 := ⟨_, rfl⟩
  have q1 : w2.heap[w.heap.size]? = some (.cells (F.setIfInBounds 0 (.int .i64 (ro o : Nat))) 27 (0, 0)) := by rw [← hw2]; exact heap_setCell_same _ _ _ _ _ _ r1
  have q2 : w2.heap[w.heap.size + 1]? = some (.cells fr0 27 (0, 0)) := by rw [← hw2, heap_setCell_other _ _ _ _ (show w.heap.size + 1 ≠ w.heap.size by omega)]; exact r2
  have hb2 : Below w.heap.size w w2 := by rw [← hw2]; exact hb.setCell (p := ⟨w.heap.size, 0, none⟩) (Nat.le_refl _) _
  have c1 : w2.cell? ⟨w.heap.size, 1, none⟩ = some (.int .i64 s) := by rw [cell_of_row _ _ _ _ _ _ q1, Array.getElem?_setIfInBounds_ne (by omega)]; exact f1
  have z1 : w2.frozen? ⟨w.heap.size, 1, none⟩ = false := frozen_of_row _ _ _ _ _ q1
  obtain ⟨w3, hw3⟩ : ∃ w3, w2.setCell ⟨w.heap.size, 1, none⟩ (.int .i64 (rs s)) = w3 := ⟨_, rfl⟩
  have p1 : w3.heap[w.heap.size]? = some (.cells G 27 (0, 0)) := by rw [← hw3, ← HSET.out]; exact heap_setCell_same _ _ _ _ _ _ q1
  have p2 : w3.heap[w.heap.size + 1]? = some (.cells fr0 27 (0, 0)) := by rw [← hw3, heap_setCell_other _ _ _ _ (show w.heap.size + 1 ≠ w.heap.size by omega)]; exact q2
  have hb3 : Below w.heap.size w w3 := by rw [← hw3]; exact hb2.setCell (p := ⟨w.heap.size, 1, none⟩) (Nat.le_refl _) _
  have P1 := hide p1; have P2 := hide p2
  have a15 := A15.out
  have a31 := A31.out
  clear r1 r2 q1 q2 p1 p2 f0 f1 hb hb2
  go_enter Try.func21, Try.ntmps21
  go_wp2_with (first
    | (refine wpList_load_row rfl 27 (.tmp 1) rfl w.heap.size rfl 27 G (0, 0) _ P1.out Try.underlying27 rfl (fr_info GS.out) ?_)
    | (refine wpList_store_row rfl 27 (.tmp 2) (.tmp 13) rfl (w.heap.size + 1) G rfl rfl 27 _ P2.out (fr_info GS.out) (by rw [HS.out, GS.out]) G1.out ?_))
  refine bodyPost_ret (results_cell_row (fn := Try.f21) rfl _ _ (w.heap.size + 1) 27 G (0, 0) _ rfl (setRow_heap _ _ _ _ _ _ P2.out) Try.underlying27 rfl (fr_info GS.out)) rfl ⟨by rw [HG.out], below_setRow hb3 (by omega) _⟩
end Go.Proofs.Ytihldmcakcobaaa
