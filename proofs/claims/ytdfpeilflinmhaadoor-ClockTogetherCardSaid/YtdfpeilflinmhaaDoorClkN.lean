/-
  A new clock.
-/
import Derived.Test.YtdfpeilflinmhaaDoorClkE
import Derived.Test.YtdfpeilflinmhaaDoorChkP
namespace Go.Proofs.YtdfpeilflinmhaaDoor
open Go.RowKit Go.Deep
set_option linter.unusedVariables false
set_option linter.unusedSimpArgs false

theorem ck_zero {c : Conf} (h : checkF c = 0) : ∃ N : Nat, c.nodes = N ∧ 4 ≤ N ∧ N ≤ 16 ∧ (0 ≤ c.drift ∧ c.drift ≤ 1048576) ∧ (0 ≤ c.reading ∧ c.reading ≤ 1048576) ∧ (2 * precF c + c.reading ≤ c.margin ∧ c.margin ≤ 16777216) ∧ (2 * precF c + c.reading ≤ c.bound ∧ c.bound ≤ 16777216) := by
  unfold checkF checkW at h
  split at h
  · cases h
  rename_i h1
  split at h
  · cases h
  rename_i h2
  have hN := Decidable.not_not.1 h1
  have hC : ClockK c = true := by simpa using h2
  obtain ⟨n1, n2, _⟩ := hN
  obtain ⟨N, hn⟩ := Int.eq_ofNat_of_zero_le (show 0 ≤ c.nodes by omega)
  simp only [ClockK, inB, Bool.and_eq_true, decide_eq_true_eq] at hC
  obtain ⟨⟨⟨⟨⟨a1, a2⟩, a3⟩, a4⟩, _⟩, _⟩ := hC
  exact ⟨N, hn, by omega, by omega, a1, a2, a3, a4⟩
def ckOf (c : Conf) : Ck := ⟨c.nodes, c.drift, c.reading, c.margin, c.bound, 0, zero16⟩
/-- what New answers -/
def NewPost (c : Conf) (w : World) (e : Ending) (w' : World) : Prop :=
  Below w.heap.size w w' ∧ ((checkF c ≠ 0 ∧ e = .returned (.tuple #[.pointer none, .int .i64 (checkF c)])) ∨ (checkF c = 0 ∧ ∃ g, w.heap.size ≤ g ∧ e = .returned (.tuple #[.pointer (some ⟨g, 0, none⟩), .int .i64 0]) ∧ CkAt w' g (ckOf c)))

set_option maxRecDepth 100000 in
set_option maxHeartbeats 1000000 in
theorem new_at (c : Conf) (d : Ad) (w : World) (hg : Glo w) (h : ConfAt w c d) : Calls Tryd.prog 29 #[c.val d] w (NewPost c w) := by
  have hS := CfS.first 28 hg h
  have HC := hide (fun W (H : CfS w W c d) => check_any c d W H.g H.cf)
  have HP : Hid (∀ e w', NewPost c w e w' ↔ Below w.heap.size w w' ∧ ((checkF c ≠ 0 ∧ e = .returned (.tuple #[.pointer none, .int .i64 (checkF c)])) ∨ (checkF c = 0 ∧ ∃ g, w.heap.size ≤ g ∧ e = .returned (.tuple #[.pointer (some ⟨g, 0, none⟩), .int .i64 0]) ∧ CkAt w' g (ckOf c)))) := fun _ _ => Iff.rfl
  have HK : Hid (ckOf c = ⟨c.nodes, c.drift, c.reading, c.margin, c.bound, 0, zero16⟩) := rfl
  generalize ckOf c = kk at HP HK
  generalize NewPost c w = PP at HP ⊢
  generalize checkF c = f at HC HP
  clear hg h
  obtain ⟨oA, oC, pA, pC, wA, wC, qA, qC, lA, lC⟩ := d
  obtain ⟨nodes, owners, drift, reading, margin, bound, rejoin, quota, parts, windows, ports, links⟩ := c
  unfold Conf.val at HC ⊢
  unfold Conf.cells at hS
  dsimp only at hS HC HK ⊢
  obtain ⟨hb, ⟨hl, e0, e1, e2, e3, e4, e5, e6, e7, e8, e9, e10, e11⟩, _, _⟩ := id hS
  dsimp only at e0 e1 e2 e3 e4 e5 e6 e7 e8 e9 e10 e11
  have HS := hide hS
  clear hS hb
  go_enter Tryd.func29, Tryd.ntmps29
  by_cases hf : f = 0
  · subst hf
    go_wp2_with (go_at_call 15; refine (HC.out _ HS.out).mono ?_; rintro e w1 ⟨rfl, hb1⟩; have HT := hide (HS.out.below hb1); clear hb1 hl e0 e1 e2 e3 e4 e5 e6 e7 e8 e9 e10 e11; obtain ⟨_, ⟨hl, e0, e1, e2, e3, e4, e5, e6, e7, e8, e9, e10, e11⟩, _, _⟩ := HT.out; dsimp only at e0 e1 e2 e3 e4 e5 e6 e7 e8 e9 e10 e11)
    have hk := heap_alloc_new w1 (.cells (kk.cells w1.heap.size).toArray 159)
    rw [HK.out] at hk
    refine (HP.out _ _).2 ⟨HT.out.bel.trans ((bal w1 _).mono HT.out.bel.size), .inr ⟨by first | trivial | rfl, w1.heap.size, HT.out.bel.size, rfl, ?_⟩⟩
    rw [HK.out]
    exact ⟨hk, rfl⟩
  · have hne : (f != 0) = true := by simpa using hf
    go_wp2_with (go_at_call 15; refine (HC.out _ HS.out).mono ?_; rintro e w1 ⟨rfl, hb1⟩; have HT := hide (HS.out.below hb1); clear hb1 hl e0 e1 e2 e3 e4 e5 e6 e7 e8 e9 e10 e11)
    exact (HP.out _ _).2 ⟨HT.out.bel, .inl ⟨hf, rfl⟩⟩
end Go.Proofs.YtdfpeilflinmhaaDoor
