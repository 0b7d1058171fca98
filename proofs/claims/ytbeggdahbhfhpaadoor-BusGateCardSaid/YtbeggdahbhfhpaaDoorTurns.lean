/-
  Of a configuration that may be, each node has one slot of a round, and the same one of each round.
-/
import Derived.Test.YtbeggdahbhfhpaaDoorChkA
import Derived.Deep.QuietTactic
import Derived.BigQuiet
namespace Go.Proofs.YtbeggdahbhfhpaaDoor
open Go.RowKit Go.Deep
set_option linter.unusedVariables false
set_option linter.unusedSimpArgs false

theorem ixF_at' : ∀ {l : List Int} {n : Int} {k : Nat}, ixF l n = (k : Int) → k < l.length ∧ l.getD k 0 = n
  | [], n, k, h => by simp [ixF] at h
  | x :: l, n, k, h => by
    simp only [ixF] at h
    split at h
    · rename_i e
      obtain rfl : k = 0 := by omega
      exact ⟨by simp, by simpa using e⟩
    · split at h
      · omega
      · obtain ⟨m, hm⟩ := Int.eq_ofNat_of_zero_le (show 0 ≤ ixF l n by omega)
        obtain ⟨h1, h2⟩ := ixF_at' hm
        obtain rfl : k = m + 1 := by omega
        exact ⟨by simp; omega, by simpa using h2⟩

theorem all_once : ∀ (n : Nat) (l : List Int), (∀ k : Nat, k < n → (k : Int) ∈ l) → n ≤ l.length ∧ (n = l.length → l.Nodup ∧ ∀ x ∈ l, 0 ≤ x ∧ x < n)
  | 0, l, h => ⟨Nat.zero_le _, fun e => by
    have : l = [] := List.length_eq_zero_iff.1 e.symm
    subst this; simp⟩
  | n + 1, l, h => by
    have hm := h n (Nat.lt_succ_self n)
    have hp := List.perm_cons_erase hm
    have hl : (l.erase (n : Int)).length + 1 = l.length := by have := hp.length_eq; simp at this; omega
    obtain ⟨a, b⟩ := all_once n (l.erase (n : Int)) (fun k hk => (List.mem_erase_of_ne (by omega)).2 (h k (by omega)))
    refine ⟨by omega, fun e => ?_⟩
    obtain ⟨b1, b2⟩ := b (by omega)
    refine ⟨hp.nodup_iff.2 (List.nodup_cons.2 ⟨fun hx => ?_, b1⟩), fun x hx => ?_⟩
    · have := b2 _ hx; omega
    · rcases List.mem_cons.1 (hp.mem_iff.1 hx) with rfl | hx
      · omega
      · have := b2 _ hx; omega

theorem turn_math (l : List Int) (N : Nat) (hN : l.length = N) (h : ∀ k : Nat, k < N → (k : Int) ∈ l) (n : Nat) (hn : n < N) :
    ∃ at_ : Nat, ixF l n = (at_ : Int) ∧ at_ < N ∧ ∀ i, i < N → (l.getD i 0 = (n : Int) ↔ i = at_) := by
  obtain ⟨_, h2⟩ := all_once N l h
  obtain ⟨hd, _⟩ := h2 hN.symm
  have hm := h n hn
  have h0 : 0 ≤ ixF l n := (ixF_mem l n).1 hm
  obtain ⟨a, ha⟩ := Int.eq_ofNat_of_zero_le h0
  obtain ⟨a1, a2⟩ := ixF_at' ha
  refine ⟨a, ha, by omega, fun i hi => ⟨fun e => ?_, fun e => by rw [e]; exact a2⟩⟩
  have hi' : i < l.length := by omega
  rw [List.getD_eq_getElem?_getD, List.getElem?_eq_getElem hi'] at e
  rw [List.getD_eq_getElem?_getD, List.getElem?_eq_getElem a1] at a2
  simp only [Option.getD_some] at e a2
  have hp := List.pairwise_iff_getElem.1 hd
  rcases Nat.lt_trichotomy i a with g | g | g
  · exact absurd (e.trans a2.symm) (hp i a hi' a1 g)
  · exact g
  · exact absurd (a2.trans e.symm) (hp a i a1 hi' g)

/-- whose a slot is -/
def ownF (c : Conf) (slot : Int) : Int := if slot < 0 ∨ c.nodes < 1 ∨ (c.owners.length : Int) ≠ c.nodes then -1 else c.owners.getD (slot % c.nodes).toNat 0

theorem turn_any (c : Conf) (d : Ad) (n : Int) (w : World) (h : ConfAt w c d) (hl : c.owners.length ≤ 9223372036854775807) :
    Calls Tryd.prog 182 #[c.val d, .int .i64 n] w fun e w' => e = .returned (.int .i64 (ixF c.owners n)) ∧ Below w.heap.size w w' := by
  have ha := (Below.refl w.heap.size w).alloc (Nat.le_refl _) (.cells (c.cells d) 28)
  have hx := boxed_new w c d 28
  have hO := hide (h.owners.of_below ha (Nat.le_refl _))
  clear h
  unfold Conf.val
  unfold Conf.cells at ha hx hO
  go_enter Tryd.func182, Tryd.ntmps182
  obtain ⟨hlt, e0, e1, e2, e3, e4, e5, e6, e7, e8, e9, e10, e11⟩ := hx
  go_wp2_with (go_at_call 157; refine (index_any c.owners _ _ _ _ hO.out hl).mono ?_; rintro e w' ⟨rfl, rfl⟩)
  go_ret
  exact ⟨rfl, ha⟩

set_option maxHeartbeats 400000 in
theorem owner_any (c : Conf) (d : Ad) (slot : Int) (w : World) (h : ConfAt w c d) :
    Calls Tryd.prog 55 #[c.val d, .int .i64 slot] w fun e w' => e = .returned (.int .i64 (ownF c slot)) ∧ Below w.heap.size w w' := by
  unfold Conf.val
  have hO := h.owners
  have hL := h.oLen
  by_cases h1 : slot < 0
  · have H : Hid (ownF c slot = -1) := by show _ = _; unfold ownF; rw [if_pos (.inl h1)]
    go_enter Tryd.func55, Tryd.ntmps55
    go_wp2
    go_ret
    exact ⟨by rw [H]; rfl, (Below.refl _ _).alloc (Nat.le_refl _) _⟩
  by_cases h2 : c.nodes < 1
  · have H : Hid (ownF c slot = -1) := by show _ = _; unfold ownF; rw [if_pos (.inr (.inl h2))]
    go_enter Tryd.func55, Tryd.ntmps55
    go_wp2
    go_ret
    exact ⟨by rw [H]; rfl, (Below.refl _ _).alloc (Nat.le_refl _) _⟩
  by_cases h3 : (c.owners.length : Int) = c.nodes
  · have H : Hid (ownF c slot = c.owners.getD (slot % c.nodes).toNat 0) := by show _ = _; unfold ownF; rw [if_neg (by omega)]
    have hm0 := Int.emod_nonneg slot (b := c.nodes) (by omega)
    have hm1 := Int.emod_lt_of_pos slot (b := c.nodes) (by omega)
    have ht : slot.tmod c.nodes = slot % c.nodes := Int.tmod_eq_emod_of_nonneg (by omega)
    generalize hk : slot % c.nodes = k at *
    obtain ⟨i, rfl⟩ : ∃ i : Nat, k = (i : Int) := ⟨k.toNat, by omega⟩
    rcases hO.2 with h0 | ⟨b, off, hA, hlt, hc⟩
    · omega
    have hci := hc i (by omega)
    simp only [Nat.mul_one] at hci
    have bel := (Below.refl w.heap.size w)
    go_enter Tryd.func55, Tryd.ntmps55
    go_wp2
    go_region
    go_wp2
    go_ret
    exact ⟨by rw [H]; simp, ((Below.refl _ _).alloc (Nat.le_refl _) _).drew⟩
  · have H : Hid (ownF c slot = -1) := by show _ = _; unfold ownF; rw [if_pos (.inr (.inr h3))]
    go_enter Tryd.func55, Tryd.ntmps55
    go_wp2
    go_ret
    exact ⟨by rw [H]; rfl, (Below.refl _ _).alloc (Nat.le_refl _) _⟩
end Go.Proofs.YtbeggdahbhfhpaaDoor
