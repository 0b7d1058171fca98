/-
  The bus: a new one.
-/
import Derived.Test.YtbeggdahbhfhpaaDoorBuD
import Derived.Test.YtbeggdahbhfhpaaDoorChkP
import Derived.Test.YtbeggdahbhfhpaaDoorShelfN
namespace Go.Proofs.YtbeggdahbhfhpaaDoor
open Go.RowKit Go.Deep
set_option linter.unusedVariables false
set_option linter.unusedSimpArgs false

theorem own_turns {W : World} {base : Nat} {v : Value} {N : Nat} {ow : List Int} (hN : ow.length = N) (h0 : N ≠ 0) (hn16 : N ≤ 16) (hl : ∀ z ∈ ow, I64 z) (h : W.ownsRow base 3 1 v N (ow.map (Value.int .i64))) :
    ∃ ob oc, v = .slice (some ⟨ob, 0, none⟩) ow.length oc ∧ base ≤ ob ∧ ob < W.heap.size ∧ ConfAt W (turnsC ⟨N, ow, 0, 0⟩) (turnsA ob oc) := by
  obtain ⟨_, ⟨_, h1⟩ | ⟨g, cap, cur, rfl, hg, hb, hc1, hc2, hc3, hc4⟩⟩ := h
  · exact absurd h1 h0
  have z : I64 0 := by unfold I64; constructor <;> omega
  have hlt := (Array.getElem?_eq_some_iff.1 hb).1
  refine ⟨g, cap, by rw [hN], hg, hlt, ?_⟩
  refine { nodes := ?_, drift := z, reading := z, margin := z, bound := z, rejoin := z, quota := z, owners := ⟨hl, .inr ⟨g, 0, rfl, hlt, ?_⟩⟩, parts := ⟨fun z hz => (by cases hz), .inl rfl⟩, windows := .inl rfl, ports := ⟨fun z hz => (by cases hz), .inl rfl⟩, links := ⟨fun z hz => (by cases hz), .inl rfl⟩, oLen := ⟨by show ow.length ≤ cap; omega, hc2⟩, pLen := ⟨Nat.le_refl _, Nat.zero_le _⟩, wLen := ⟨Nat.le_refl _, Nat.zero_le _⟩, qLen := ⟨Nat.le_refl _, Nat.zero_le _⟩, lLen := ⟨Nat.le_refl _, Nat.zero_le _⟩ }
  · show I64 ((N : Nat) : Int)
    unfold I64
    constructor <;> omega
  · intro i hi
    replace hi : i < ow.length := hi
    show W.cell? ⟨g, 0 + i * 1, none⟩ = _
    rw [show 0 + i * 1 = i by omega, bcellOf hb]
    have h5 : (cur.toList.take (N * 1))[i]? = some (Value.int .i64 (ow.getD i 0)) := by
      rw [hc4, List.getElem?_map, List.getElem?_eq_getElem hi, List.getD_eq_getElem?_getD, List.getElem?_eq_getElem hi]
      rfl
    rw [List.getElem?_take_of_lt (by omega)] at h5
    rw [← Array.getElem?_toList]
    exact h5

theorem bu_new {W : World} {ob oc : Nat} {ow : List Int} (t : TypeId) (h : ConfAt W (turnsC ⟨ow.length, ow, 0, 0⟩) (turnsA ob oc)) (hl : ob < W.heap.size) :
    BuAt (W.alloc (.cells #[.pointer (some ⟨W.heap.size, 0, none⟩), .int .i64 (ow.length : Int), .slice (some ⟨ob, 0, none⟩) ow.length oc, .int .i64 0, .int .i64 0, .int .i64 0, .int .i64 0, .int .i64 0, .int .i64 0, .slice none 0 0, .slice none 0 0, .slice none 0 0, .slice none 0 0, .int .u64 0, .int .u64 0] t)) W.heap.size ob oc ⟨ow.length, ow, 0, 0⟩ := by
  have hn := heap_alloc_new W (.cells #[.pointer (some ⟨W.heap.size, 0, none⟩), .int .i64 (ow.length : Int), .slice (some ⟨ob, 0, none⟩) ow.length oc, .int .i64 0, .int .i64 0, .int .i64 0, .int .i64 0, .int .i64 0, .int .i64 0, .slice none 0 0, .slice none 0 0, .slice none 0 0, .slice none 0 0, .int .u64 0, .int .u64 0] t)
  have hb := bal W (.cells #[.pointer (some ⟨W.heap.size, 0, none⟩), .int .i64 (ow.length : Int), .slice (some ⟨ob, 0, none⟩) ow.length oc, .int .i64 0, .int .i64 0, .int .i64 0, .int .i64 0, .int .i64 0, .int .i64 0, .slice none 0 0, .slice none 0 0, .slice none 0 0, .slice none 0 0, .int .u64 0, .int .u64 0] t)
  generalize W.alloc (.cells #[.pointer (some ⟨W.heap.size, 0, none⟩), .int .i64 (ow.length : Int), .slice (some ⟨ob, 0, none⟩) ow.length oc, .int .i64 0, .int .i64 0, .int .i64 0, .int .i64 0, .int .i64 0, .int .i64 0, .slice none 0 0, .slice none 0 0, .slice none 0 0, .slice none 0 0, .int .u64 0, .int .u64 0] t) = W2 at hn hb
  have key : ∀ j, j < 12 → (#[.pointer (some ⟨W.heap.size, 0, none⟩), .int .i64 (ow.length : Int), .slice (some ⟨ob, 0, none⟩) ow.length oc, .int .i64 0, .int .i64 0, .int .i64 0, .int .i64 0, .int .i64 0, .int .i64 0, .slice none 0 0, .slice none 0 0, .slice none 0 0, .slice none 0 0, .int .u64 0, .int .u64 0] : Array Value)[1 + j]? = ((turnsC ⟨ow.length, ow, 0, 0⟩).val (turnsA ob oc)).cells[j]? := fun j hj => by
    have : j = 0 ∨ j = 1 ∨ j = 2 ∨ j = 3 ∨ j = 4 ∨ j = 5 ∨ j = 6 ∨ j = 7 ∨ j = 8 ∨ j = 9 ∨ j = 10 ∨ j = 11 := by omega
    rcases this with rfl | rfl | rfl | rfl | rfl | rfl | rfl | rfl | rfl | rfl | rfl | rfl <;> rfl
  refine ⟨(Array.getElem?_eq_some_iff.1 hn).1, (bcellOf hn 0).trans rfl, fun j v hv => ?_, (bcellOf hn 13).trans rfl, (bcellOf hn 14).trans rfl, fun j => by unfold World.frozen?; rw [hn]; rfl, h.of_below hb (Nat.le_refl _), Nat.lt_of_lt_of_le hl hb.size, Nat.ne_of_lt hl⟩
  have hj : j < 12 := by
    rcases Nat.lt_or_ge j 12 with h | h
    · exact h
    · have : ((turnsC ⟨ow.length, ow, 0, 0⟩).val (turnsA ob oc)).cells.size = 12 := rfl
      rw [Array.getElem?_eq_none (by omega)] at hv; cases hv
  rw [bcellOf hn, key j hj]
  exact hv

def bu0 (c : Conf) : Bu := ⟨c.owners.length, c.owners, 0, 0⟩
def BNew (c : Conf) (w : World) (e : Ending) (w' : World) : Prop :=
  Below w.heap.size w w' ∧ ((checkF c ≠ 0 ∧ e = .returned (.tuple #[.pointer none, .int .i64 (checkF c)])) ∨ (checkF c = 0 ∧ ∃ g ob oc, w.heap.size ≤ g ∧ w.heap.size ≤ ob ∧ e = .returned (.tuple #[.pointer (some ⟨g, 0, none⟩), .int .i64 0]) ∧ BuAt w' g ob oc (bu0 c)))
theorem bzero {c : Conf} (h : checkF c = 0) : c.nodes = c.owners.length ∧ 4 ≤ c.owners.length ∧ c.owners.length ≤ 16 ∧ ∀ n : Nat, n < c.owners.length → (n : Int) ∈ c.owners := by
  unfold checkF checkW at h
  split at h
  · cases h
  rename_i h1
  obtain ⟨n1, n2, n3, n4⟩ := Decidable.not_not.1 h1
  exact ⟨by omega, by omega, by omega, n4⟩

set_option maxRecDepth 100000 in
set_option maxHeartbeats 1000000 in
theorem bnew_at (c : Conf) (d : Ad) (w : World) (hg : Glo w) (h : ConfAt w c d) : Calls Tryd.prog 16 #[c.val d] w (BNew c w) := by
  have hS := CfS.first 28 hg h
  have HC := hide (fun W (H : CfS w W c d) => check_any c d W H.g H.cf)
  have HCl : Hid (checkF c = 0 → ∀ W, CfS w W c d → Calls Tryd.prog 52 #[.slice d.oA c.owners.length d.oC] W fun e w' => ∃ ob oc, e = .returned (.slice (some ⟨ob, 0, none⟩) c.owners.length oc) ∧ W.heap.size ≤ ob ∧ ob < w'.heap.size ∧ ConfAt w' (turnsC (bu0 c)) (turnsA ob oc) ∧ Below W.heap.size W w') := fun hz W H => by
    obtain ⟨b1, b2, b3, _⟩ := bzero hz
    obtain ⟨o1, o2 | ⟨b, off, e, hlt, hc⟩⟩ := H.cf.owners
    · omega
    rw [e]
    refine (Tryd.slices_Clone_int b off c.owners.length d.oC c.owners W (Nat.le_refl _) (by omega) (fun j hj => by have := hc j hj; rwa [Nat.mul_one] at this)).mono ?_
    rintro e w' ⟨v, rfl, hv, _, hb⟩
    rw [List.take_length] at hv
    obtain ⟨ob, oc, rfl, k1, k2, k3⟩ := own_turns rfl (by omega) b3 o1 hv
    exact ⟨ob, oc, rfl, k1, k2, k3, hb⟩
  have HN := hide (fun hz => (bzero (c := c) hz).1)
  have HP : Hid (∀ e w', BNew c w e w' ↔ Below w.heap.size w w' ∧ ((checkF c ≠ 0 ∧ e = .returned (.tuple #[.pointer none, .int .i64 (checkF c)])) ∨ (checkF c = 0 ∧ ∃ g ob oc, w.heap.size ≤ g ∧ w.heap.size ≤ ob ∧ e = .returned (.tuple #[.pointer (some ⟨g, 0, none⟩), .int .i64 0]) ∧ BuAt w' g ob oc (bu0 c)))) := fun _ _ => Iff.rfl
  have HK : Hid (bu0 c = ⟨c.owners.length, c.owners, 0, 0⟩) := rfl
  generalize bu0 c = kk at HP HK HCl
  generalize BNew c w = PP at HP ⊢
  generalize checkF c = f at HC HP HCl HN
  clear hg h
  obtain ⟨oA, oC, pA, pC, wA, wC, qA, qC, lA, lC⟩ := d
  obtain ⟨nodes, owners, drift, reading, margin, bound, rejoin, quota, parts, windows, ports, links⟩ := c
  unfold Conf.val at HC ⊢
  unfold Conf.cells at hS
  dsimp only at hS HC HK HCl HN ⊢
  obtain ⟨hb, ⟨hl, e0, e1, e2, e3, e4, e5, e6, e7, e8, e9, e10, e11⟩, _, _⟩ := id hS
  dsimp only at e0 e1 e2 e3 e4 e5 e6 e7 e8 e9 e10 e11
  have HS := hide hS
  clear hS hb
  go_enter Tryd.func16, Tryd.ntmps16
  by_cases hf : f = 0
  · subst hf
    have HCq := hide (HCl.out rfl)
    have hn := HN.out rfl
    subst hn
    clear HN HCl
    go_upto_region 4 with (go_at_call 12; refine (HC.out _ HS.out).mono ?_; rintro e w1 ⟨rfl, hb1⟩; have HT := hide (HS.out.below hb1); clear hb1 hl e0 e1 e2 e3 e4 e5 e6 e7 e8 e9 e10 e11; obtain ⟨_, ⟨hl, e0, e1, e2, e3, e4, e5, e6, e7, e8, e9, e10, e11⟩, _, _⟩ := HT.out; dsimp only at e0 e1 e2 e3 e4 e5 e6 e7 e8 e9 e10 e11)
    have HTd := hide (HT.out.below (show Below w1.heap.size w1 w1.drew from ⟨rfl, rfl, rfl, Nat.le_refl _, fun _ _ => rfl⟩))
    go_region_with (go_at_call 52; go_loud (refine (HCq.out _ HTd.out).mono ?_); rintro e w2 ⟨ob, oc, rfl, k1, k2, k3, hb2⟩; have HT2 := hide (HTd.out.below hb2); have HK3 := hide (And.intro k1 (And.intro k2 k3)); clear hb2 k1 k2 k3 hl e0 e1 e2 e3 e4 e5 e6 e7 e8 e9 e10 e11; obtain ⟨_, ⟨hl, e0, e1, e2, e3, e4, e5, e6, e7, e8, e9, e10, e11⟩, _, _⟩ := HT2.out; dsimp only at e0 e1 e2 e3 e4 e5 e6 e7 e8 e9 e10 e11)
    all_goals (clear hl e0 e1 e2 e3 e4 e5 e6 e7 e8 e9 e10 e11)
    all_goals go_wp2
    all_goals (
      have hk := HK.out
      subst hk
      exact (HP.out _ _).2 ⟨HT2.out.bel.trans ((bal w2 _).mono HT2.out.bel.size), .inr ⟨by first | trivial | rfl, w2.heap.size, ob, oc, HT2.out.bel.size, Nat.le_trans HTd.out.bel.size HK3.out.1, rfl, bu_new _ HK3.out.2.2 HK3.out.2.1⟩⟩)
  · have hne : (f != 0) = true := by simpa using hf
    go_wp2_with (go_at_call 12; refine (HC.out _ HS.out).mono ?_; rintro e w1 ⟨rfl, hb1⟩; have HT := hide (HS.out.below hb1); clear hb1 hl e0 e1 e2 e3 e4 e5 e6 e7 e8 e9 e10 e11)
    exact (HP.out _ _).2 ⟨HT.out.bel, .inl ⟨hf, rfl⟩⟩
end Go.Proofs.YtbeggdahbhfhpaaDoor
