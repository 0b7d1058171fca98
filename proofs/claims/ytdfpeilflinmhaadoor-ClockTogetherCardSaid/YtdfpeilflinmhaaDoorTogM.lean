/-
  Clocks in a row: what stands of them, and how far they come apart.
-/
import Derived.Test.YtdfpeilflinmhaaDoorNear
import Derived.Test.YtdfpeilflinmhaaDoorDup
namespace Go.Proofs.YtdfpeilflinmhaaDoor
open Go.RowKit Go.Deep
set_option linter.unusedVariables false
set_option linter.unusedSimpArgs false

/-- N clocks in a row, each with what it knows; all else stands -/
structure Tg (W0 W : World) (N gl : Nat) (G : Nat → Nat) (ks : Nat → Ck) : Prop where
  bel : Below W0.heap.size W0 W
  low : W0.heap.size ≤ gl
  row : ∃ cur, W.heap[gl]? = some (.cells cur 95 (0, 0)) ∧ ∀ i, i < N → cur[i]? = some (.pointer (some ⟨G i, 0, none⟩))
  clk : ∀ i, i < N → CkAt W (G i) (ks i)
  lo : ∀ i, i < N → W0.heap.size ≤ G i
  inj : ∀ i j, i < N → j < N → i ≠ j → G i ≠ G j
section
variable {W0 W W' : World} {N gl : Nat} {G : Nat → Nat} {ks ks' : Nat → Ck}
theorem Tg.below (x : Tg W0 W N gl G ks) (hb : Below W.heap.size W W') : Tg W0 W' N gl G ks := by
  obtain ⟨cur, h1, h2⟩ := x.row
  exact ⟨x.bel.trans (hb.mono x.bel.size), x.low, ⟨cur, (hb.block _ (Array.getElem?_eq_some_iff.1 h1).1).trans h1, h2⟩, fun i hi => (x.clk i hi).below hb, x.lo, x.inj⟩
theorem Tg.congr (x : Tg W0 W N gl G ks) (h : ∀ i, i < N → ks i = ks' i) : Tg W0 W N gl G ks' :=
  { x with clk := fun i hi => h i hi ▸ x.clk i hi }
theorem Tg.cell (x : Tg W0 W N gl G ks) {i : Nat} (hi : i < N) : W.cell? ⟨gl, i, none⟩ = some (.pointer (some ⟨G i, 0, none⟩)) := by
  obtain ⟨cur, h1, h2⟩ := x.row
  rw [cell_row h1]
  exact h2 i hi
theorem Tg.ne (x : Tg W0 W N gl G ks) {i : Nat} (hi : i < N) : gl ≠ G i := by
  obtain ⟨cur, h1, h2⟩ := x.row
  intro e
  have h3 := (x.clk i hi).row
  rw [← e, h1] at h3
  injection h3 with h3
  injection h3 with _ h3
  exact absurd h3 (by decide)
theorem Tg.upd (x : Tg W0 W N gl G ks) {n : Nat} {k' : Ck} (hn : n < N) (u : Upd (G n) W W') (hx : CkAt W' (G n) k') (h : ∀ i, i < N → ks' i = if i = n then k' else ks i) : Tg W0 W' N gl G ks' := by
  obtain ⟨cur, h1, h2⟩ := x.row
  refine ⟨x.bel.trans (u.bel.mono (x.lo n hn)), x.low, ⟨cur, (u.blk _ (Array.getElem?_eq_some_iff.1 h1).1 (x.ne hn)).trans h1, h2⟩, fun i hi => ?_, x.lo, x.inj⟩
  rw [h i hi]
  split
  · rename_i e; subst e; exact hx
  · rename_i e; exact (x.clk i hi).upd u (x.inj i n hi hn e)
end

/-- clocks that are being made -/
structure Bg (W0 W : World) (n : Nat) (v : Value) (G : Nat → Nat) (k0 : Ck) : Prop where
  bel : Below W0.heap.size W0 W
  own : W.ownsRow W0.heap.size 95 1 v n ((List.range n).map fun i => .pointer (some ⟨G i, 0, none⟩))
  clk : ∀ i, i < n → CkAt W (G i) k0
  lo : ∀ i, i < n → W0.heap.size ≤ G i
  inj : ∀ i j, i < n → j < n → i ≠ j → G i ≠ G j
theorem cown_slice {W : World} {B : Nat} {t : TypeId} {h : Value} {n : Nat} {xs : List Value} (x : W.ownsRow B t 1 h n xs) : ∃ A k c, h = .slice A k c := by
  rcases x.2 with ⟨rfl, _⟩ | ⟨g, cap, cur, rfl, _⟩
  · exact ⟨_, _, _, rfl⟩
  · exact ⟨_, _, _, rfl⟩
theorem cown_block {W : World} {B : Nat} {t : TypeId} {h : Value} {n : Nat} {xs : List Value} (x : W.ownsRow B t 1 h n xs) {k : Nat} (hk : h.ownBlock = some k) : k < W.heap.size ∧ B ≤ k ∧ ∃ cur, W.heap[k]? = some (.cells cur t (0, 0)) := by
  rcases x.2 with ⟨rfl, _⟩ | ⟨g, cap, cur, rfl, hg, hh, _⟩
  · cases hk
  · simp [Value.ownBlock] at hk
    subst hk
    exact ⟨(Array.getElem?_eq_some_iff.1 hh).1, hg, cur, hh⟩
theorem cown_stands {W W' : World} {B : Nat} {t : TypeId} {h : Value} {n : Nat} {xs : List Value} (x : W.ownsRow B t 1 h n xs) (hb : ∀ k, h.ownBlock = some k → W'.heap[k]? = W.heap[k]?) : W'.ownsRow B t 1 h n xs := by
  refine ⟨x.1, ?_⟩
  rcases x.2 with h1 | ⟨g, cap, cur, rfl, h2, h3, h4⟩
  · exact .inl h1
  · exact .inr ⟨g, cap, cur, rfl, h2, (hb g rfl).trans h3, h4⟩
theorem Bg.below {W0 W W' : World} {n : Nat} {v : Value} {G : Nat → Nat} {k0 : Ck} (x : Bg W0 W n v G k0) (hb : Below W.heap.size W W') : Bg W0 W' n v G k0 :=
  ⟨x.bel.trans (hb.mono x.bel.size), cown_stands x.own fun k hk => hb.block k (cown_block x.own hk).1, fun i hi => (x.clk i hi).below hb, x.lo, x.inj⟩
/-- one more, behind an append -/
theorem Bg.more {W0 W W' : World} {n : Nat} {v v' : Value} {G : Nat → Nat} {k0 : Ck} {g : Nat} (x : Bg W0 W n v G k0) (hg : CkAt W g k0) (hl : W0.heap.size ≤ g) (hn : ∀ i, i < n → G i ≠ g)
    (ho : W'.ownsRow W0.heap.size 95 1 v' (n + 1) (((List.range n).map fun i => Value.pointer (some ⟨G i, 0, none⟩)) ++ [.pointer (some ⟨g, 0, none⟩)])) (hgr : W.grownBy W' v.ownBlock) : Bg W0 W' (n + 1) v' (fun i => if i = n then g else G i) k0 := by
  have hne : ∀ {j : Nat} {k : Ck}, CkAt W j k → some j ≠ v.ownBlock := by
    intro j k hj e
    obtain ⟨_, _, cur, h⟩ := cown_block x.own e.symm
    rw [hj.row] at h
    injection h with h
    injection h with _ h
    exact absurd h (by decide)
  have hk : ∀ {j : Nat} {k : Ck}, CkAt W j k → CkAt W' j k := fun hj => hj.kept (hgr.block _ hj.lt (hne hj))
  refine ⟨x.bel.trans ((Below.refl _ _).grown hgr x.bel.size (fun j hj => (cown_block x.own hj).2.1)), ?_, fun i hi => ?_, fun i hi => ?_, fun i j hi hj hij => ?_⟩
  · have e : ((List.range (n + 1)).map fun i => Value.pointer (some ⟨if i = n then g else G i, 0, none⟩)) = ((List.range n).map fun i => Value.pointer (some ⟨G i, 0, none⟩)) ++ [.pointer (some ⟨g, 0, none⟩)] := by
      rw [List.range_succ, List.map_append]
      congr 1
      · refine List.map_congr_left fun i hi => ?_
        have : i < n := by simpa using hi
        rw [if_neg (by omega)]
      · simp
    rw [e]
    exact ho
  · split
    · exact hk hg
    · exact hk (x.clk i (by omega))
  · split
    · exact hl
    · exact x.lo i (by omega)
  · by_cases h1 : i = n
    · rw [if_pos h1, if_neg (by omega)]
      exact (hn j (by omega)).symm
    · rw [if_neg h1]
      by_cases h2 : j = n
      · rw [if_pos h2]; exact hn i (by omega)
      · rw [if_neg h2]; exact x.inj i j (by omega) (by omega) hij
/-- all are made -/
theorem Bg.row {W0 W : World} {n : Nat} {v : Value} {G : Nat → Nat} {k0 : Ck} (x : Bg W0 W n v G k0) (h0 : 0 < n) : ∃ gl cap, v = .slice (some ⟨gl, 0, none⟩) n cap ∧ Tg W0 W n gl G (fun _ => k0) := by
  rcases x.own.2 with ⟨_, h⟩ | ⟨g, cap, cur, rfl, h1, h2, h3, h4, h5, h6⟩
  · omega
  · refine ⟨g, cap, rfl, x.bel, h1, ⟨cur, h2, fun i hi => ?_⟩, x.clk, x.lo, x.inj⟩
    have h7 : (cur.toList.take (n * 1))[i]? = ((List.range n).map fun i => Value.pointer (some ⟨G i, 0, none⟩))[i]? := by rw [h6]
    rw [List.getElem?_take_of_lt (by omega), Array.getElem?_toList] at h7
    rw [h7]
    simp [hi]

/-- behind a round clocks are no farther apart than twice the errors, and none has gone far -/
theorem round_math {N : Nat} (hN : 4 ≤ N) {m : Nat} (hm : m < 2 ^ N) (hm0 : m ≠ 0) {D R B E T : Int} (hD : 0 ≤ D ∧ D ≤ 1048576) (hR : 0 ≤ R ∧ R ≤ 1048576) (hB : 2 * (2 * (D + R) + 1) + R ≤ B ∧ B ≤ 16777216) (hE : E = 1099511627776)
    (O dr : Nat → Int) (er : Nat → Nat → Int) (hd : ∀ i, -D ≤ dr i ∧ dr i ≤ D) (he : ∀ i j, -R ≤ er i j ∧ er i j ≤ R) (hT : 0 ≤ T ∧ T ≤ 671088640)
    (hs : ∀ i j, i < N → j < N → O i ≤ O j + 2 * R) (hb : ∀ i, i < N → -T ≤ O i ∧ O i ≤ T) :
    (∀ i, i < N → cutF (O i + dr i) (-E) E = O i + dr i) ∧ (∀ i j, i < N → j < N → O i + dr i ≤ O j + dr j + 2 * R + 2 * D) ∧
    (∀ i, i < N → -B ≤ avg ((idxF N (m : Int)).map (heardF (fun i => O i + dr i) er i)) ∧ avg ((idxF N (m : Int)).map (heardF (fun i => O i + dr i) er i)) ≤ B) ∧
    (∀ i j, i < N → j < N → (O i + dr i) + avg ((idxF N (m : Int)).map (heardF (fun i => O i + dr i) er i)) ≤ (O j + dr j) + avg ((idxF N (m : Int)).map (heardF (fun i => O i + dr i) er j)) + 2 * R) ∧
    (∀ i, i < N → -(T + 33554432) ≤ (O i + dr i) + avg ((idxF N (m : Int)).map (heardF (fun i => O i + dr i) er i)) ∧ (O i + dr i) + avg ((idxF N (m : Int)).map (heardF (fun i => O i + dr i) er i)) ≤ T + 33554432) := by
  have hns := idx_some hm hm0
  have hav : ∀ i, i < N → -B ≤ avg ((idxF N (m : Int)).map (heardF (fun i => O i + dr i) er i)) ∧ avg ((idxF N (m : Int)).map (heardF (fun i => O i + dr i) er i)) ≤ B := by
    intro i hi
    refine avg_within (fun x hx => ?_) (by simpa using hns)
    obtain ⟨j, hj, rfl⟩ := List.mem_map.1 hx
    have hjN : j < N := by
      unfold idxF at hj
      have := (List.mem_filter.1 hj).1
      simpa using this
    have h1 := hs i j hi hjN; have h2 := hs j i hjN hi; have h3 := hd i; have h4 := hd j; have h5 := he i j
    unfold heardF
    dsimp only
    split <;> omega
  refine ⟨fun i hi => cutF_in ?_ ?_, fun i j hi hj => ?_, hav, fun i j hi hj => ?_, fun i hi => ?_⟩
  · have := hb i hi; have := hd i; omega
  · have := hb i hi; have := hd i; omega
  · have := hs i j hi hj; have := hd i; have := hd j; omega
  · exact near_avg (fun i => O i + dr i) er R hR.1 he _ hns i j
  · have := hb i hi; have := hd i; have := hav i hi; omega
theorem all_bits {n : Nat} (h4 : 4 ≤ n) (h16 : n ≤ 16) : ∃ m : Nat, ((2 : Int) ^ n - 1) = (m : Int) ∧ m < 2 ^ n ∧ m ≠ 0 ∧ m < 65536 := by
  have h2 : 2 ^ n ≤ 2 ^ 16 := Nat.pow_le_pow_right (by omega) h16
  have h3 : 2 ^ 4 ≤ 2 ^ n := Nat.pow_le_pow_right (by omega) h4
  refine ⟨2 ^ n - 1, ?_, by omega, by omega, by omega⟩
  rw [Int.natCast_sub (by omega)]
  simp
theorem mul_small {z n : Nat} (hz : z ≤ 20) (hn : n ≤ 16) : 0 ≤ (z : Int) * (n : Int) ∧ (z : Int) * (n : Int) ≤ 320 := by
  have h := Nat.mul_le_mul hz hn
  have e : (z : Int) * (n : Int) = ((z * n : Nat) : Int) := (Int.natCast_mul z n).symm
  rw [e]
  omega
theorem heard_set {rd : List (Int × Bool)} {b : Nat} {V : Nat → Int} {z : Int} (hz : z = V b) (hl : rd.length = 16) (hb : b < 16) (h : ∀ j, j < b → rd.getD j default = (V j, true)) : ∀ j, j < b + 1 → (rd.set b (z, true)).getD j default = (V j, true) := by
  subst hz; exact rd_hear hl hb h
end Go.Proofs.YtdfpeilflinmhaaDoor
