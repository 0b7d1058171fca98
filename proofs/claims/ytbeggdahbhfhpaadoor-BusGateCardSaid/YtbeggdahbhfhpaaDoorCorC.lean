/-
  What Corrupt makes of any bytes.
-/
import Derived.Test.YtbeggdahbhfhpaaDoorLowC
import Derived.BigRegion
namespace Go.Proofs.YtbeggdahbhfhpaaDoor
open Go.RowKit Go.Shelf
attribute [local go_sem] Oper.semAt_some
set_option linter.unusedVariables false

theorem i64_mask (x : Int) (k : Nat) (hk : k < 63) : bits .and .i64 x ((2 ^ k - 1 : Nat) : Int) = x % (2 ^ k : Nat) := by
  have h2 : 2 ^ k < 2 ^ 63 := Nat.pow_lt_pow_right (by omega) hk
  have h3 : 0 < 2 ^ k := Nat.pos_of_ne_zero (by simp)
  show IntKind.i64.wrap ((BitVec.ofInt 64 x &&& BitVec.ofInt 64 ((2 ^ k - 1 : Nat) : Int)).toNat : Int) = _
  rw [BitVec.toNat_and, BitVec.ofInt_natCast, BitVec.toNat_ofNat, Nat.mod_eq_of_lt (show 2 ^ k - 1 < 2 ^ 64 by omega), Nat.and_two_pow_sub_one_eq_mod, BitVec.toNat_ofInt]
  have hd : ((2 ^ k : Nat) : Int) ∣ ((2 ^ 64 : Nat) : Int) := by
    refine Int.natCast_dvd_natCast.2 (Nat.pow_dvd_pow 2 (by omega))
  have h5 : ((((x % ((2 ^ 64 : Nat) : Int)).toNat % 2 ^ k : Nat) : Nat) : Int) = x % ((2 ^ k : Nat) : Int) := by
    rw [Int.natCast_emod, Int.toNat_of_nonneg (Int.emod_nonneg _ (by decide)), Int.emod_emod_of_dvd _ hd]
  rw [h5]
  have h6 := Int.emod_nonneg x (show ((2 ^ k : Nat) : Int) ≠ 0 by omega)
  have h7 := Int.emod_lt_of_pos x (show 0 < ((2 ^ k : Nat) : Int) by omega)
  rw [IntKind.wrap_i64]
  omega

/-- the owner and the slot of a frame that may be sent -/

def corrAt (b : List Nat) (at_ : Int) (mask t : Nat) : Nat := b.getD t 0 ^^^ over at_ mask t
def corr (b : List Nat) (at_ : Int) (mask : Nat) : List Nat := (List.range b.length).map (corrAt b at_ mask)
/-- bytes laid over byte t, one after the other -/
def aps (f : Int) (v : Nat) (t : Nat) : List (PB 4) → Nat
  | [] => v
  | x :: l => aps f (if f + (x.1.1 : Int) = (t : Int) then v ^^^ x.1.2 else v) t l
theorem aps_snoc (f : Int) (t : Nat) (l : List (PB 4)) : ∀ (v : Nat) (x : PB 4), aps f v t (l ++ [x]) = if f + (x.1.1 : Int) = (t : Int) then aps f v t l ^^^ x.1.2 else aps f v t l := by
  induction l with
  | nil => intro v x; rfl
  | cons y l ih => intro v x; exact ih _ x
theorem aps_upto (f : Int) (t v n : Nat) (k : Nat) (hk : k ≤ 5) : aps f v t (upto (pbOf 4 n) k) = v ^^^ (if f ≤ (t : Int) ∧ (t : Int) < f + (k : Int) then n / 2 ^ (8 * ((t : Int) - f).toNat) % 256 else 0) := by
  induction k with
  | zero =>
    rw [if_neg (by omega), Nat.xor_zero]; rfl
  | succ k ih =>
    rw [upto_succ, aps_snoc, ih (by omega)]
    have e1 : ((pbOf 4 n k).1.1 : Int) = (k : Int) := by show ((k % (4 + 1) : Nat) : Int) = _; omega
    have e2 : (pbOf 4 n k).1.2 = n / 2 ^ (8 * k) % 256 := rfl
    rw [e1, e2]
    by_cases h : f + (k : Int) = (t : Int)
    · rw [if_pos h, if_neg (by omega), if_pos (by omega), Nat.xor_zero, show ((t : Int) - f).toNat = k by omega]
    · rw [if_neg h]
      by_cases h2 : f ≤ (t : Int) ∧ (t : Int) < f + (k : Int)
      · rw [if_pos h2, if_pos (by omega)]
      · rw [if_neg h2, if_neg (by omega)]
theorem aps_lt (f : Int) (t : Nat) (l : List (PB 4)) : ∀ v, v < 256 → aps f v t l < 256 := by
  induction l with
  | nil => intro v h; exact h
  | cons x l ih =>
    intro v h
    refine ih _ ?_
    split
    · exact Nat.xor_lt_two_pow (n := 8) h x.2.2
    · exact h
theorem laid_lt (at_ : Int) (mask : Nat) (hm : mask < 4294967296) : laid at_ mask < 18446744073709551616 := by
  have h : 2 ^ (at_ % 8).toNat ≤ 2 ^ 7 := Nat.pow_le_pow_right (by omega) (by omega)
  calc laid at_ mask ≤ mask * 2 ^ 7 := Nat.mul_le_mul_left _ h
    _ < _ := by omega

/-- where the walk of the loop stands -/
structure CI (w ws : World) (B1 : Nat) (A : Option Addr) (n c : Nat) (f : Int) (b : List Nat) (pre : List (PB 4)) (W : World) : Prop where
  box : W.cell? ⟨B1, 0, none⟩ = some (.slice A n c)
  first : W.cell? ⟨B1 + 1, 0, none⟩ = some (.int .i64 f)
  mine : Mine w.heap.size W A n (fun t => aps f (b.getD t 0) t pre)
  capd : Capd w.heap.size W A c
  bel : Below w.heap.size w W
  siz : ws.heap.size ≤ W.heap.size
theorem CI.kept {w ws W W' : World} {B1 : Nat} {A : Option Addr} {n c : Nat} {f : Int} {b : List Nat} {pre : List (PB 4)} {row : Option Nat} (h : CI w ws B1 A n c f b pre W) (hws : B1 + 1 < ws.heap.size) (hgB : ∀ g, A = some ⟨g, 0, none⟩ → g < B1) (hB : w.heap.size ≤ B1) (hg : W.grownBy W' row) (hr : ∀ r, row = some r → ws.heap.size ≤ r) :
    CI w ws B1 A n c f b pre W' := by
  have h1 := hg.block B1 (by have := h.siz; omega) (fun e => by have := hr B1 e.symm; omega)
  have h2 := hg.block (B1 + 1) (by have := h.siz; omega) (fun e => by have := hr (B1 + 1) e.symm; omega)
  exact ⟨(World.cell?_of_block (a := ⟨B1, 0, none⟩) h1).trans h.box, (World.cell?_of_block (a := ⟨B1 + 1, 0, none⟩) h2).trans h.first,
    h.mine.kept (fun g hA h0 => hg.block g (by have := hgB g hA; have := h.siz; omega) (fun e => by have := hr g e.symm; have := hgB g hA; omega)),
    h.capd.kept (fun g hA => hg.block g (by have := hgB g hA; have := h.siz; omega) (fun e => by have := hr g e.symm; have := hgB g hA; omega)),
    h.bel.grown hg (by have := h.siz; omega) (fun k e => by have := hr k e; omega), by have := h.siz; have := hg.size; omega⟩
theorem aps_stop {f : Int} {n v m : Nat} {k t : Nat} (hk : k ≤ 5) (hx : ∃ x ∈ upto (pbOf 4 m) k, (n : Int) ≤ f + (x.1.1 : Int)) (ht : t < n) : aps f v t (upto (pbOf 4 m) k) = aps f v t (upto (pbOf 4 m) 5) := by
  obtain ⟨x, hx, hn⟩ := hx
  simp only [upto, List.mem_map, List.mem_range] at hx
  obtain ⟨j, hj, rfl⟩ := hx
  have e1 : ((pbOf 4 m j).1.1 : Int) = (j : Int) := by show ((j % (4 + 1) : Nat) : Int) = _; omega
  rw [e1] at hn
  rw [aps_upto _ _ _ _ _ hk, aps_upto _ _ _ _ _ (Nat.le_refl _)]
  by_cases h : f ≤ (t : Int)
  · rw [if_pos (by omega), if_pos (by omega)]
  · rw [if_neg (by omega), if_neg (by omega)]
theorem aps_corr (b : List Nat) (z : Int) (mask t : Nat) (ht : t < b.length) : aps (z / 8) (b.getD t 0) t (upto (pbOf 4 (laid z mask)) 5) = (corr b z mask).getD t 0 := by
  rw [aps_upto _ _ _ _ _ (Nat.le_refl _)]
  have e : (corr b z mask).getD t 0 = corrAt b z mask t := by
    unfold corr
    rw [List.getD_eq_getElem?_getD, List.getElem?_map, List.getElem?_range ht]
    rfl
  rw [e]
  rfl
theorem corr_len (b : List Nat) (z : Int) (mask : Nat) : (corr b z mask).length = b.length := by simp [corr]

set_option maxRecDepth 100000 in
set_option maxHeartbeats 2000000 in
theorem corr_cap (b : List Nat) (n : Nat) (ad : Addr) (cap : Nat) (z : Int) (mask : Nat) (w : World) (hn : b.length = n) (hm : n ≤ 1000000) (hB : Bytes w (some ad) b) (hz : (Lit.int .i64 z).wf = true) (hmask : mask < 4294967296) :
    Calls Tryd.prog 101 #[.slice (some ad) n cap, .int .i64 z, .int .u32 mask] w fun e w' => ∃ A c, e = .returned (.slice A n c) ∧ n ≤ c ∧ c ≤ maxLen ∧ Mine w.heap.size w' A n (fun t => (corr b z mask).getD t 0) ∧ Capd w.heap.size w' A c ∧ Below w.heap.size w w' := by
  have hbz := bounds_i64 hz
  have hcl := clone_cap b n ad cap w hn hm hB
  have hlaid := laid_lt z mask hmask
  obtain ⟨k, hk⟩ : ∃ k : Nat, k = (z % 8).toNat := ⟨_, rfl⟩
  have h7 : bits .and .i64 z 7 = (k : Int) := by
    have h := i64_mask z 3 (by omega)
    have h2 : bits .and .i64 z 7 = z % 8 := h
    rw [h2]; omega
  have hk7 : k ≤ 7 := by omega
  have hwr : IntKind.u64.wrap ((mask : Int) * 2 ^ k) = ((laid z mask : Nat) : Int) := by
    rw [IntKind.wrap_u64]
    have e1 : (mask : Int) * 2 ^ k = ((laid z mask : Nat) : Int) := by unfold laid; rw [← hk]; simp
    rw [e1]; omega
  have Hn := hide hn; have HB := hide hB; have HK := hide hk
  clear hn hB hz hk
  refine calls_of_wp_marks Tryd.func101 rfl ?_
  simp only [Tryd.ntmps101, List.size_toArray, List.length_cons, List.length_nil, Nat.reduceAdd, Nat.reduceSub, Array.replicate_succ, Array.replicate_zero, List.push_toArray, List.append_toArray, List.nil_append, List.cons_append]
  go_wp2_with fail
  go_step3
  go_wp2_with fail
  refine hcl.mono ?_
  rintro e w1 ⟨A, c, rfl, hnc, hcm, hM, hCp, hb1⟩
  clear hcl
  go_wp2_with fail
  go_region
  go_wp2_with fail
  go_step3
  obtain ⟨L, hL⟩ : ∃ L, laid z mask = L := ⟨_, rfl⟩
  simp only [hL] at hlaid hwr ⊢
  have HL := hide hL
  clear hL hwr h7
  have hw2 : Below w.heap.size w ((w1.alloc (.cells #[.slice A n c] 45)).alloc (.cells #[.int .i64 (z / 8)] 3)).drew := below_drewN ((hb1.alloc hb1.size _).alloc (by have := hb1.size; simp; omega) _) 1
  have hb2 : Below w1.heap.size w1 ((w1.alloc (.cells #[.slice A n c] 45)).alloc (.cells #[.int .i64 (z / 8)] 3)).drew := below_drewN ((bal w1 _).alloc (by simp) _) 1
  have c1 : (((w1.alloc (.cells #[.slice A n c] 45)).alloc (.cells #[.int .i64 (z / 8)] 3)).drew).cell? ⟨w1.heap.size, 0, none⟩ = some (.slice A n c) := cell_of_row _ _ 0 _ _ _ (heap_alloc2_old w1 _ _)
  have c2 : (((w1.alloc (.cells #[.slice A n c] 45)).alloc (.cells #[.int .i64 (z / 8)] 3)).drew).cell? ⟨w1.heap.size + 1, 0, none⟩ = some (.int .i64 (z / 8)) := cell_of_row _ _ 0 _ _ _ (heap_alloc2_new w1 _ _)
  have hz2 : (((w1.alloc (.cells #[.slice A n c] 45)).alloc (.cells #[.int .i64 (z / 8)] 3)).drew).heap.size = w1.heap.size + 1 + 1 := by show ((w1.alloc _).alloc _).heap.size = _; simp
  generalize ((w1.alloc (.cells #[.slice A n c] 45)).alloc (.cells #[.int .i64 (z / 8)] 3)).drew = w2 at hw2 hb2 c1 c2 hz2 ⊢
  have hM2 : Mine w.heap.size w2 A n (fun t => b.getD t 0) := by
    rcases hM with h | ⟨g, rfl, hg, hR⟩
    · exact .inl h
    · exact .inr ⟨g, rfl, hg, hR.below hb2 hR.1⟩
  have hgB : ∀ g, A = some ⟨g, 0, none⟩ → g < w1.heap.size := by
    intro g hA
    obtain ⟨g', cur, hA', _, hh, _⟩ := hCp
    rw [hA] at hA'; injection hA' with h1; injection h1 with h2; subst h2
    exact (Array.getElem?_eq_some_iff.1 hh).1
  have hCp2 : Capd w.heap.size w2 A c := hCp.kept (fun g hA => hb2.block g (hgB g hA))
  have HZ2 := hide hz2
  have C1 := hide c1; have C2 := hide c2; have HB1 := hide hb1.size
  clear hM hCp hb2 hb1 hz2 c1 c2
  go_wp2_with (go_at_call 81; refine (low_any L 5 _).mono ?_; rintro e w' ⟨rfl, rfl⟩)
  have hbw := (bal w2 (.cells #[.int .u64 L] 69)).alloc (by simp) (.cells #[.int .i64 5] 3)
  have hn3 : ((w2.alloc (.cells #[.int .u64 L] 69)).alloc (.cells #[.int .i64 5] 3)).cell? ⟨w2.heap.size, 0, none⟩ = some (.int .u64 L) := by
    rw [bcl (bal _ _) (by simp)]; exact cell_of_row _ _ 0 _ _ _ (heap_alloc_new w2 _)
  have hc3 : ((w2.alloc (.cells #[.int .u64 L] 69)).alloc (.cells #[.int .i64 5] 3)).cell? ⟨w2.heap.size + 1, 0, none⟩ = some (.int .i64 ((4 + 1 : Nat) : Int)) := cell_of_row _ _ 0 _ _ _ (heap_alloc2_new w2 _ _)
  have hz3 : ((w2.alloc (.cells #[.int .u64 L] 69)).alloc (.cells #[.int .i64 5] 3)).heap.size = w2.heap.size + 1 + 1 := by simp
  generalize ((w2.alloc (.cells #[.int .u64 L] 69)).alloc (.cells #[.int .i64 5] 3)) = ws at hbw hn3 hc3 hz3 ⊢
  have hzz := HZ2.out; have hb11 := HB1.out
  have hC : CI w ws w1.heap.size A n c (z / 8) b [] ws := ⟨(bcl hbw (by omega)).trans C1.out, (bcl hbw (by omega)).trans C2.out, (hM2.kept (fun g hA h0 => hbw.block g (by have := hgB g hA; omega))), (hCp2.kept (fun g hA => hbw.block g (by have := hgB g hA; omega))), hw2.trans (hbw.mono (by omega)), Nat.le_refl _⟩
  clear hbw hM2 hCp2 hw2
  refine' wp_low L 4 w2.heap.size (w2.heap.size + 1) (by omega) (by omega) rfl (by omega) (by omega) hn3 hc3 rfl
    (fun pre W => CI w ws w1.heap.size A n c (z / 8) b pre W)
    (fun j pre W => (j = .exit 0 ∧ ∃ x ∈ pre, (n : Int) ≤ z / 8 + (x.1.1 : Int)) ∧ CI w ws w1.heap.size A n c (z / 8) b pre W)
    (fun s A' B' row hs hg hr => hs.kept (by omega) hgB hb11 hg (fun r e => (hr r e).1))
    (fun j s A' B' row hs hg hr => ⟨hs.1, hs.2.kept (by omega) hgB hb11 hg (fun r e => (hr r e).1)⟩)
    hC _ ?assign ?body ?done ?stop
  case assign =>
    intro l x W K hK
    gi_wp2
    exact hK
  case body =>
    rintro l pre ⟨⟨i, d⟩, hi, hd⟩ W hI hlen
    dsimp only at hi hd ⊢
    have hx := hI.box; have hf := hI.first
    have HI := hide hI
    clear hI hn3 hc3 hC hlen
    by_cases hge : (n : Int) ≤ z / 8 + (i : Int)
    · have hge2 := hge
      gi_wp2
      refine ⟨KeepsOthers.refl _, ⟨rfl, ⟨(i, d), hi, hd⟩, List.mem_append_right _ (List.mem_singleton.2 rfl), hge⟩, { HI.out with mine := HI.out.mine.same (fun t ht => ?_) }⟩
      rw [aps_snoc, if_neg (by dsimp only; omega)]
    · by_cases hneg : z / 8 + (i : Int) < 0
      · gi_wp2
        refine ⟨KeepsOthers.refl _, KBox.refl _ _ _, { HI.out with mine := HI.out.mine.same (fun t ht => ?_) }⟩
        rw [aps_snoc, if_neg (by dsimp only; omega)]
      · obtain ⟨t0, ht0⟩ : ∃ t0 : Nat, z / 8 + (i : Int) = (t0 : Int) := ⟨(z / 8 + (i : Int)).toNat, by omega⟩
        have htn : t0 < n := by omega
        rcases HI.out.mine with h | ⟨g, rfl, hg, hR⟩
        · omega
        · have hgl := hgB g rfl
          have hv := (hR.2 t0 htn).1; have hvf := (hR.2 t0 htn).2
          have hv256 := aps_lt (z / 8) t0 pre _ (HB.out.byte t0)
          have HR := hide hR
          dsimp only at hv hv256
          obtain ⟨v, hvv⟩ : ∃ v, aps (z / 8) (b.getD t0 0) t0 pre = v := ⟨_, rfl⟩
          rw [hvv] at hv hv256
          have hxor := u8_xor_nat v d hv256 hd
          have HV := hide hvv
          have HT0 := hide ht0
          clear hR hvv hge hneg
          gi_wp2
          have hne : ∀ k, k ≠ g → (W.setCell ⟨g, t0, none⟩ (.int .u8 ((v ^^^ d : Nat) : Int))).heap[k]? = W.heap[k]? := fun k hk => heap_setCell_other _ _ _ _ hk
          have hsz : (W.setCell ⟨g, t0, none⟩ (.int .u8 ((v ^^^ d : Nat) : Int))).heap.size = W.heap.size := by show (W.heap.modify _ _).size = _; rw [Array.size_modify]
          refine ⟨KeepsOthers.setCell _ _ _, ⟨World.cell?_of_block (a := ⟨w2.heap.size, 0, none⟩) (hne w2.heap.size (by omega)), World.cell?_of_block (a := ⟨w2.heap.size + 1, 0, none⟩) (hne (w2.heap.size + 1) (by omega))⟩, ?_⟩
          refine ⟨(World.cell?_of_block (a := ⟨w1.heap.size, 0, none⟩) (hne w1.heap.size (by omega))).trans HI.out.box, (World.cell?_of_block (a := ⟨w1.heap.size + 1, 0, none⟩) (hne (w1.heap.size + 1) (by omega))).trans HI.out.first, .inr ⟨g, rfl, hg, ?_⟩, HI.out.capd.store rfl,
            HI.out.bel.setCell (p := ⟨g, t0, none⟩) hg _, by rw [hsz]; exact HI.out.siz⟩
          refine HR.out.store t0 (v ^^^ d) (fun t ht => ?_)
          rw [aps_snoc]
          dsimp only
          by_cases he : t = t0
          · subst he
            rw [if_pos HT0.out, if_pos rfl, HV.out]
          · rw [if_neg (by have := HT0.out; omega), if_neg he]
  case done =>
    rintro D W hD hI hK
    have hx := hI.box
    have hfin := hI.mine.same (g := fun t => (corr b z mask).getD t 0) (fun t ht => by rw [← HL.out]; exact aps_corr b z mask t (by rw [Hn.out]; exact ht))
    have hbel := hI.bel
    have HF := hide hfin; have CP := hide hI.capd; have HI := hide hI
    clear hI hfin hn3 hc3 hC
    go_wp2
    rw [Exit.noGoto_ret]
    refine marks_done hK (v := .slice A n c) (by simp [results, Tryd.results101, go_sem]) ⟨A, c, rfl, hnc, hcm, HF.out.kept (fun g hA h0 => World.putObj_heap_other (by have := hgB g hA; omega)), CP.out.kept (fun g hA => World.putObj_heap_other (by have := hgB g hA; omega)), below_put hbel (by omega) hK _⟩
  case stop =>
    rintro D j k' W hD hk' ⟨⟨rfl, hex⟩, hI⟩ hK
    have hx := hI.box
    have hfin := hI.mine.same (g := fun t => (corr b z mask).getD t 0) (fun t ht => by
      rw [aps_stop hk' hex ht, ← HL.out]; exact aps_corr b z mask t (by rw [Hn.out]; exact ht))
    have hbel := hI.bel
    have HF := hide hfin; have CP := hide hI.capd
    clear hI hfin hn3 hc3 hC hex
    go_wp2
    rw [Exit.noGoto_ret]
    refine marks_done hK (v := .slice A n c) (by simp [results, Tryd.results101, go_sem]) ⟨A, c, rfl, hnc, hcm, HF.out.kept (fun g hA h0 => World.putObj_heap_other (by have := hgB g hA; omega)), CP.out.kept (fun g hA => World.putObj_heap_other (by have := hgB g hA; omega)), below_put hbel (by omega) hK _⟩
theorem corr_any (b : List Nat) (n : Nat) (ad : Addr) (cap : Nat) (z : Int) (mask : Nat) (w : World) (hn : b.length = n) (hm : n ≤ 1000000) (hB : Bytes w (some ad) b) (hz : (Lit.int .i64 z).wf = true) (hmask : mask < 4294967296) :
    Calls Tryd.prog 101 #[.slice (some ad) n cap, .int .i64 z, .int .u32 mask] w fun e w' => ∃ A c, e = .returned (.slice A n c) ∧ n ≤ c ∧ c ≤ maxLen ∧ Mine w.heap.size w' A n (fun t => (corr b z mask).getD t 0) ∧ Below w.heap.size w w' :=
  (corr_cap b n ad cap z mask w hn hm hB hz hmask).mono fun e w' ⟨A, c, h1, h2, h3, h4, _, h5⟩ => ⟨A, c, h1, h2, h3, h4, h5⟩
end Go.Proofs.YtbeggdahbhfhpaaDoor
