/-
  A box of the document's own: a message in, and out.
-/
import Derived.Test.YtdimllmbalponaaTwins
namespace Go.Proofs.Ytdimllmbalponaa
open Go.RowKit Go.Shelf
set_option linter.unusedVariables false

def rcs (P : Prm) (h : Value) (slot : Int) (lost : Bool) : Array Value := #[.int .i64 P.pt, .int .i64 P.k, .int .i64 P.d, .int .i64 P.s, .int .i64 P.e, .int .i64 P.f, h, .int .i64 slot, .bool lost]
/-- rows, and where they lie, are none of these blocks -/
def Off (Xs : Nat → Prop) (h : Value) (rs : List Rw) : Prop := (∀ r ∈ rs, ¬ Xs r.blk) ∧ ∀ k, h.ownBlock = some k → ¬ Xs k
theorem Off.new {Xs : Nat → Prop} {W : World} {B : Nat} {h : Value} {rs : List Rw} (x : Rws W B h rs) (hX : ∀ k, Xs k → k < B) : Off Xs h rs :=
  ⟨fun r hr h1 => by have := hX _ h1; have := OwnS.base (x.each r hr); omega, fun k hk h1 => by have := hX _ h1; have := (x.blk hk).2.1; omega⟩
structure RefW (W : World) (base b : Nat) (P : Prm) (h : Value) (rs : List Rw) (slot : Int) (lost : Bool) (Xs : Nat → Prop) : Prop where
  lo : base ≤ b
  row : W.heap[b]? = some (.cells (rcs P h slot lost) 31 (0, 0))
  rws : Rws W base h rs
  off : Off Xs h rs
/-- all blocks but the box's are as they were -/
structure KeepB (base b : Nat) (w w' : World) : Prop where
  bel : Below base w w'
  blk : ∀ k, k < w.heap.size → k ≠ b → w'.heap[k]? = w.heap[k]?
  siz : w.heap.size ≤ w'.heap.size
theorem KeepB.of {base b : Nat} {w w' : World} (hb : Below w.heap.size w w') (hl : base ≤ w.heap.size) : KeepB base b w w' := ⟨hb.mono hl, fun k hk _ => hb.block k hk, hb.size⟩
section
variable {W W' : World} {base b : Nat} {P : Prm} {h h' : Value} {rs rs' : List Rw} {slot : Int} {lost : Bool} {Xs : Nat → Prop}
theorem RefW.lt (x : RefW W base b P h rs slot lost Xs) : b < W.heap.size := (Array.getElem?_eq_some_iff.1 x.row).1
theorem RefW.later (x : RefW W base b P h rs slot lost Xs) (hb : Below W.heap.size W W') : RefW W' base b P h rs slot lost Xs := ⟨x.lo, (hb.block b x.lt).trans x.row, x.rws.later hb, x.off⟩
theorem RefW.cell (x : RefW W base b P h rs slot lost Xs) (j : Nat) (v : Value) (hv : (rcs P h slot lost)[j]? = some v) : W.cell? ⟨b, j, none⟩ = some v := by rw [cell_of_row _ _ _ _ _ _ x.row]; exact hv
theorem RefW.free (x : RefW W base b P h rs slot lost Xs) (j : Nat) : W.frozen? ⟨b, j, none⟩ = false := by unfold World.frozen?; rw [x.row]; simp
theorem rws_set (x : Rws W base h rs) {j : Nat} {cs : Array Value} (hrow : W.heap[b]? = some (.cells cs 31 (0, 0))) (v : Value) : Rws (W.setCell ⟨b, j, none⟩ v) base h rs := by
  refine x.stands (fun k hk => heap_setCell_other _ _ _ _ ?_) (fun r hr => heap_setCell_other _ _ _ _ ?_)
  · rintro rfl
    obtain ⟨_, _, cur, hc⟩ := x.blk hk
    rw [hrow] at hc
    injection hc with hc
    injection hc with _ hc
    exact absurd hc (by decide)
  · show r.blk ≠ b
    rintro rfl
    obtain ⟨cur, hc, _⟩ := OwnS.row (x.each r hr)
    rw [hrow] at hc
    injection hc with hc
    injection hc with _ hc
    exact absurd hc (by decide)
theorem RefW.setL (hlo : base ≤ b) (hrow : W.heap[b]? = some (.cells (rcs P h slot lost) 31 (0, 0))) (y : Rws W base h' rs') (o : Off Xs h' rs') : RefW (W.setCell ⟨b, 6, none⟩ h') base b P h' rs' slot lost Xs :=
  ⟨hlo, by rw [setCell_row hrow]; rfl, rws_set y hrow h', o⟩
theorem RefW.setSlot (x : RefW W base b P h rs slot lost Xs) (z : Int) : RefW (W.setCell ⟨b, 7, none⟩ (.int .i64 z)) base b P h rs z lost Xs := ⟨x.lo, by rw [setCell_row x.row]; rfl, rws_set x.rws x.row _, x.off⟩
theorem RefW.setLost (x : RefW W base b P h rs slot lost Xs) (v : Bool) : RefW (W.setCell ⟨b, 8, none⟩ (.bool v)) base b P h rs slot v Xs := ⟨x.lo, by rw [setCell_row x.row]; rfl, rws_set x.rws x.row _, x.off⟩
theorem KeepB.set {w : World} (k : KeepB base b w W) (hl : base ≤ b) (j : Nat) (v : Value) : KeepB base b w (W.setCell ⟨b, j, none⟩ v) :=
  ⟨k.bel.setCell (p := ⟨b, j, none⟩) hl _, fun i hi hne => (heap_setCell_other _ _ _ _ hne).trans (k.blk i hi hne), by show _ ≤ (W.heap.modify _ _).size; rw [Array.size_modify]; exact k.siz⟩
theorem KeepB.trans {w : World} (k : KeepB base b w W) (k' : KeepB base b W W') : KeepB base b w W' :=
  ⟨k.bel.trans k'.bel, fun i hi hne => (k'.blk i (by have := k.siz; omega) hne).trans (k.blk i hi hne), Nat.le_trans k.siz k'.siz⟩
end
def putL (P : Prm) (L : List (List Nat)) (l : List Nat) : Int × List (List Nat) := if P.k ≠ 2 then (0, [l]) else if P.e ≤ (L.length : Int) then (41, L) else (0, L ++ [l])

set_option maxRecDepth 100000 in
set_option maxHeartbeats 1000000 in
theorem ref_put {Xs : Nat → Prop} {base b : Nat} {P : Prm} {h : Value} {rs : List Rw} {slot : Int} {lost : Bool} {w : World} (x : RefW w base b P h rs slot lost Xs) (hX : ∀ k, Xs k → k < w.heap.size) (A : Option Addr) (n c : Nat) (l : List Nat) (hl : l.length = n) (hB : Bytes w A l) (hm : 0 < n ∧ n ≤ 1000) (hrl : rs.length ≤ 500) (hrs : ∀ r ∈ rs, 0 < r.txt.length ∧ r.txt.length ≤ 1000) :
    Calls Try.prog 32 #[.pointer (some ⟨b, 0, none⟩), .slice A n c] w fun e w' => e = .returned (.int .i64 (putL P (rs.map Rw.txt) l).1) ∧ ∃ h' rs', RefW w' base b P h' rs' slot lost Xs ∧ rs'.map Rw.txt = (putL P (rs.map Rw.txt) l).2 ∧ KeepB base b w w' := by
  have hlo := x.lo
  have hbl := x.lt
  have c1 : w.cell? ⟨b, 1, none⟩ = some (.int .i64 P.k) := x.cell 1 _ rfl
  have c4 : w.cell? ⟨b, 4, none⟩ = some (.int .i64 P.e) := x.cell 4 _ rfl
  obtain ⟨A0, c0, rfl, hc0, hc1⟩ := x.rws.len
  have c6 : w.cell? ⟨b, 6, none⟩ = some (.slice A0 rs.length c0) := x.cell 6 _ rfl
  have X := hide x; have HL := hide hl; have HB := hide hB; have HRS := hide hrs
  clear x hl hB hrs
  by_cases hk : P.k = 2
  · rw [hk] at c1
    by_cases he : P.e ≤ (rs.length : Int)
    · rw [show putL P (rs.map Rw.txt) l = (41, rs.map Rw.txt) by simp [putL, hk, he]]
      go_enter Try.func32, Try.ntmps32
      go_wp2_with fail
      go_quiet (fail)
      have X2 := hide (X.out.later (W' := w.drewN nq) (below_drewN (Below.refl _ _) nq))
      have B2 := hide (below_drewN (Below.refl w.heap.size w) nq)
      go_wp2
      go_ret
      exact ⟨rfl, _, rs, X2.out, rfl, KeepB.of B2.out (by omega)⟩
    · rw [show putL P (rs.map Rw.txt) l = (0, rs.map Rw.txt ++ [l]) by simp [putL, hk, he]]
      have he2 : (rs.length : Int) < P.e := by omega
      go_enter Try.func32, Try.ntmps32
      go_wp2_with fail
      go_quiet (fail)
      have X2 := hide (X.out.later (W' := w.drewN nq) (below_drewN (Below.refl _ _) nq))
      have B2 := hide (below_drewN (Below.refl w.heap.size w) nq)
      have z2 : w.heap.size ≤ (w.drewN nq).heap.size := B2.out.size
      have d6 : (w.drewN nq).cell? ⟨b, 6, none⟩ = some (.slice A0 rs.length c0) := X2.out.cell 6 _ rfl
      clear c1 c4 c6
      generalize w.drewN nq = w2 at X2 B2 z2 d6 ⊢
      obtain ⟨A1, c1', he1, hc2, hc3, hra⟩ := X2.out.rws.reads
      simp only [Value.slice.injEq] at he1
      obtain ⟨rfl, _, rfl⟩ := he1
      have HRA := hide hra
      clear hra
      go_wp2_with fail
      refine (twins_at A0 rs.length c0 rs w2 rfl (by omega) hc2 HRA.out HRS.out).mono ?_
      rintro e w3 ⟨v, rs', rfl, y3, ht3, hb3⟩
      have X3 := hide (X2.out.later hb3); have B3 := hide (B2.out.trans (hb3.mono z2))
      have z3 := hb3.size
      have HT3 := hide ht3
      have hl3 : rs'.length ≤ 500 := by have := congrArg List.length ht3; simp at this; omega
      have Y3 := hide (y3.from (base' := w.heap.size) z2)
      obtain ⟨A3, c3, rfl, _, _⟩ := y3.len
      clear y3 hb3 ht3 X2 B2 d6
      go_wp2_with fail
      refine (twin_at A n c l w3 HL.out (HB.out.of_below B3.out (Nat.le_refl _)) (by omega)).mono ?_
      rintro e w4 ⟨v4, rfl, gg, hb4⟩
      obtain ⟨r', rfl, htx, hat⟩ := gg.own (by rw [HL.out]; omega)
      have X4 := hide (X3.out.later hb4); have B4 := hide (B3.out.trans (hb4.mono (by omega)))
      have Y4 := hide (Y3.out.later hb4)
      have z4 := hb4.size
      have HAT := hide (OwnS.from (b := w.heap.size) hat (by have := OwnS.base hat; omega))
      have hrb : r'.blk < w4.heap.size := OwnS.blk hat
      have hbn : ∀ k, (Value.slice A3 rs'.length c3).ownBlock = some k → k ≠ r'.blk := fun k hk e => by
        have h1 := (Y3.out.blk hk).1; have h2 := OwnS.base hat; omega
      have HTX := hide htx
      obtain ⟨R1, hR1⟩ : ∃ R1, r'.cell = R1 := ⟨_, rfl⟩
      rw [hR1]
      have HR1 := hide hR1
      obtain ⟨A5, n5, c5, rfl⟩ : ∃ A n c, R1 = .slice A n c := ⟨_, _, _, hR1.symm⟩
      clear gg hb4 hat htx hR1 X3 B3 Y3
      go_wp2_with (at_builtin
                   refine wpList_row_append rfl (.tmp 33) (.tmp 36) rfl w.heap.size (.slice A3 rs'.length c3) rs' rfl (Y4.out.later (bal w4 (.cells #[.slice A5 n5 c5] 37))) w4.heap.size 1 r' rfl (by rw [cell_of_row _ _ _ _ _ _ (heap_alloc_new w4 _), HR1.out]; rfl) (OwnS.later HAT.out (bal w4 _) hrb) (fun e => hbn _ e rfl) (by omega) (by simp; omega) ?_
                   intro h5 w5 y5 hg5 _
                   have Y5 := hide y5
                   have B5 := hide ((B4.out.trans ((bal w4 (.cells #[.slice A5 n5 c5] 37)).mono (by omega))).trans ((Below.refl _ _).grown hg5 (by simp; omega) (fun k hk => ((Y4.out.later (bal w4 (.cells #[.slice A5 n5 c5] 37))).blk hk).2.1)))
                   have hrow5 := (B5.out.block b hbl).trans X.out.row
                   have c65 : w5.cell? ⟨b, 6, none⟩ = some (.slice A0 rs.length c0) := by rw [cell_of_row _ _ _ _ _ _ hrow5]; rfl
                   have f65 : w5.frozen? ⟨b, 6, none⟩ = false := by unfold World.frozen?; rw [hrow5]; rfl
                   have HROW := hide hrow5
                   obtain ⟨A6, c6, rfl, _, _⟩ := y5.len
                   clear y5 hg5 hrow5)
      go_ret
      refine ⟨rfl, _, rs' ++ [r'], RefW.setL hlo HROW.out (Rws.from (by have h := Y5.out; rw [List.length_append] at h; exact h) (by omega)) (Off.new (by have h := Y5.out; rw [List.length_append] at h; exact h) hX), by simp [HT3.out, HTX.out], (KeepB.of B5.out (by omega)).set hlo 6 _⟩
  · rw [show putL P (rs.map Rw.txt) l = (0, [l]) by simp [putL, hk]]
    go_enter Try.func32, Try.ntmps32
    go_wp2_with fail
    refine (twin_at A n c l w HL.out HB.out (by omega)).mono ?_
    rintro e w4 ⟨v4, rfl, gg, hb4⟩
    obtain ⟨r', rfl, htx, hat⟩ := gg.own (by rw [HL.out]; omega)
    have HTX := hide htx; have HAT := hide hat
    have hrb : r'.blk < w4.heap.size := OwnS.blk hat
    have B4 := hide hb4
    have z4 := hb4.size
    obtain ⟨R1, hR1⟩ : ∃ R1, r'.cell = R1 := ⟨_, rfl⟩
    rw [hR1]
    have HR1 := hide hR1
    obtain ⟨A5, n5, c5, rfl⟩ : ∃ A n c, R1 = .slice A n c := ⟨_, _, _, hR1.symm⟩
    clear gg hb4 hat htx hR1 c1 c4 c6
    have hal := bal w4 (.cells #[.slice A5 n5 c5] 37)
    have hnew := heap_alloc_new w4 (.cells #[.slice A5 n5 c5] 37)
    have Y5 := hide (show Rws (w4.alloc (.cells #[.slice A5 n5 c5] 37)) w.heap.size (.slice (some ⟨w4.heap.size, 0, none⟩) 1 1) [r'] from ⟨⟨rfl, .inr ⟨w4.heap.size, 1, _, rfl, z4, hnew, Nat.le_refl _, by simp [maxLen], rfl, by simp [HR1.out]⟩⟩, fun r hr => by rw [List.mem_singleton.1 hr]; exact OwnS.later HAT.out hal hrb⟩)
    have B5 := hide (B4.out.trans (hal.mono z4))
    have hrow5 := (B5.out.block b hbl).trans X.out.row
    have c65 : (w4.alloc (.cells #[.slice A5 n5 c5] 37)).cell? ⟨b, 6, none⟩ = some (.slice A0 rs.length c0) := by rw [cell_of_row _ _ _ _ _ _ hrow5]; rfl
    have f65 : (w4.alloc (.cells #[.slice A5 n5 c5] 37)).frozen? ⟨b, 6, none⟩ = false := by unfold World.frozen?; rw [hrow5]; rfl
    have HROW := hide hrow5
    clear hal hnew hrow5
    go_wp2
    go_ret
    exact ⟨rfl, _, [r'], RefW.setL hlo HROW.out (Y5.out.from (by omega)) (Off.new Y5.out hX), by simp [HTX.out], (KeepB.of B5.out (by omega)).set hlo 6 _⟩
end Go.Proofs.Ytdimllmbalponaa
