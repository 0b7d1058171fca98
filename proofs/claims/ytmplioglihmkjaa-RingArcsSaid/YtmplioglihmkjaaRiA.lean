/-
  The document's own: in how many arcs a place is.
-/
import Derived.Test.YtmplioglihmkjaaRhA
import Derived.Test.YtmplioglihmkjaaRgC
namespace Go.Proofs.Ytmplioglihmkjaa
open Go.RowKit Go.Shelf
set_option linter.unusedVariables false
set_option linter.unusedSimpArgs false
set_option maxRecDepth 100000

/-- in how many of them a place is -/
def cntA (n : Nat) (l : List Ar) (p : Nat) : Nat := l.countP fun a => inA n a p
theorem cntA_snoc (n : Nat) (l : List Ar) (a : Ar) (p : Nat) : cntA n (l ++ [a]) p = cntA n l p + (if inA n a p then 1 else 0) := by
  unfold cntA; rw [List.countP_append]; simp [List.countP_cons]
theorem cntA_tk (n : Nat) (l : List Ar) (p : Nat) : decide (0 < cntA n l p) = tk n l p := by
  unfold cntA tk
  rw [Bool.eq_iff_iff, decide_eq_true_iff, List.countP_pos_iff, List.any_eq_true]
theorem cntA_le (n : Nat) (l : List Ar) (p : Nat) : cntA n l p ≤ l.length := List.countP_le_length
def irow (c : Nat → Nat) (n : Nat) : Array Value := ((List.range n).map fun p => Value.int .i64 ((c p : Nat) : Int)).toArray
theorem irow_size (c : Nat → Nat) (n : Nat) : (irow c n).size = n := by simp [irow]
theorem irow_get {c : Nat → Nat} {n p : Nat} (h : p < n) : (irow c n)[p]? = some (.int .i64 (c p : Nat)) := by
  unfold irow; rw [List.getElem?_toArray, List.getElem?_map, List.getElem?_range h]; rfl
theorem irow_congr {c d : Nat → Nat} {n : Nat} (h : ∀ p, p < n → c p = d p) : irow c n = irow d n := by
  unfold irow
  congr 1
  exact List.map_congr_left fun p hp => by rw [h p (by simpa using hp)]
theorem irow_set {c : Nat → Nat} {n p : Nat} (h : p < n) (v : Nat) : (irow c n).setIfInBounds p (.int .i64 (v : Nat)) = irow (fun q => if q = p then v else c q) n := by
  apply Array.ext_getElem?
  intro i
  rw [Array.getElem?_setIfInBounds]
  by_cases hi : i < n
  · rw [irow_get hi, irow_get hi, irow_size]
    by_cases e : p = i
    · subst e; rw [if_pos rfl, if_pos h, if_pos rfl]
    · rw [if_neg e, if_neg (Ne.symm e)]
  · rw [Array.getElem?_eq_none (by rw [irow_size]; omega), Array.getElem?_eq_none (by rw [irow_size]; omega), if_neg (by omega)]
theorem make_irow (n : Nat) (hn : n ≤ 1048576) (W : World) : (Instr.makeSlice 42 (.int .i64 (n : Int)) (.int .i64 (n : Int))).run Try.prog W = .ok (.slice (some ⟨W.heap.size, 0, none⟩) n n) (W.alloc (.cells (irow (fun _ => 0) n) 3)) := by
  have hi3 : (Try.prog.info? 3).map (fun i => (i.zero, i.size, i.bytes)) = some (some (.int .i64 0), 1, 8) := by kernel_rfl
  rcases hi : Try.prog.info? 3 with _ | i
  · rw [hi] at hi3; cases hi3
  rw [hi] at hi3
  simp only [Option.map_some, Option.some.injEq, Prod.mk.injEq] at hi3
  obtain ⟨hz, hs2, hb⟩ := hi3
  have hm := run_make (P := Try.prog) W 42 3 i (.int .i64 0) Try.underlying42 hi hz .i64 .i64 (n : Int) (n : Int) (by omega) (by omega) (by rw [hb]; omega) (by omega)
  rw [hm]
  have e : madeCells (Value.int .i64 0).cells n = irow (fun _ => 0) n := by
    apply Array.ext_getElem?
    intro j
    by_cases hj : j < n
    · rw [irow_get hj]; simp [madeCells, Value.cells, hj, Nat.mod_one]
    · have h2 : (irow (fun _ => 0) n)[j]? = none := Array.getElem?_eq_none (by rw [irow_size]; omega)
      rw [h2]; simp [madeCells, hj]
  simp [hs2, e]
/-- the first places of an arc: how many of them are this one -/
def part (n f k p : Nat) : Nat := if (p + n - f) % n < k then 1 else 0
theorem part_step {n f k : Nat} (hf : f < n) (hk : k < n) (p : Nat) (hp : p < n) : part n f (k + 1) p = if p = (f + k) % n then part n f k p + 1 else part n f k p := by
  unfold part
  rw [back_eq hf hp, mod2N (x := f + k) (by omega)]
  repeat' split
  all_goals omega

set_option maxHeartbeats 4000000 in
theorem rtaken_at (l : List Ai) (A : Option Addr) (c n : Nat) (w : World) (hI : Arcs w A l) (hok : ∀ a ∈ l, okB n a = true) (hn : 0 < n) (hn2 : n ≤ 1000) (hlen : l.length ≤ 1000) :
    Calls Try.prog 22 #[.slice A l.length c, .int .i64 (n : Nat)] w fun e w' => ∃ g, e = .returned (.slice (some ⟨g, 0, none⟩) n n) ∧ w.heap.size ≤ g ∧ w'.heap[g]? = some (.cells (irow (cntA n (l.map tA)) n) 3 (0, 0)) ∧ Below w.heap.size w w' := by
  have HI := hide (fun W (h : Below w.heap.size w W) => hI.of_below h (Nat.le_refl _))
  obtain ⟨N, hN⟩ : ∃ N, N = l.length := ⟨_, rfl⟩
  have HN := hide hN
  have HOk := hide hok
  rw [← hN] at hlen ⊢
  clear hI hok hN
  have hmk := make_irow n (by omega) w
  go_enter Try.func22, Try.ntmps22
  go_wp2_with fail
  have HR0 := hide (heap_alloc_new w (.cells (irow (fun _ => 0) n) 3))
  have HB0 := hide (bal w (.cells (irow (fun _ => 0) n) 3))
  generalize w.alloc (.cells (irow (fun _ => 0) n) 3) = w0 at *
  generalize hg : w.heap.size = g at *
  have hzg : w0.heap[g]? = some (.cells (irow (fun _ => 0) n) 3 (0, 0)) := HR0.out
  obtain ⟨L, hL⟩ : ∃ L, L = l.map tA := ⟨_, rfl⟩
  have HL := hide hL
  have HZ := hide (show w0.heap[g]? = some (.cells (irow (cntA n (L.take 0)) n) 3 (0, 0)) from by rw [hzg]; rfl)
  clear hzg HR0 hL hmk
  go_loopw [6] (fun iv wo => ∃ i : Nat, i ≤ N ∧ iv = .int .i64 i ∧ wo.heap[g]? = some (.cells (irow (cntA n (L.take i)) n) 3 (0, 0)) ∧ Below g w0 wo) (fun iv _ => N - (intOf iv).toNat)
  case atStart => exact ⟨0, Nat.zero_le _, rfl, HZ.out, Below.refl _ _⟩
  case round =>
    rename World => wo
    obtain ⟨i, hi, rfl, hrow, hb⟩ := hrel
    have HRow := hide hrow
    have HBo := hide hb
    have hgl : g < wo.heap.size := (Array.getElem?_eq_some_iff.1 hrow).1
    by_cases hlt : i < N
    · have hil : i < l.length := by rw [← HN.out]; exact hlt
      obtain ⟨b, off, hAe, hbl, c0, c1⟩ := (HI.out w (Below.refl _ _)).at hil
      subst hAe
      rw [hg] at hbl
      have hbo : ∀ W, Below g w0 W → ∀ o, W.cell? ⟨b, o, none⟩ = w.cell? ⟨b, o, none⟩ := fun W h o => by
        have e := (h.block b hbl).trans (HB0.out.block b hbl)
        simp only [World.cell?, e]
      obtain ⟨⟨hF, hG⟩, e1⟩ := okB_t (HOk.out _ (mem_at hil))
      have hsnoc := map_take_snoc hil
      rw [← HL.out] at hsnoc
      have HSn := hide hsnoc
      rw [e1] at c0 c1
      dsimp only at c0 c1
      generalize tA (l.getD i (0, 0)) = ar at *
      obtain ⟨F, G⟩ := ar
      dsimp only at c0 c1 hF hG
      have HC := hide (And.intro c0 c1)
      have HCell := hide hbo
      have hcl : ∀ p, cntA n (L.take i) p ≤ 1000 := fun p => by
        have := cntA_le n (L.take i) p
        rw [List.length_take] at this
        omega
      have HCl := hide hcl
      have hbg : b < g := hbl
      generalize hcA : cntA n (L.take i) = cA at *
      have HcA := hide hcA
      clear hrow hb hbl hbo e1 hil hsnoc c0 c1 hcl hcA
      go_wp2_with fail
      go_loopw [7] (fun kv wr => ∃ k : Nat, k ≤ G ∧ kv = .int .i64 k ∧ wr.heap[g]? = some (.cells (irow (fun p => cA p + part n F k p) n) 3 (0, 0)) ∧ Below g w0 wr) (fun kv _ => G - (intOf kv).toNat)
      case atStart => exact ⟨0, Nat.zero_le _, rfl, by rw [HRow.out]; rfl, HBo.out⟩
      case round =>
        obtain ⟨k, hk, rfl, hrow, hb⟩ := hrel
        have HRk := hide hrow
        have HBk := hide hb
        have hgr : g < wr.heap.size := (Array.getElem?_eq_some_iff.1 hrow).1
        have hbr : b < wr.heap.size := by omega
        have c0 := (HCell.out wr hb (off + i * 2)).trans HC.out.1
        have c1 := (HCell.out wr hb (off + i * 2 + 1)).trans HC.out.2
        by_cases hkl : k < G
        · have HP := hide (fun W => rplace_at ((F : Int) + (k : Int)) n (by unfold I64; omega) (by omega) (by omega) W)
          rw [show ((F : Int) + (k : Int)) % (n : Int) = (((F + k) % n : Nat) : Int) from rfl] at HP
          have hx := Nat.mod_lt (F + k) hn
          have d0 : wr.cell? ⟨g, (F + k) % n, none⟩ = some (.int .i64 ((cA ((F + k) % n) + part n F k ((F + k) % n) : Nat) : Int)) := by rw [cell_of_row _ _ _ _ _ _ hrow, irow_get hx]
          have f0 : wr.frozen? ⟨g, (F + k) % n, none⟩ = false := by simp [World.frozen?, hrow]
          have hle := HCl.out ((F + k) % n)
          have hp1 : part n F k ((F + k) % n) ≤ 1 := by unfold part; split <;> omega
          have hq1 : cA ((F + k) % n) + part n F k ((F + k) % n) ≤ 1001 := by omega
          have HNx := hide (show (irow (fun p => cA p + part n F k p) n).setIfInBounds ((F + k) % n) (.int .i64 ((cA ((F + k) % n) + part n F k ((F + k) % n) + 1 : Nat) : Int)) = irow (fun p => cA p + part n F (k + 1) p) n from by
            rw [irow_set hx]
            refine irow_congr fun p hp => ?_
            rw [part_step hF (by omega) p hp]
            split
            · rename_i h; rw [h]; omega
            · rfl)
          generalize cA ((F + k) % n) + part n F k ((F + k) % n) = q at *
          generalize (F + k) % n = x at *
          clear hrow hb
          go_wp2_with fail
          refine (HP.out _).mono ?_
          rintro e w' ⟨rfl, rfl⟩
          go_wp2_with fail
          exact ⟨⟨k + 1, by omega, by go_num, by rw [set_cells HRk.out, show ((q : Int) + 1) = ((q + 1 : Nat) : Int) from by omega, HNx.out], HBk.out.setCell (p := ⟨g, x, none⟩) (Nat.le_refl _) _⟩, by simp [intOf]; omega⟩
        · have hkG : k = G := by omega
          subst hkG
          go_wp2_with fail
          refine ⟨⟨i + 1, by omega, by go_num, ?_, HBk.out⟩, by simp [intOf]; omega⟩
          rw [HRk.out, HSn.out]
          rw [irow_congr (fun p hp => show cA p + part n F k p = cntA n (L.take i ++ [(F, k)]) p from by
            rw [cntA_snoc, HcA.out]
            unfold part inA
            simp)]
    · have hiN : i = N := by omega
      have hLt : L.take N = l.map tA := by rw [HL.out, HN.out]; exact List.take_of_length_le (by simp)
      have HLt := hide hLt
      clear hLt
      subst hiN
      go_wp2_with fail
      go_ret
      exact ⟨g, rfl, by omega, by rw [HRow.out, HLt.out], (HB0.out.trans HBo.out).mono (by omega)⟩
end Go.Proofs.Ytmplioglihmkjaa
