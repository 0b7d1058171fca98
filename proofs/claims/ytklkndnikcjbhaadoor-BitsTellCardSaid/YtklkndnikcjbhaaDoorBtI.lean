/-
  BitsRuns' walk.
-/
import Derived.Test.YtklkndnikcjbhaaDoorBtF
import Derived.Test.YtklkndnikcjbhaaDoorBtH
namespace Go.Proofs.YtklkndnikcjbhaaDoor
open Go.RowKit Go.Shelf
set_option linter.unusedVariables false
set_option linter.unusedSimpArgs false

theorem spC_get : ∀ (L : List (Nat × Nat)) (k : Nat) (p : Nat × Nat), L[k]? = some p → (spC L)[k * 2]? = some (.int .i64 (p.1 : Int)) ∧ (spC L)[k * 2 + 1]? = some (.int .i64 (p.2 : Int))
  | [], k, p, h => by simp at h
  | q :: L, 0, p, h => by
    simp at h
    subst h
    exact ⟨rfl, rfl⟩
  | q :: L, k + 1, p, h => by
    have ih := spC_get L k p (by simpa using h)
    have e1 : (k + 1) * 2 = k * 2 + 1 + 1 := by omega
    have e2 : (k + 1) * 2 + 1 = k * 2 + 1 + 1 + 1 := by omega
    rw [e1]
    exact ih
def lastF (L : List (Nat × Nat)) (k : Nat) : Int := if k = 0 then -1 else ((L.getD (k - 1) (0, 0)).2 : Int)
theorem lastF_succ (L : List (Nat × Nat)) (k : Nat) : lastF L (k + 1) = ((L.getD k (0, 0)).2 : Int) := by simp [lastF]
theorem last_lt {s k : Nat} (hk : k < (runsF s).length) : lastF (runsF s) k < (((runsF s).getD k (0, 0)).1 : Int) := by
  unfold lastF
  split
  · omega
  · rename_i h
    have := List.pairwise_iff_getElem.1 (runsF_rise s) (k - 1) k (by omega) hk (by omega)
    rw [List.getD_eq_getElem?_getD, List.getD_eq_getElem?_getD, List.getElem?_eq_getElem hk, List.getElem?_eq_getElem (show k - 1 < (runsF s).length by omega)]
    simp only [Option.getD_some]
    omega
theorem hasB_ahead {s f t : Nat} (h : RunAt s (f, t)) : hasB s ((f : Int) - 1) = false := by
  have hf := h.fst
  simp only [fst1, Bool.and_eq_true, Bool.or_eq_true, beq_iff_eq] at hf
  unfold hasB numB
  rcases hf.2 with h0 | h0
  · subst h0
    rfl
  · cases f with
    | zero => rfl
    | succ k =>
      have e : (((k + 1 : Nat) : Int) - 1).toNat = k := by omega
      rw [e]
      have : s.testBit k = false := by simpa using h0
      rw [this, Bool.and_false]
theorem spans_take (L : List (Nat × Nat)) (k : Nat) (h : k < L.length) : spans (L.take (k + 1)) = spans (L.take k) + ((L.getD k (0, 0)).2 - (L.getD k (0, 0)).1) := by
  rw [take_snoc L (0, 0) k h, spans_snoc]
theorem spans_le {L : List (Nat × Nat)} : ∀ {n : Nat}, (∀ p ∈ L, p.1 ≤ p.2 ∧ p.2 ≤ n) → spans L ≤ n * L.length := by
  induction L with
  | nil => intro n _; simp [spans]
  | cons p L ih =>
    intro n h
    have h1 := h p (by simp)
    have h2 := ih (n := n) fun q hq => h q (by simp [hq])
    have : spans (p :: L) = (p.2 - p.1) + spans L := by simp [spans]
    rw [this, List.length_cons, Nat.mul_succ]
    omega
theorem runs_len {s : Nat} (hs : s < 2 ^ 64) : (runsF s).length ≤ 64 := by
  have h := runsF_sum hs
  have hp := pc_le s
  have key : ∀ L : List (Nat × Nat), (∀ p ∈ L, p.1 < p.2) → L.length ≤ spans L := by
    intro L
    induction L with
    | nil => intro _; simp
    | cons p L ih =>
      intro hL
      have h1 := hL p (by simp)
      have h2 := ih fun q hq => hL q (by simp [hq])
      have : spans (p :: L) = (p.2 - p.1) + spans L := by simp [spans]
      rw [this, List.length_cons]
      omega
  have := key (runsF s) fun p hp => (runsF_at hp).1.lt
  omega

set_option maxRecDepth 100000 in
set_option maxHeartbeats 4000000 in
theorem runs_walk (s : Nat) (hs : s < 18446744073709551616) (w : World) (hT : Tz w) :
    Calls Tryd.prog 8 #[.int .u64 s] w fun e w' => e = .returned (.bool true) ∧ Below w.heap.size w w' := by
  have HA := hide (alive_at w hT)
  have HT := hide hT
  have HOF := hide (show ofV (memI s) = .tuple #[.int .u64 s, .int .i64 0] from by
    unfold ofV; rw [if_pos (memI_ok s), orAll_mem hs])
  have HMl := hide (show (memI s).length ≤ 64 by unfold memI; rw [List.length_map]; exact mem_len s)
  clear hT
  go_enter Tryd.func8, Tryd.ntmps8
  go_wp2_with fail
  refine HA.out.mono ?_
  rintro e w1 ⟨rfl, hb1⟩
  have HT1 := hide (HT.out.below hb1 HT.out.lt)
  have HB1 := hide hb1
  clear hb1 HA
  go_wp2_with fail
  refine (members_any s hs w1 HT1.out).mono ?_
  rintro e w2 ⟨h, rfl, hO, hb2⟩
  obtain ⟨A, cc, rfl, hI2⟩ := own_ints hO fun z hz => by have := memI_ok s z hz; unfold I64; omega
  have HT2 := hide (HT1.out.below hb2 HT1.out.lt)
  have HB2 := hide (HB1.out.trans (hb2.mono HB1.out.size))
  have HI2 := hide hI2
  clear hO hb2 hI2
  go_wp2_with fail
  refine (of_at (memI s) A cc w2 HI2.out (by have := HMl.out; omega)).mono ?_
  rintro e w' ⟨rfl, rfl⟩
  rw [HOF.out]
  go_wp2_with fail
  refine (runs_any s hs w2 HT2.out).mono ?_
  rintro e w3 ⟨h, rfl, hO, hb3⟩
  obtain ⟨A3, c3, rfl⟩ := own_slice hO
  have HB3 := hide (HB2.out.trans (hb3.mono HB2.out.size))
  have HO := hide hO
  have HP := hide (runsF_sum hs)
  have HLen := hide (runs_len hs)
  have HR := hide (fun (k : Nat) (hk : k < (runsF s).length) => runsF_at (s := s) (p := (runsF s).getD k (0, 0)) (by
    rw [List.getD_eq_getElem?_getD, List.getElem?_eq_getElem hk]; exact List.getElem_mem _))
  have HLa := hide (fun (k : Nat) (hk : k < (runsF s).length) => last_lt hk)
  have HSz := hide (fun W => size_at s hs W)
  have HPc := hide (pc_le s)
  generalize runsF s = L at *
  generalize hn : L.length = n at *
  have HN := hide hn
  clear hO hb3 hn HB1 HB2 HT1
  generalize pc s = q at *
  have hln := HLen.out
  go_wp2_with fail
  go_loopw [21, 6, 7] (fun i la su wr => ∃ k : Nat, k ≤ n ∧ i = .int .i64 k ∧ la = .int .i64 (lastF L k) ∧ su = .int .i64 (spans (L.take k) : Nat) ∧ Below w3.heap.size w3 wr) (fun i _ _ _ => n - (intOf i).toNat)
  case atStart => exact ⟨0, Nat.zero_le _, rfl, rfl, rfl, Below.refl _ _⟩
  case round =>
    obtain ⟨k, hk, rfl, rfl, rfl, hbr⟩ := hrel
    have HBr := hide hbr
    clear hbr
    by_cases hlt : k < n
    · obtain ⟨hrun, hle⟩ := HR.out k hlt
      have hla := HLa.out k hlt
      have hcl : L[k]? = some (L.getD k (0, 0)) := by
        rw [List.getD_eq_getElem?_getD, List.getElem?_eq_getElem (by rw [HN.out]; exact hlt)]; rfl
      obtain ⟨g1, g2⟩ := spC_get L k _ hcl
      obtain ⟨g, c', e', hgl, hc0⟩ := own_cell HO.out g1
      obtain ⟨g', c'', e'', _, hc1⟩ := own_cell HO.out g2
      rw [e''] at e'
      injection e' with e1 e2 e3
      injection e1 with e1
      injection e1 with e1
      injection e'' with e4 e5 e6
      subst e1 e4
      have HSu := hide (spans_take L k (by rw [HN.out]; exact hlt))
      have HLs := hide (lastF_succ L k)
      obtain ⟨p, hp⟩ : ∃ p, p = L.getD k (0, 0) := ⟨_, rfl⟩
      rw [← hp] at hrun hle hla hc0 hc1 HSu HLs
      obtain ⟨f, t⟩ := p
      clear hp g1 g2 hcl e2 e3 e5 e6
      dsimp only at hle hla hc0 hc1 HSu HLs
      have hft : f < t := hrun.lt
      have HRun := hide hrun
      have hd0 := (bcl HBr.out hgl).trans hc0
      have hd1 := (bcl HBr.out hgl).trans hc1
      have HH1 := hide (hasB_end hrun)
      have HH2 := hide (hasB_ahead hrun)
      have HHas := hide (fun (i : Int) W => has_at s hs i W)
      generalize hlf : lastF L k = la at *
      have HLf := hide hlf
      have HSl := hide (show spans (L.take k) ≤ 4096 by
        have h1 := HP.out
        have : spans (L.take k) ≤ 64 * (L.take k).length := spans_le fun p hp => by
          obtain ⟨j, hj, rfl⟩ := List.getElem_of_mem (List.mem_of_mem_take hp)
          have := HR.out j (by rw [← HN.out]; exact hj)
          rw [List.getD_eq_getElem?_getD, List.getElem?_eq_getElem hj] at this
          exact ⟨Nat.le_of_lt this.1.lt, this.2⟩
        have h3 : (L.take k).length ≤ k := List.length_take_le _ _
        omega)
      generalize hsu : spans (L.take k) = su at *
      have HSs := hide hsu
      have hsl := HSl.out
      have hgr : w3.heap.size ≤ wr.heap.size := HBr.out.size
      clear hrun hlf hsu hc0 hc1
      have h1 : ¬ (f : Int) ≤ la := by omega
      have h2 : ¬ (t : Int) ≤ (f : Int) := by omega
      have h3 : ¬ (t : Int) > 64 := by omega
      go_wp2_with fail
      refine (HHas.out _ _).mono ?_
      rintro e w' ⟨rfl, rfl⟩
      rw [HH1.out]
      go_wp2_with fail
      refine (HHas.out _ _).mono ?_
      rintro e w' ⟨rfl, rfl⟩
      rw [HH2.out]
      go_wp2_with fail
      have hcb0 : (wr.alloc (.cells #[.int .i64 (f : Int), .int .i64 (t : Int)] 49)).cell? ⟨wr.heap.size, 0, none⟩ = some (.int .i64 (f : Int)) := by rw [cell_of_row _ _ _ _ _ _ (heap_alloc_new wr _)]; rfl
      have hcb1 : (wr.alloc (.cells #[.int .i64 (f : Int), .int .i64 (t : Int)] 49)).cell? ⟨wr.heap.size, 1, none⟩ = some (.int .i64 (t : Int)) := by rw [cell_of_row _ _ _ _ _ _ (heap_alloc_new wr _)]; rfl
      have HBw := hide (HBr.out.trans ((bal wr (.cells #[.int .i64 (f : Int), .int .i64 (t : Int)] 49)).mono hgr))
      generalize wr.alloc (.cells #[.int .i64 (f : Int), .int .i64 (t : Int)] 49) = w5 at hcb0 hcb1 HBw ⊢
      clear hd0 hd1 h1 h2 h3 hla
      go_loop [10] (fun j => ∃ x : Nat, f ≤ x ∧ x ≤ t ∧ j = .int .i64 x) (fun j => 64 - (intOf j).toNat)
      case atStart => exact ⟨f, Nat.le_refl _, by omega, rfl⟩
      case round =>
        obtain ⟨x, hx1, hx2, rfl⟩ := hrel
        by_cases hxt : x < t
        · have HX := hide (hasB_run HRun.out hle hx1 hxt)
          go_wp2_with (refine (HHas.out _ _).mono ?_; rintro e w' ⟨rfl, rfl⟩; rw [HX.out])
          go_round
          case rel => exact ⟨x + 1, by omega, by omega, by go_num⟩
          case measure => simp [intOf]; omega
        · obtain rfl : x = t := by omega
          go_wp2_with fail
          go_roundw
          case rel => exact ⟨k + 1, by omega, by go_num, by rw [HLs.out], by rw [HSu.out]; congr 1; omega, HBw.out⟩
          case measure => simp [intOf]; omega
    · obtain rfl : k = n := by omega
      have HT2 : Hid (spans (L.take k) = q) := by
        show _ = _
        rw [← HN.out, List.take_length]; exact HP.out
      have hq := HPc.out
      rw [HT2.out]
      go_wp2_with (refine (HSz.out _).mono ?_; rintro e w' ⟨rfl, rfl⟩)
      go_ret
      exact ⟨rfl, HB3.out.trans (HBr.out.mono HB3.out.size)⟩
end Go.Proofs.YtklkndnikcjbhaaDoor
