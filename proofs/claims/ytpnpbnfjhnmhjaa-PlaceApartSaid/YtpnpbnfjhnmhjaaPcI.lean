/-
  The iterator over what is free, told.
-/
import Derived.Test.YtpnpbnfjhnmhjaaPcH
import Derived.WalkMore
namespace Go.Proofs.Ytpnpbnfjhnmhjaa
open Go.RowKit Go.Shelf
attribute [local go_sem] Oper.semAt_some
set_option linter.unusedVariables false
set_option linter.unusedSimpArgs false
set_option maxRecDepth 100000

theorem pre_more {t : Nat → Bool} {n : Nat} {pre R : List (Nat × Nat)} {k : Nat} (h : freeTo t n = pre ++ R) (hk : pre.length = k) (hR : R ≠ []) : k < (freeTo t n).length := by
  rw [h, List.length_append]
  have : 0 < R.length := List.length_pos_iff.2 hR
  omega
set_option maxHeartbeats 8000000 in
theorem free1_in (d ly b0 m gl ol bT bL : Nat) (l : List Ai) (A : Option Addr) (c L : Nat) (hl : l.length ≤ 1000) (hLm : L ≤ 1048576) (J Jx : List PG → World → Prop) (W : World) (hJ : AbidesFrom W.heap.size J) (hJx : AbidesFrom W.heap.size Jx)
    (hY : ∀ pre x W1, J pre W1 → pre.length < (freeTo (tkn l) L).length → YieldAt Fence.wide (d - 1) Try.prog ly (pgEnc x) W1 fun e W' =>
      (e = .returned (.bool true) ∧ J (pre ++ [x]) W' ∧ Kz b0 m gl ol W1 W') ∨ (e = .returned (.bool false) ∧ Jx (pre ++ [x]) W'))
    (hLb : Lb b0 m gl ol W) (hT : W.heap[bT]? = some (.cells #[.slice A l.length c] 22 (0, 0))) (hB : W.heap[bL]? = some (.cells #[.int .i64 (L : Nat)] 3 (0, 0))) (hAp : Ap b0 m gl ol bL W) (hS : Sps W A l) (h0 : J [] W) :
    CallsIn Fence.wide d Try.prog 31 #[.func (.yield ly) #[] #[], .pointer (some ⟨bT, 0, none⟩), .pointer (some ⟨bL, 0, none⟩)] W fun e W' => (∃ v, e = .returned v) ∧
      ((∃ xs, pg xs = freeTo (tkn l) L ∧ J xs W') ∨ (∃ pre, (∃ k, k ≤ (freeTo (tkn l) L).length ∧ pg pre = (freeTo (tkn l) L).take k) ∧ Jx pre W')) := by
  refine callsIn_of_wp Try.func31 rfl trivial ?_ rfl
  simp only [Try.ntmps31, List.size_toArray, List.length_cons, List.length_nil, Nat.reduceAdd, Nat.reduceSub, Array.replicate_succ, Array.replicate_zero, List.push_toArray, List.append_toArray, List.nil_append, List.cons_append]
  have HY := hide hY
  have H0 := hide h0
  have HJ := hide hJ
  have HJx := hide hJx
  have HLb := hide hLb
  have HAp := hide hAp
  have HB := hide hB
  have c0 : W.cell? ⟨bT, 0, none⟩ = some (.slice A l.length c) := by rw [cell_of_row _ _ _ _ _ _ hT]; rfl
  have c1 : W.cell? ⟨bL, 0, none⟩ = some (.int .i64 (L : Nat)) := by rw [cell_of_row _ _ _ _ _ _ hB]; rfl
  have HR := hide (rising_at l A c L W hS hl hLm)
  obtain ⟨N, hN⟩ : ∃ N, N = l.length := ⟨_, rfl⟩
  rw [← hN] at c0 HR hl
  clear hN hJ hJx hY h0 hLb hAp hB hT hS
  gi_wp2
  refine ⟨trivial, (fun h => by cases h), (callsIn_wide.2 HR.out).mono ?_⟩
  rintro e W1 ⟨S, A', c', rfl, hmem, hpw, hlen, hS, hF, hb1⟩
  have hkeep : ∀ s ∈ S, keepB L s = true := fun s hs => (List.mem_filter.1 ((hmem s).1 hs)).2
  have HFr := hide (show freeTo (tkn l) L = freeTo (tkn S) L from free_congr L fun p hp => by
    rw [← tkn_keep hp]
    exact (inB_mem hmem _).symm)
  rw [HFr.out] at HY
  have HPre := hide (atK_pre hpw hkeep)
  have HTak := hide (fun k (h : k ≤ S.length) => atK_take hpw hkeep h)
  have HStep := hide (fun k (h : k < S.length) => free_step hpw hkeep h)
  have HEnd := hide (free_end hkeep)
  have HKb := hide hkeep
  have HI := hide (show It b0 m gl ol bL L A' S 0 W1 from ⟨HLb.out.new hb1, (hb1.block _ (Array.getElem?_eq_some_iff.1 HB.out).1).trans HB.out, HAp.out.new HLb.out hb1, fun i _ hi => by
    obtain ⟨b, off, e, hlt, c0, c1⟩ := hS.at hi
    obtain ⟨⟨_, h2⟩, _⟩ := hF _ e
    dsimp only at h2
    subst h2
    rw [Nat.zero_add] at c0 c1
    exact ⟨b, e, hlt, c0, c1⟩, fun a e _ => Ap.fresh HLb.out hb1 (hF a e).2⟩)
  have H64 := hide hS.1
  have H1 := hide (abides_new HJ.out H0.out hb1)
  have hSl : S.length ≤ 1000 := by have := hlen; omega
  clear hmem hpw hlen hS hF hkeep H0 HLb HAp HB c0 c1 HR hb1
  obtain ⟨M, hM⟩ : ∃ M, M = S.length := ⟨_, rfl⟩
  have HM := hide hM
  rw [← hM] at hSl ⊢
  clear hM
  gi_wp2
  gi_loopw [4, 11] (fun av kv wr => ∃ (k : Nat) (pre : List PG), k ≤ M ∧ kv = .int .i64 k ∧ av = .int .i64 (atF (S.take k)) ∧ pg pre = atK S L k ∧ It b0 m gl ol bL L A' S k wr ∧ J pre wr) (fun _ kv _ => M - (intOf kv).toNat)
  case atStart => exact ⟨0, [], Nat.zero_le _, rfl, rfl, rfl, HI.out, H1.out⟩
  case round =>
    obtain ⟨k, pre, hk, rfl, rfl, hP, hI, hJ⟩ := hrel
    have HP := hide hP
    have HIr := hide hI
    have HJr := hide hJ
    have HPl := hide (show (atK S L k).length = pre.length from by rw [← pg_len, hP])
    obtain ⟨a, ha⟩ := Int.eq_ofNat_of_zero_le (atF_nonneg (S.take k))
    rw [ha]
    by_cases hlt : k < M
    · have hil : k < S.length := by rw [← HM.out]; exact hlt
      obtain ⟨b, rfl, hbl, c0, c1⟩ := hI.sp k (Nat.le_refl _) hil
      have hAl : ∀ a, some (⟨b, 0, none⟩ : Addr) = some a → a.block < wr.heap.size := fun a e => by cases e; exact hbl
      have hst := HStep.out k hil
      rw [ha] at hst
      have HAt := hide (show atF (S.take (k + 1)) = max (a : Int) (S.getD k (0, 0)).2 from by rw [take_snoc S (0, 0) k hil, atF_snoc, ha])
      obtain ⟨_, hkl, _⟩ := keepB_iff.1 (HKb.out _ (mem_at hil))
      obtain ⟨Rr, hRr⟩ := HPre.out (S.length - (k + 1)) (k + 1) (by omega)
      have hi64 := H64.out _ (mem_at hil)
      have HAK := hide (show atK S L k = freeTo (tkn S) (min a L) from by unfold atK; rw [ha]; rfl)
      have HAK1 := hide (show atK S L (k + 1) = freeTo (tkn S) (min (atF (S.take (k + 1))).toNat L) from rfl)
      generalize S.getD k (0, 0) = z at *
      obtain ⟨f, g⟩ := z
      dsimp only at c0 c1 hst HAt hkl hi64
      have hb1 := bal wr (.cells #[.int .i64 f, .int .i64 g] 37)
      have HI1 := hide (hI.new hAl hb1)
      have hAl1 : ∀ a, some (⟨b, 0, none⟩ : Addr) = some a → a.block < (wr.alloc (.cells #[.int .i64 f, .int .i64 g] 37)).heap.size := fun a e => by cases e; simp; omega
      have HAl1 := hide hAl1
      have HJ1 := hide (abides_new HJ.out hJ hb1)
      have HAb := hide (Ap.fresh hI.lb hb1 (Nat.le_refl _))
      obtain ⟨mx, hmx⟩ : ∃ mx, mx = max (a : Int) g := ⟨_, rfl⟩
      rw [← hmx] at HAt
      have hmx1 : ∀ (ts : Array TypeId) (ty : TypeId) (W : World), (Builtin.max_ ts ty #[.int .i64 (a : Nat), .int .i64 g]).run Try.prog W = .ok (.int .i64 mx) W := fun ts ty W => by
        rw [run_max_int2]
        have : (if g > (a : Int) then g else (a : Int)) = mx := by split <;> omega
        rw [this]
      have HMx := hide (show 0 ≤ mx by omega)
      clear hmx hb1 hil hP hI hJ hAl hAl1
      by_cases hfa : (a : Int) < f
      · obtain ⟨fn, hfn⟩ := Int.eq_ofNat_of_zero_le (show 0 ≤ f by omega)
        subst hfn
        have hR1 := hst.1 hfa
        have hR2 := hst.2
        rw [if_pos hfa] at hR2
        simp only [Int.toNat_natCast] at hR2
        have hE : atK S L (k + 1) = atK S L k ++ [(a, fn)] := by rw [HAK1.out, HAK.out]; exact hR2
        have hfL : fn < L := by omega
        have hlen : pre.length < (freeTo (tkn S) L).length := pre_more (by rw [hRr, hE, List.append_assoc]) HPl.out (by simp)
        obtain ⟨fnc, tmps, assign, body, hy, hRy⟩ := HY.out pre ⟨(a, fn), by dsimp only; omega⟩ (wr.alloc (.cells #[.int .i64 (fn : Nat), .int .i64 g] 37)) HJ1.out hlen
        have HE := hide (show ∀ x : PG, x.1 = (a, fn) → pg (pre ++ [x]) = atK S L (k + 1) from fun x hx => by rw [pg_snoc, HP.out, hE, hx])
        dsimp only [pgEnc] at hy
        have HRy := hide hRy
        obtain ⟨j, hj1, hj2⟩ := HTak.out (k + 1) (by have := HM.out; omega)
        have HT1 := hide hj1
        have HT2 := hide hj2
        have hwl : wr.heap.size < (wr.alloc (.cells #[.int .i64 (fn : Nat), .int .i64 g] 37)).heap.size := by simp
        have HNw := hide (heap_alloc_new wr (.cells #[.int .i64 (fn : Nat), .int .i64 g] 37))
        clear hst hR1 hR2 hE hlen hRy hj1 hj2 hRr
        gi_wp2
        refine ⟨(fun h => by cases h), HRy.out.mono ?_⟩
        rintro e W3 (⟨rfl, hJ3, hk3⟩ | ⟨rfl, hJ3⟩)
        · have HJ3 := hide hJ3
          have HI3 := hide (HI1.out.kept HAl1.out hk3)
          obtain ⟨cx, hbx, _, hcx⟩ := hk3.kp _ _ _ _ HNw.out HAb.out.1 HAb.out.2
          have d1 : W3.cell? ⟨wr.heap.size, 1, none⟩ = some (.int .i64 g) := by
            unfold World.cell?
            dsimp only
            rw [hbx]
            dsimp only
            rw [hcx 1 (Nat.le_refl _)]; rfl
          have hwl3 : wr.heap.size < W3.heap.size := (Array.getElem?_eq_some_iff.1 hbx).1
          clear hJ3 hk3 hbx hcx hy HRy
          gi_wp2
          go_roundw
          case rel => exact ⟨k + 1, _, by omega, by go_num, by rw [HAt.out], HE.out _ rfl, HI3.out, HJ3.out⟩
          case measure => simp [intOf]; omega
        · have HJ3 := hide hJ3
          clear hJ3 hy HRy
          gi_wp2
          refine bodyPost_ret (results_none rfl _ _ _) rfl ?_
          refine ⟨⟨_, rfl⟩, .inr ⟨pre ++ [⟨(a, fn), by dsimp only; omega⟩], ⟨j, ?_, ?_⟩, HJ3.out⟩⟩
          · rw [HFr.out]; exact HT1.out
          · rw [HFr.out, ← HT2.out]; exact HE.out _ rfl
      · have hR2 := hst.2
        rw [if_neg hfa] at hR2
        simp only [Int.toNat_natCast] at hR2
        have HE := hide (show pg pre = atK S L (k + 1) from by rw [HP.out, HAK1.out, HAK.out]; exact hR2.symm)
        have d1 : (wr.alloc (.cells #[.int .i64 f, .int .i64 g] 37)).cell? ⟨wr.heap.size, 1, none⟩ = some (.int .i64 g) := by rw [cell_of_row _ _ _ _ _ _ (heap_alloc_new wr _)]; rfl
        have hd0 : decide ((a : Int) < f) = false := decide_eq_false hfa
        clear hst hR2 hRr hfa
        gi_wp2
        refine ⟨(fun f h => by cases h), ?_⟩
        gi_wp2
        go_roundw
        case rel => exact ⟨k + 1, _, by omega, by go_num, by rw [HAt.out], HE.out, HI1.out.kept HAl1.out (Kq.refl _ _ _ _ _).toZ, HJ1.out⟩
        case measure => simp [intOf]; omega
    · obtain rfl : k = M := by omega
      have HEq := hide (show S.take k = S from by rw [HM.out, List.take_length])
      have hen := HEnd.out
      have hAK : atK S L k = freeTo (tkn S) (min a L) := by unfold atK; rw [ha]; rfl
      rw [HEq.out] at ha
      rw [ha] at hen
      simp only [Int.toNat_natCast] at hen
      rw [← hAK] at hen
      have cl : wr.cell? ⟨bL, 0, none⟩ = some (.int .i64 (L : Nat)) := by rw [cell_of_row _ _ _ _ _ _ hI.cl]; rfl
      have hbl : bL < wr.heap.size := (Array.getElem?_eq_some_iff.1 hI.cl).1
      by_cases haL : (a : Int) < (L : Int)
      · rw [if_pos haL] at hen
        have hlen : pre.length < (freeTo (tkn S) L).length := pre_more hen HPl.out (by simp)
        obtain ⟨fnc, tmps, assign, body, hy, hRy⟩ := HY.out pre ⟨(a, L), by dsimp only; omega⟩ wr hJ hlen
        have HE := hide (show ∀ x : PG, x.1 = (a, L) → pg (pre ++ [x]) = freeTo (tkn S) L from fun x hx => by rw [pg_snoc, HP.out, hen, hx])
        dsimp only [pgEnc] at hy
        have HRy := hide hRy
        clear hen hAK hlen hRy hP hI hJ
        gi_wp2
        refine ⟨(fun h => by cases h), HRy.out.mono ?_⟩
        rintro e W3 (⟨rfl, hJ3, hk3⟩ | ⟨rfl, hJ3⟩)
        · have HJ3 := hide hJ3
          clear hJ3 hk3 hy HRy
          gi_wp2
          go_end0
          exact ⟨⟨_, rfl⟩, .inl ⟨_, by rw [HFr.out]; exact HE.out _ rfl, HJ3.out⟩⟩
        · have HJ3 := hide hJ3
          clear hJ3 hy HRy
          gi_wp2
          go_end0
          exact ⟨⟨_, rfl⟩, .inr ⟨_, ⟨_, Nat.le_refl _, by rw [HFr.out, List.take_length]; exact HE.out _ rfl⟩, HJ3.out⟩⟩
      · rw [if_neg haL] at hen
        have HE := hide (show pg pre = freeTo (tkn S) L from by rw [HP.out, hen])
        clear hen hAK hP hI hJ
        gi_wp2
        go_end0
        exact ⟨⟨_, rfl⟩, .inl ⟨_, by rw [HFr.out]; exact HE.out, HJr.out⟩⟩

/-- the iterator's contract, as a range over it takes it -/
theorem free_stops (d b0 m gl ol bT bL : Nat) (l : List Ai) (A : Option Addr) (c L : Nat) (hl : l.length ≤ 1000) (hLm : L ≤ 1048576) (w : World) (hLb : Lb b0 m gl ol w) (hT : w.heap[bT]? = some (.cells #[.slice A l.length c] 22 (0, 0))) (hB : w.heap[bL]? = some (.cells #[.int .i64 (L : Nat)] 3 (0, 0))) (hAp : Ap b0 m gl ol bL w) (hS : Sps w A l) :
    SeqStopsK Fence.wide d Try.prog 31 #[.pointer (some ⟨bT, 0, none⟩), .pointer (some ⟨bL, 0, none⟩)] pgEnc (Kz b0 m gl ol) (fun ys => pg ys = freeTo (tkn l) L)
      (fun pre => ∃ k, k ≤ (freeTo (tkn l) L).length ∧ pg pre = (freeTo (tkn l) L).take k) (freeTo (tkn l) L).length w := fun ly J Jx W hW hJ hJx hY h0 =>
  free1_in d ly b0 m gl ol bT bL l A c L hl hLm J Jx W hJ hJx hY (hLb.new hW) ((hW.block _ (Array.getElem?_eq_some_iff.1 hT).1).trans hT) ((hW.block _ (Array.getElem?_eq_some_iff.1 hB).1).trans hB) (hAp.new hLb hW) (hS.of_below hW (Nat.le_refl _)) h0
end Go.Proofs.Ytpnpbnfjhnmhjaa
