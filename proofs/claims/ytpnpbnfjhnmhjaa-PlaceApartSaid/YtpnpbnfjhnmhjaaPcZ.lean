/-
  The walk of a statement: several sizes' places are aligned, in the limit, apart, and none is earlier.
-/
import Derived.Test.YtpnpbnfjhnmhjaaPcZa
namespace Go.Proofs.Ytpnpbnfjhnmhjaa
open Go.RowKit Go.Shelf
attribute [local go_sem] Oper.semAt_some
set_option linter.unusedVariables false
set_option linter.unusedSimpArgs false
set_option maxRecDepth 100000

theorem natI_64' {ps : List Nat} {L : Nat} (hL : L ≤ 1048576) (h : ∀ p ∈ ps, p ≤ L) : ∀ z ∈ natI ps, I64 z := by
  intro z hz
  obtain ⟨p, hp, rfl⟩ := List.mem_map.1 hz
  have := h p hp
  unfold I64
  omega

set_option maxHeartbeats 16000000 in
theorem apart_walk (l : List Ai) (A : Option Addr) (c : Nat) (sizes : List Int) (As : Option Addr) (cs : Nat) (align limit : Int) (w : World) (hI : Sps w A l) (hJ : Ints w As sizes) :
    Calls Try.prog 6 #[.slice A l.length c, .slice As sizes.length cs, .int .i64 align, .int .i64 limit] w fun e w' => e = .returned (.bool true) ∧ Below w.heap.size w w' := by
  have HAl := hide (alive_at w)
  have HG := hide (fun W => great_at A As l.length c sizes.length cs limit W)
  have HIb := hide (fun W (h : Below w.heap.size w W) => hI.of_below h (Nat.le_refl _))
  have HJb := hide (fun W (h : Below w.heap.size w W) => hJ.of_below h (Nat.le_refl _))
  have HI64 := hide hI.1
  cases hg : decide (50 < l.length ∨ 50 < sizes.length ∨ (300 < limit ∧ limit ≤ 1048576)) with
  | true =>
    rw [hg] at HG
    generalize l.length = N at *
    generalize sizes.length = M at *
    clear hI hJ hg
    go_enter Try.func6, Try.ntmps6
    go_wp2_with fail
    refine HAl.out.mono ?_
    rintro e w1 ⟨rfl, hb⟩
    have HB1 := hide hb
    clear hb
    go_wp2_with fail
    refine (HG.out w1).mono ?_
    rintro e w2 ⟨rfl, rfl⟩
    go_wp2_with fail
    go_ret
    exact ⟨rfl, HB1.out⟩
  | false =>
    have hg' := of_decide_eq_false hg
    rw [hg] at HG
    have h300 : mayB 0 1 limit = true → limit ≤ 100000 := fun h => by
      obtain ⟨_, _, _, _, h5, h6⟩ := mayB_t h
      omega
    have HFit := hide (fun W (h : Sps W A l) (h2 : Ints W As sizes) => Fit_at l A c sizes As cs align limit W h h2 (by omega) (by omega) h300)
    have hl50 : l.length ≤ 50 := by omega
    have hs50 : sizes.length ≤ 50 := by omega
    rcases fit_two l sizes align limit with ⟨code, hcode, hfit⟩ | ⟨a, L, ps, rfl, rfl, ha0, ha, hL, hsz, hfs, hps, hfit⟩
    · have HF := hide hfit
      have hc0 : ((code : Int) == 0) = false := by rcases hcode with rfl | rfl <;> rfl
      have hc1 : ¬ code = 0 := by rcases hcode with rfl | rfl <;> decide
      have hc2 : decide (code = 0) = false := decide_eq_false hc1
      generalize l.length = N at *
      generalize sizes.length = M at *
      clear hI hJ hg hg' hfit hcode h300
      go_enter Try.func6, Try.ntmps6
      go_wp2_with fail
      refine HAl.out.mono ?_
      rintro e w1 ⟨rfl, hb⟩
      have HB1 := hide hb
      clear hb
      go_wp2_with fail
      refine (HG.out w1).mono ?_
      rintro e w2 ⟨rfl, rfl⟩
      go_wp2_with fail
      refine (HFit.out w1 (HIb.out w1 HB1.out) (HJb.out w1 HB1.out)).mono ?_
      rintro e w2 ⟨hf2, hb⟩
      obtain rfl := HF.out _ _ _ hf2
      have HB2 := hide (HB1.out.trans (hb.mono HB1.out.size))
      clear hf2 hb
      go_wp2_with fail
      go_ret
      exact ⟨by first | rfl | simp_all, HB2.out⟩
    · have HF := hide hfit
      have HSz := hide hsz
      have HP64 := hide (natI_64' hL hps)
      have HPre := hide (fun i (h : i < sizes.length) => fit_pre hfs h)
      have HKl := hide (show (natI ps).length = sizes.length from by rw [natI_len, fitS_len _ _ hfs])
      have HPl := hide hps
      have ha0' : ((a : Int) == 0) = false := beq_eq_false_iff_ne.2 (by omega)
      obtain ⟨N, hN⟩ : ∃ N, N = l.length := ⟨_, rfl⟩
      have HN := hide hN
      obtain ⟨M, hM⟩ : ∃ M, M = sizes.length := ⟨_, rfl⟩
      have HM := hide hM
      rw [← hN] at HG HFit ⊢
      rw [← hM] at HG HFit HPre ⊢
      rw [← hN] at hl50
      rw [← hM] at hs50
      clear hI hJ hg hg' hfit h300 hsz hfs hps hN hM
      go_enter Try.func6, Try.ntmps6
      go_wp2_with fail
      refine HAl.out.mono ?_
      rintro e w1 ⟨rfl, hb⟩
      have HB1 := hide hb
      clear hb
      go_wp2_with fail
      refine (HG.out w1).mono ?_
      rintro e w2 ⟨rfl, rfl⟩
      go_wp2_with fail
      refine (HFit.out w1 (HIb.out w1 HB1.out) (HJb.out w1 HB1.out)).mono ?_
      rintro e w2 ⟨hf2, hb⟩
      obtain ⟨v2, rfl, hO2⟩ := HF.out _ _ _ hf2
      have HB2 := hide (HB1.out.trans (hb.mono HB1.out.size))
      obtain ⟨A3, c3, rfl, hI3⟩ := own_ints hO2 HP64.out
      rw [HKl.out, ← HM.out]
      have HAt := hide hI3
      have HJ2 := hide (HJb.out w2 HB2.out)
      have HI2 := hide (HIb.out w2 HB2.out)
      clear hf2 hb hO2 hI3
      go_wp2_with (at_builtin; refine wpList_spans _ rfl _ _ rfl w2.heap.size _ rfl (World.ownsRow_nil _ _ _ _) (Nat.le_refl _) A l c N HN.out rfl HI2.out (by have := HN.out; omega) ?_)
      intro vT w3 hT hg3
      have HB3 := hide ((Below.refl w2.heap.size w2).grown hg3 (Nat.le_refl _) (by intro k hk; cases hk))
      have HT := hide hT
      clear hT hg3
      go_wp2_with fail
      go_loopw [12, 13] (fun tv iv wr => ∃ i : Nat, i ≤ M ∧ iv = .int .i64 i ∧ OwnA wr w2.heap.size tv (l ++ spF sizes (ps.take i)) ∧ Below w2.heap.size w2 wr) (fun _ iv _ => M - (intOf iv).toNat)
      case atStart => exact ⟨0, Nat.zero_le _, rfl, by simpa [spF] using HT.out, HB3.out⟩
      case round =>
        generalize wr = wo at *
        obtain ⟨i, hi, rfl, hO, hb⟩ := hrel
        have HBr := hide hb
        have hsr := hb.size
        by_cases hlt : i < M
        · have hil : i < sizes.length := by rw [← HM.out]; exact hlt
          obtain ⟨p, hp1, hp2, hp3, hp4⟩ := HPre.out i hlt
          obtain ⟨b, off, eA, hbl, x0⟩ := HAt.out.at (k := i) (by rw [HKl.out]; exact hil)
          obtain ⟨b2, off2, eB, hbl2, y0⟩ := HJ2.out.at hil
          obtain ⟨z1, z2⟩ := HSz.out _ (getD_mem hil)
          obtain ⟨z, hz⟩ := Int.eq_ofNat_of_zero_le z1
          rw [hp1] at x0
          rw [hz] at y0 z2 hp2
          have hz3 : z ≤ 1048576 := by omega
          have HSp := hide (show l ++ spF sizes (ps.take (i + 1)) = (l ++ spF sizes (ps.take i)) ++ [((p : Int), (p : Int) + (z : Int))] from by rw [spF_next hp3 hp4 hz, List.append_assoc])
          obtain ⟨f1, f2⟩ := firstF_some.1 (show firstF (tkn (l ++ spF sizes (ps.take i))) z a L = some p from hp2)
          obtain ⟨f3, f4, f5⟩ := fitsB_iff.1 f1
          have HRun := hide (fun (n : Nat) (h : n < z) => show inB (l ++ spF sizes (ps.take i)) ((p : Int) + (n : Int)) = false from by
            have := f5 (p + n) (by omega) (by omega)
            rw [← Int.natCast_add]; exact this)
          have HNo := hide (fun (k : Nat) (h : k % a = 0) (h2 : k < p) => show runB (tkn (l ++ spF sizes (ps.take i))) k z = false from by
            cases hr : runB (tkn (l ++ spF sizes (ps.take i))) k z with
            | false => rfl
            | true =>
              have := f2 k h2
              rw [fitsB_iff.2 ⟨h, by omega, runB_iff.1 hr⟩] at this; cases this)
          have hplen : (l ++ spF sizes (ps.take i)).length ≤ 1000 := by rw [List.length_append, spF_len, hp4]; have := HN.out; omega
          obtain ⟨A', c', rfl, hA'⟩ := own_spans hO (fun s hs => by
            rcases List.mem_append.1 hs with h | h
            · exact HI64.out s h
            · exact spF_ok (limit := L) HSz.out hL (fun q hq => HPl.out q (List.mem_of_mem_take hq)) s h)
          have HS' := hide hA'
          have HTk := hide (fun q : Nat => show inB (l ++ spF sizes (ps.take i)) (q : Int) = tkn (l ++ spF sizes (ps.take i)) q from rfl)
          have HIn := hide (fun q W (h : Below wo.heap.size wo W) => rin_at (l ++ spF sizes (ps.take i)) A' c' q W (hA'.of_below h (Nat.le_refl _)) (by omega))
          have HO := hide (show wo.ownsRow w2.heap.size 37 2 (.slice A' (l ++ spF sizes (ps.take i)).length c') (l ++ spF sizes (ps.take i)).length (flatA (l ++ spF sizes (ps.take i))) from hO)
          obtain ⟨N2, hN2⟩ : ∃ N2, N2 = (l ++ spF sizes (ps.take i)).length := ⟨_, rfl⟩
          have HN2 := hide hN2
          rw [← hN2] at HIn HO hplen ⊢
          generalize l ++ spF sizes (ps.take i) = tk at *
          have ha0n : ¬ a = 0 := by omega
          have hpm : (p : Int).tmod (a : Int) = 0 := by
            rw [← Int.ofNat_tmod, f3]; rfl
          have hd1 : decide ((p : Int) < 0) = false := decide_eq_false (by omega)
          have hd2 : decide ((L : Int) < (p : Int) + (z : Int)) = false := decide_eq_false (by omega)
          have hpL : p ≤ 1048576 := by omega
          have hw1 : IntKind.i64.wrap ((p : Int) + (z : Int)) = (p : Int) + (z : Int) := by rw [IntKind.wrap_i64]; omega
          have HC := hide (fun W (h : Below w2.heap.size w2 W) => (⟨(bcl (o := off + i) h hbl).trans x0, (bcl (o := off2 + i) h hbl2).trans y0⟩ : W.cell? ⟨b, off + i, none⟩ = some (.int .i64 (p : Nat)) ∧ W.cell? ⟨b2, off2 + i, none⟩ = some (.int .i64 (z : Nat))))
          have HBd := hide (show Below w2.heap.size w2 wo.drew from below_drewN HBr.out 1)
          have HBe := hide (show Below wo.heap.size wo wo.drew from below_drewN (Below.refl _ _) 1)
          have HS0 : Hid ((fun w' => w'.cell? ⟨b, off + i, none⟩ = some (.int .i64 (p : Nat)) ∧ w'.cell? ⟨b2, off2 + i, none⟩ = some (.int .i64 (z : Nat))) wo.drew) := HC.out _ HBd.out
          subst eA eB
          clear hO hb hil hp1 hp2 hp3 hp4 z1 z2 hz f1 f2 f3 f4 f5 hA' hN2 x0 y0
          go_wp2_with fail
          refine wp_region_held_drew (S := fun w' => w'.cell? ⟨b, off + i, none⟩ = some (.int .i64 (p : Nat)) ∧ w'.cell? ⟨b2, off2 + i, none⟩ = some (.int .i64 (z : Nat))) (by kernel_rfl) (HS0.out) (fun hHeld => ?_)
          refine wpAnyH_take (i := 0) (v := ?v1_0) rfl (by kernel_rfl) (by kernel_rfl) (by kernel_rfl) (fun _ _ _ h => h) (Or.inl ⟨by kernel_rfl, ?y1_0⟩) (by assumption) ?r1_0
          case y1_0 => (intro W hSW; (try dsimp only at hSW); go_simp; (try with_reducible rfl))
          change wpAnyH _ _ _ _ _ _ _ (Act.put _ (some 58) _) _
          (try simp only [Act.put, List.setIfInBounds_toArray, List.set_cons_zero, List.set_cons_succ])
          refine wpAnyH_take (i := 1) (v := ?v1_1) rfl (by kernel_rfl) (by kernel_rfl) (by kernel_rfl) (fun _ _ _ h => h) (Or.inl ⟨by kernel_rfl, ?y1_1⟩) (by assumption) ?r1_1
          case y1_1 => (intro W hSW; (try dsimp only at hSW); go_simp; (try with_reducible rfl))
          change wpAnyH _ _ _ _ _ _ _ (Act.put _ (some 59) _) _
          (try simp only [Act.put, List.setIfInBounds_toArray, List.set_cons_zero, List.set_cons_succ])
          refine wpAnyH_take (i := 2) (v := ?v1_2) rfl (by kernel_rfl) (by kernel_rfl) (by kernel_rfl) (fun _ _ _ h => h) (Or.inl ⟨by kernel_rfl, ?y1_2⟩) (by assumption) ?r1_2
          case y1_2 => (intro W hSW; (try dsimp only at hSW); go_simp; (try with_reducible rfl))
          change wpAnyH _ _ _ _ _ _ _ (Act.put _ (some 60) _) _
          (try simp only [Act.put, List.setIfInBounds_toArray, List.set_cons_zero, List.set_cons_succ])
          refine wpAnyH_take (i := 3) (v := ?v1_3) rfl (by kernel_rfl) (by kernel_rfl) (by kernel_rfl) (fun _ _ _ h => h) (Or.inl ⟨by kernel_rfl, ?y1_3⟩) (by assumption) ?r1_3
          case y1_3 => (intro W hSW; (try dsimp only at hSW); go_simp; (try with_reducible rfl))
          change wpAnyH _ _ _ _ _ _ _ (Act.put _ (some 61) _) _
          (try simp only [Act.put, List.setIfInBounds_toArray, List.set_cons_zero, List.set_cons_succ])
          refine wpAnyH_take (i := 4) (v := ?v1_4) rfl (by kernel_rfl) (by kernel_rfl) (by kernel_rfl) (fun _ _ _ h => h) (Or.inl ⟨by kernel_rfl, ?y1_4⟩) (by assumption) ?r1_4
          case y1_4 => (intro W hSW; (try dsimp only at hSW); go_simp; (try with_reducible rfl))
          change wpAnyH _ _ _ _ _ _ _ (Act.put _ (some 62) _) _
          (try simp only [Act.put, List.setIfInBounds_toArray, List.set_cons_zero, List.set_cons_succ])
          refine wpAnyH_take (i := 5) (v := ?v1_5) rfl (by kernel_rfl) (by kernel_rfl) (by kernel_rfl) (fun _ _ _ h => h) (Or.inl ⟨by kernel_rfl, ?y1_5⟩) (by assumption) ?r1_5
          case y1_5 => (intro W hSW; (try dsimp only at hSW); go_simp; (try with_reducible rfl))
          change wpAnyH _ _ _ _ _ _ _ (Act.put _ (some 63) _) _
          (try simp only [Act.put, List.setIfInBounds_toArray, List.set_cons_zero, List.set_cons_succ])
          refine wpAnyH_take (i := 6) (v := ?v1_6) rfl (by kernel_rfl) (by kernel_rfl) (by kernel_rfl) (fun _ _ _ h => h) (Or.inl ⟨by kernel_rfl, ?y1_6⟩) (by assumption) ?r1_6
          case y1_6 => (intro W hSW; (try dsimp only at hSW); go_simp; (try with_reducible rfl))
          change wpAnyH _ _ _ _ _ _ _ (Act.put _ (some 64) _) _
          (try simp only [Act.put, List.setIfInBounds_toArray, List.set_cons_zero, List.set_cons_succ])
          refine wpAnyH_take (i := 7) (v := ?v1_7) rfl (by kernel_rfl) (by kernel_rfl) (by kernel_rfl) (fun _ _ _ h => h) (Or.inl ⟨by kernel_rfl, ?y1_7⟩) (by assumption) ?r1_7
          case y1_7 => (intro W hSW; (try dsimp only at hSW); go_simp; (try with_reducible rfl))
          change wpAnyH _ _ _ _ _ _ _ (Act.put _ (some 65) _) _
          (try simp only [Act.put, List.setIfInBounds_toArray, List.set_cons_zero, List.set_cons_succ])
          refine wpAnyH_take (i := 8) (v := ?v1_8) rfl (by kernel_rfl) (by kernel_rfl) (by kernel_rfl) (fun _ _ _ h => h) (Or.inl ⟨by kernel_rfl, ?y1_8⟩) (by assumption) ?r1_8
          case y1_8 => (intro W hSW; (try dsimp only at hSW); go_simp; (try with_reducible rfl))
          change wpAnyH _ _ _ _ _ _ _ (Act.put _ (some 66) _) _
          (try simp only [Act.put, List.setIfInBounds_toArray, List.set_cons_zero, List.set_cons_succ])
          refine wpAnyH_take (i := 9) (v := ?v1_9) rfl (by kernel_rfl) (by kernel_rfl) (by kernel_rfl) (fun _ _ _ h => h) (Or.inl ⟨by kernel_rfl, ?y1_9⟩) (by assumption) ?r1_9
          case y1_9 => (intro W hSW; (try dsimp only at hSW); go_simp; (try with_reducible rfl))
          change wpAnyH _ _ _ _ _ _ _ (Act.put _ (some 67) _) _
          (try simp only [Act.put, List.setIfInBounds_toArray, List.set_cons_zero, List.set_cons_succ])
          refine wpAnyH_take (i := 10) (v := ?v1_10) rfl (by kernel_rfl) (by kernel_rfl) (by kernel_rfl) (fun _ _ _ h => h) (Or.inl ⟨by kernel_rfl, ?y1_10⟩) (by assumption) ?r1_10
          case y1_10 => (intro W hSW; (try dsimp only at hSW); go_simp; (try with_reducible rfl))
          change wpAnyH _ _ _ _ _ _ _ (Act.put _ (some 68) _) _
          (try simp only [Act.put, List.setIfInBounds_toArray, List.set_cons_zero, List.set_cons_succ])
          refine wpAnyH_take (i := 11) (v := ?v1_11) rfl (by kernel_rfl) (by kernel_rfl) (by kernel_rfl) (fun _ _ _ h => h) (Or.inl ⟨by kernel_rfl, ?y1_11⟩) (by assumption) ?r1_11
          case y1_11 => (intro W hSW; (try dsimp only at hSW); go_simp; (try with_reducible rfl))
          change wpAnyH _ _ _ _ _ _ _ (Act.put _ (some 69) _) _
          (try simp only [Act.put, List.setIfInBounds_toArray, List.set_cons_zero, List.set_cons_succ])
          refine wpAnyH_take (i := 12) (v := ?v1_12) rfl (by kernel_rfl) (by kernel_rfl) (by kernel_rfl) (fun _ _ _ h => h) (Or.inl ⟨by kernel_rfl, ?y1_12⟩) (by assumption) ?r1_12
          case y1_12 => (intro W hSW; (try dsimp only at hSW); go_simp; (try with_reducible rfl))
          change wpAnyH _ _ _ _ _ _ _ (Act.put _ (some 70) _) _
          (try simp only [Act.put, List.setIfInBounds_toArray, List.set_cons_zero, List.set_cons_succ])
          refine wpAnyH_take (i := 13) (v := ?v1_13) rfl (by kernel_rfl) (by kernel_rfl) (by kernel_rfl) (fun _ _ _ h => h) (Or.inl ⟨by kernel_rfl, ?y1_13⟩) (by assumption) ?r1_13
          case y1_13 => (intro W hSW; (try dsimp only at hSW); go_simp; (try with_reducible rfl))
          change wpAnyH _ _ _ _ _ _ _ (Act.put _ (some 71) _) _
          (try simp only [Act.put, List.setIfInBounds_toArray, List.set_cons_zero, List.set_cons_succ])
          refine wpAnyH_take (i := 14) (v := ?v1_14) rfl (by kernel_rfl) (by kernel_rfl) (by kernel_rfl) (fun _ _ _ h => h) (Or.inl ⟨by kernel_rfl, ?y1_14⟩) (by assumption) ?r1_14
          case y1_14 => (intro W hSW; (try dsimp only at hSW); go_simp; (try with_reducible rfl))
          change wpAnyH _ _ _ _ _ _ _ (Act.put _ (some 72) _) _
          (try simp only [Act.put, List.setIfInBounds_toArray, List.set_cons_zero, List.set_cons_succ])
          refine wpAnyH_take (i := 15) (v := ?v1_15) rfl (by kernel_rfl) (by kernel_rfl) (by kernel_rfl) (fun _ _ _ h => h) (Or.inl ⟨by kernel_rfl, ?y1_15⟩) (by assumption) ?r1_15
          case y1_15 => (intro W hSW; (try dsimp only at hSW); go_simp; (try with_reducible rfl))
          change wpAnyH _ _ _ _ _ _ _ (Act.put _ (some 73) _) _
          (try simp only [Act.put, List.setIfInBounds_toArray, List.set_cons_zero, List.set_cons_succ])
          refine wpAnyH_take (i := 16) (v := ?v1_16) rfl (by kernel_rfl) (by kernel_rfl) (by kernel_rfl) (fun _ _ _ h => h) (Or.inl ⟨by kernel_rfl, ?y1_16⟩) (by assumption) ?r1_16
          case y1_16 => (intro W hSW; (try dsimp only at hSW); go_simp; (try with_reducible rfl))
          change wpAnyH _ _ _ _ _ _ _ (Act.put _ (some 74) _) _
          (try simp only [Act.put, List.setIfInBounds_toArray, List.set_cons_zero, List.set_cons_succ])
          refine wpAnyH_take (i := 17) (v := ?v1_17) rfl (by kernel_rfl) (by kernel_rfl) (by kernel_rfl) (fun _ _ _ h => h) (Or.inl ⟨by kernel_rfl, ?y1_17⟩) (by assumption) ?r1_17
          case y1_17 => (intro W hSW; (try dsimp only at hSW); go_simp; (try with_reducible rfl))
          change wpAnyH _ _ _ _ _ _ _ (Act.put _ (some 75) _) _
          (try simp only [Act.put, List.setIfInBounds_toArray, List.set_cons_zero, List.set_cons_succ])
          refine wpAnyH_take (i := 18) (v := ?v1_18) rfl (by kernel_rfl) (by kernel_rfl) (by kernel_rfl) (fun _ _ _ h => h) (Or.inl ⟨by kernel_rfl, ?y1_18⟩) (by assumption) ?r1_18
          case y1_18 => (intro W hSW; (try dsimp only at hSW); go_simp; (try with_reducible rfl))
          change wpAnyH _ _ _ _ _ _ _ (Act.put _ (some 76) _) _
          (try simp only [Act.put, List.setIfInBounds_toArray, List.set_cons_zero, List.set_cons_succ])
          refine wpAnyH_take (i := 19) (v := ?v1_19) rfl (by kernel_rfl) (by kernel_rfl) (by kernel_rfl) (fun _ _ _ h => h) (Or.inl ⟨by kernel_rfl, ?y1_19⟩) (by assumption) ?r1_19
          case y1_19 => (intro W hSW; (try dsimp only at hSW); go_simp; (try with_reducible rfl))
          change wpAnyH _ _ _ _ _ _ _ (Act.put _ (some 77) _) _
          (try simp only [Act.put, List.setIfInBounds_toArray, List.set_cons_zero, List.set_cons_succ])
          refine wpAnyH_take (i := 20) (v := ?v1_20) rfl (by kernel_rfl) (by kernel_rfl) (by kernel_rfl) (fun _ _ _ h => h) (Or.inl ⟨by kernel_rfl, ?y1_20⟩) (by assumption) ?r1_20
          case y1_20 => (intro W hSW; (try dsimp only at hSW); go_simp; (try with_reducible rfl))
          change wpAnyH _ _ _ _ _ _ _ (Act.put _ (some 78) _) _
          (try simp only [Act.put, List.setIfInBounds_toArray, List.set_cons_zero, List.set_cons_succ])
          refine wpAnyH_take (i := 21) (v := ?v1_21) rfl (by kernel_rfl) (by kernel_rfl) (by kernel_rfl) (fun _ _ _ h => h) (Or.inl ⟨by kernel_rfl, ?y1_21⟩) (by assumption) ?r1_21
          case y1_21 => (intro W hSW; (try dsimp only at hSW); go_simp; (try with_reducible rfl))
          change wpAnyH _ _ _ _ _ _ _ (Act.put _ (some 79) _) _
          (try simp only [Act.put, List.setIfInBounds_toArray, List.set_cons_zero, List.set_cons_succ])
          refine wpAnyH_take (i := 22) (v := ?v1_22) rfl (by kernel_rfl) (by kernel_rfl) (by kernel_rfl) (fun _ _ _ h => h) (Or.inl ⟨by kernel_rfl, ?y1_22⟩) (by assumption) ?r1_22
          case y1_22 => (intro W hSW; (try dsimp only at hSW); go_simp; (try with_reducible rfl))
          change wpAnyH _ _ _ _ _ _ _ (Act.put _ (some 80) _) _
          (try simp only [Act.put, List.setIfInBounds_toArray, List.set_cons_zero, List.set_cons_succ])
          refine wpAnyH_take (i := 23) (v := ?v1_23) rfl (by kernel_rfl) (by kernel_rfl) (by kernel_rfl) (fun _ _ _ h => h) (Or.inl ⟨by kernel_rfl, ?y1_23⟩) (by assumption) ?r1_23
          case y1_23 => (intro W hSW; (try dsimp only at hSW); go_simp; (try with_reducible rfl))
          change wpAnyH _ _ _ _ _ _ _ (Act.put _ (some 81) _) _
          (try simp only [Act.put, List.setIfInBounds_toArray, List.set_cons_zero, List.set_cons_succ])
          refine wpAnyH_take (i := 24) (v := ?v1_24) rfl (by kernel_rfl) (by kernel_rfl) (by kernel_rfl) (fun _ _ _ h => h) (Or.inl ⟨by kernel_rfl, ?y1_24⟩) (by assumption) ?r1_24
          case y1_24 => (intro W hSW; (try dsimp only at hSW); go_simp; (try with_reducible rfl))
          change wpAnyH _ _ _ _ _ _ _ (Act.put _ (some 82) _) _
          (try simp only [Act.put, List.setIfInBounds_toArray, List.set_cons_zero, List.set_cons_succ])
          refine wpAnyH_take (i := 25) (v := ?v1_25) rfl (by kernel_rfl) (by kernel_rfl) (by kernel_rfl) (fun _ _ _ h => h) (Or.inl ⟨by kernel_rfl, ?y1_25⟩) (by assumption) ?r1_25
          case y1_25 => (intro W hSW; (try dsimp only at hSW); go_simp; (try with_reducible rfl))
          change wpAnyH _ _ _ _ _ _ _ (Act.put _ (some 83) _) _
          (try simp only [Act.put, List.setIfInBounds_toArray, List.set_cons_zero, List.set_cons_succ])
          refine wpAnyH_take (i := 26) (v := ?v1_26) rfl (by kernel_rfl) (by kernel_rfl) (by kernel_rfl) (fun _ _ _ h => h) (Or.inl ⟨by kernel_rfl, ?y1_26⟩) (by assumption) ?r1_26
          case y1_26 => (intro W hSW; (try dsimp only at hSW); go_simp; (try with_reducible rfl))
          change wpAnyH _ _ _ _ _ _ _ (Act.put _ (some 84) _) _
          (try simp only [Act.put, List.setIfInBounds_toArray, List.set_cons_zero, List.set_cons_succ])
          refine wpAnyH_done (by kernel_rfl) ?_ _
          clear HS0 hHeld
          generalize wo.drew = w4 at *
          obtain ⟨c1, c2⟩ := HC.out _ HBd.out
          go_wp2_with fail
          go_loopw [14] (fun kv wq => ∃ n : Nat, n ≤ z ∧ kv = .int .i64 ((p : Int) + (n : Int)) ∧ Below wo.heap.size wo wq) (fun kv _ => p + z - (intOf kv).toNat)
          case atStart => exact ⟨0, Nat.zero_le _, by simp, HBe.out⟩
          case round =>
            generalize wr = wq at *
            obtain ⟨n, hn, rfl, hbq⟩ := hrel
            have HBq := hide hbq
            have HBq2 := hide (show Below wo.heap.size wo wq.drew from below_drewN hbq 1)
            have HS0 : Hid ((fun w' => w'.cell? ⟨b, off + i, none⟩ = some (.int .i64 (p : Nat)) ∧ w'.cell? ⟨b2, off2 + i, none⟩ = some (.int .i64 (z : Nat))) wq.drew) := HC.out _ (HBr.out.trans (HBq2.out.mono hsr))
            clear hbq c1 c2
            by_cases hn2 : n < z
            · have hd3 : decide ((p : Int) + (n : Int) < (p : Int) + (z : Int)) = true := decide_eq_true (by omega)
              have HI2 := HIn.out ((p : Int) + (n : Int)) wq.drew HBq2.out
              rw [HRun.out n hn2] at HI2
              have HI3 := hide HI2
              clear HI2
              go_wp2_with fail
              refine wp_region_held_drew (S := fun w' => w'.cell? ⟨b, off + i, none⟩ = some (.int .i64 (p : Nat)) ∧ w'.cell? ⟨b2, off2 + i, none⟩ = some (.int .i64 (z : Nat))) (by kernel_rfl) (HS0.out) (fun hHeld => ?_)
              refine wpAnyH_take (i := 0) (v := ?v2_0) rfl (by kernel_rfl) (by kernel_rfl) (by kernel_rfl) (fun _ _ _ h => h) (Or.inl ⟨by kernel_rfl, ?y2_0⟩) (by assumption) ?r2_0
              case y2_0 => (intro W hSW; (try dsimp only at hSW); go_simp; (try with_reducible rfl))
              change wpAnyH _ _ _ _ _ _ _ (Act.put _ (some 89) _) _
              (try simp only [Act.put, List.setIfInBounds_toArray, List.set_cons_zero, List.set_cons_succ])
              refine wpAnyH_take (i := 1) (v := ?v2_1) rfl (by kernel_rfl) (by kernel_rfl) (by kernel_rfl) (fun _ _ _ h => h) (Or.inl ⟨by kernel_rfl, ?y2_1⟩) (by assumption) ?r2_1
              case y2_1 => (intro W hSW; (try dsimp only at hSW); go_simp; (try with_reducible rfl))
              change wpAnyH _ _ _ _ _ _ _ (Act.put _ (some 90) _) _
              (try simp only [Act.put, List.setIfInBounds_toArray, List.set_cons_zero, List.set_cons_succ])
              refine wpAnyH_take (i := 2) (v := ?v2_2) rfl (by kernel_rfl) (by kernel_rfl) (by kernel_rfl) (fun _ _ _ h => h) (Or.inl ⟨by kernel_rfl, ?y2_2⟩) (by assumption) ?r2_2
              case y2_2 => (intro W hSW; (try dsimp only at hSW); go_simp; (try with_reducible rfl))
              change wpAnyH _ _ _ _ _ _ _ (Act.put _ (some 91) _) _
              (try simp only [Act.put, List.setIfInBounds_toArray, List.set_cons_zero, List.set_cons_succ])
              refine wpAnyH_take (i := 3) (v := ?v2_3) rfl (by kernel_rfl) (by kernel_rfl) (by kernel_rfl) (fun _ _ _ h => h) (Or.inl ⟨by kernel_rfl, ?y2_3⟩) (by assumption) ?r2_3
              case y2_3 => (intro W hSW; (try dsimp only at hSW); go_simp; (try with_reducible rfl))
              change wpAnyH _ _ _ _ _ _ _ (Act.put _ (some 92) _) _
              (try simp only [Act.put, List.setIfInBounds_toArray, List.set_cons_zero, List.set_cons_succ])
              refine wpAnyH_take (i := 4) (v := ?v2_4) rfl (by kernel_rfl) (by kernel_rfl) (by kernel_rfl) (fun _ _ _ h => h) (Or.inl ⟨by kernel_rfl, ?y2_4⟩) (by assumption) ?r2_4
              case y2_4 => (intro W hSW; (try dsimp only at hSW); go_simp; (try with_reducible rfl))
              change wpAnyH _ _ _ _ _ _ _ (Act.put _ (some 93) _) _
              (try simp only [Act.put, List.setIfInBounds_toArray, List.set_cons_zero, List.set_cons_succ])
              refine wpAnyH_take (i := 5) (v := ?v2_5) rfl (by kernel_rfl) (by kernel_rfl) (by kernel_rfl) (fun _ _ _ h => h) (Or.inl ⟨by kernel_rfl, ?y2_5⟩) (by assumption) ?r2_5
              case y2_5 => (intro W hSW; (try dsimp only at hSW); go_simp; (try with_reducible rfl))
              change wpAnyH _ _ _ _ _ _ _ (Act.put _ (some 94) _) _
              (try simp only [Act.put, List.setIfInBounds_toArray, List.set_cons_zero, List.set_cons_succ])
              refine wpAnyH_take (i := 6) (v := ?v2_6) rfl (by kernel_rfl) (by kernel_rfl) (by kernel_rfl) (fun _ _ _ h => h) (Or.inl ⟨by kernel_rfl, ?y2_6⟩) (by assumption) ?r2_6
              case y2_6 => (intro W hSW; (try dsimp only at hSW); go_simp; (try with_reducible rfl))
              change wpAnyH _ _ _ _ _ _ _ (Act.put _ (some 95) _) _
              (try simp only [Act.put, List.setIfInBounds_toArray, List.set_cons_zero, List.set_cons_succ])
              refine wpAnyH_take (i := 7) (v := ?v2_7) rfl (by kernel_rfl) (by kernel_rfl) (by kernel_rfl) (fun _ _ _ h => h) (Or.inl ⟨by kernel_rfl, ?y2_7⟩) (by assumption) ?r2_7
              case y2_7 => (intro W hSW; (try dsimp only at hSW); go_simp; (try with_reducible rfl))
              change wpAnyH _ _ _ _ _ _ _ (Act.put _ (some 96) _) _
              (try simp only [Act.put, List.setIfInBounds_toArray, List.set_cons_zero, List.set_cons_succ])
              refine wpAnyH_take (i := 8) (v := ?v2_8) rfl (by kernel_rfl) (by kernel_rfl) (by kernel_rfl) (fun _ _ _ h => h) (Or.inl ⟨by kernel_rfl, ?y2_8⟩) (by assumption) ?r2_8
              case y2_8 => (intro W hSW; (try dsimp only at hSW); go_simp; (try with_reducible rfl))
              change wpAnyH _ _ _ _ _ _ _ (Act.put _ (some 97) _) _
              (try simp only [Act.put, List.setIfInBounds_toArray, List.set_cons_zero, List.set_cons_succ])
              refine wpAnyH_take (i := 9) (v := ?v2_9) rfl (by kernel_rfl) (by kernel_rfl) (by kernel_rfl) (fun _ _ _ h => h) (Or.inl ⟨by kernel_rfl, ?y2_9⟩) (by assumption) ?r2_9
              case y2_9 => (intro W hSW; (try dsimp only at hSW); go_simp; (try with_reducible rfl))
              change wpAnyH _ _ _ _ _ _ _ (Act.put _ (some 98) _) _
              (try simp only [Act.put, List.setIfInBounds_toArray, List.set_cons_zero, List.set_cons_succ])
              refine wpAnyH_take (i := 10) (v := ?v2_10) rfl (by kernel_rfl) (by kernel_rfl) (by kernel_rfl) (fun _ _ _ h => h) (Or.inl ⟨by kernel_rfl, ?y2_10⟩) (by assumption) ?r2_10
              case y2_10 => (intro W hSW; (try dsimp only at hSW); go_simp; (try with_reducible rfl))
              change wpAnyH _ _ _ _ _ _ _ (Act.put _ (some 99) _) _
              (try simp only [Act.put, List.setIfInBounds_toArray, List.set_cons_zero, List.set_cons_succ])
              refine wpAnyH_done (by kernel_rfl) ?_ _
              clear HS0 hHeld
              generalize wq.drew = w5 at *
              go_wp2_with fail
              refine HI3.out.mono ?_
              rintro e w6 ⟨rfl, rfl⟩
              go_wp2_with fail
              go_roundw
              case rel => exact ⟨n + 1, by omega, by go_num, HBq2.out⟩
              case measure => simp [intOf]; omega
            · obtain rfl : n = z := by omega
              have hd3 : decide ((p : Int) + (n : Int) < (p : Int) + (n : Int)) = false := decide_eq_false (by omega)
              go_wp2_with fail
              refine wp_region_held_drew (S := fun w' => w'.cell? ⟨b, off + i, none⟩ = some (.int .i64 (p : Nat)) ∧ w'.cell? ⟨b2, off2 + i, none⟩ = some (.int .i64 (n : Nat))) (by kernel_rfl) (HS0.out) (fun hHeld => ?_)
              refine wpAnyH_take (i := 0) (v := ?v3_0) rfl (by kernel_rfl) (by kernel_rfl) (by kernel_rfl) (fun _ _ _ h => h) (Or.inl ⟨by kernel_rfl, ?y3_0⟩) (by assumption) ?r3_0
              case y3_0 => (intro W hSW; (try dsimp only at hSW); go_simp; (try with_reducible rfl))
              change wpAnyH _ _ _ _ _ _ _ (Act.put _ (some 89) _) _
              (try simp only [Act.put, List.setIfInBounds_toArray, List.set_cons_zero, List.set_cons_succ])
              refine wpAnyH_take (i := 1) (v := ?v3_1) rfl (by kernel_rfl) (by kernel_rfl) (by kernel_rfl) (fun _ _ _ h => h) (Or.inl ⟨by kernel_rfl, ?y3_1⟩) (by assumption) ?r3_1
              case y3_1 => (intro W hSW; (try dsimp only at hSW); go_simp; (try with_reducible rfl))
              change wpAnyH _ _ _ _ _ _ _ (Act.put _ (some 90) _) _
              (try simp only [Act.put, List.setIfInBounds_toArray, List.set_cons_zero, List.set_cons_succ])
              refine wpAnyH_take (i := 2) (v := ?v3_2) rfl (by kernel_rfl) (by kernel_rfl) (by kernel_rfl) (fun _ _ _ h => h) (Or.inl ⟨by kernel_rfl, ?y3_2⟩) (by assumption) ?r3_2
              case y3_2 => (intro W hSW; (try dsimp only at hSW); go_simp; (try with_reducible rfl))
              change wpAnyH _ _ _ _ _ _ _ (Act.put _ (some 91) _) _
              (try simp only [Act.put, List.setIfInBounds_toArray, List.set_cons_zero, List.set_cons_succ])
              refine wpAnyH_take (i := 3) (v := ?v3_3) rfl (by kernel_rfl) (by kernel_rfl) (by kernel_rfl) (fun _ _ _ h => h) (Or.inl ⟨by kernel_rfl, ?y3_3⟩) (by assumption) ?r3_3
              case y3_3 => (intro W hSW; (try dsimp only at hSW); go_simp; (try with_reducible rfl))
              change wpAnyH _ _ _ _ _ _ _ (Act.put _ (some 92) _) _
              (try simp only [Act.put, List.setIfInBounds_toArray, List.set_cons_zero, List.set_cons_succ])
              refine wpAnyH_take (i := 4) (v := ?v3_4) rfl (by kernel_rfl) (by kernel_rfl) (by kernel_rfl) (fun _ _ _ h => h) (Or.inl ⟨by kernel_rfl, ?y3_4⟩) (by assumption) ?r3_4
              case y3_4 => (intro W hSW; (try dsimp only at hSW); go_simp; (try with_reducible rfl))
              change wpAnyH _ _ _ _ _ _ _ (Act.put _ (some 93) _) _
              (try simp only [Act.put, List.setIfInBounds_toArray, List.set_cons_zero, List.set_cons_succ])
              refine wpAnyH_take (i := 5) (v := ?v3_5) rfl (by kernel_rfl) (by kernel_rfl) (by kernel_rfl) (fun _ _ _ h => h) (Or.inl ⟨by kernel_rfl, ?y3_5⟩) (by assumption) ?r3_5
              case y3_5 => (intro W hSW; (try dsimp only at hSW); go_simp; (try with_reducible rfl))
              change wpAnyH _ _ _ _ _ _ _ (Act.put _ (some 94) _) _
              (try simp only [Act.put, List.setIfInBounds_toArray, List.set_cons_zero, List.set_cons_succ])
              refine wpAnyH_take (i := 6) (v := ?v3_6) rfl (by kernel_rfl) (by kernel_rfl) (by kernel_rfl) (fun _ _ _ h => h) (Or.inl ⟨by kernel_rfl, ?y3_6⟩) (by assumption) ?r3_6
              case y3_6 => (intro W hSW; (try dsimp only at hSW); go_simp; (try with_reducible rfl))
              change wpAnyH _ _ _ _ _ _ _ (Act.put _ (some 95) _) _
              (try simp only [Act.put, List.setIfInBounds_toArray, List.set_cons_zero, List.set_cons_succ])
              refine wpAnyH_take (i := 7) (v := ?v3_7) rfl (by kernel_rfl) (by kernel_rfl) (by kernel_rfl) (fun _ _ _ h => h) (Or.inl ⟨by kernel_rfl, ?y3_7⟩) (by assumption) ?r3_7
              case y3_7 => (intro W hSW; (try dsimp only at hSW); go_simp; (try with_reducible rfl))
              change wpAnyH _ _ _ _ _ _ _ (Act.put _ (some 96) _) _
              (try simp only [Act.put, List.setIfInBounds_toArray, List.set_cons_zero, List.set_cons_succ])
              refine wpAnyH_take (i := 8) (v := ?v3_8) rfl (by kernel_rfl) (by kernel_rfl) (by kernel_rfl) (fun _ _ _ h => h) (Or.inl ⟨by kernel_rfl, ?y3_8⟩) (by assumption) ?r3_8
              case y3_8 => (intro W hSW; (try dsimp only at hSW); go_simp; (try with_reducible rfl))
              change wpAnyH _ _ _ _ _ _ _ (Act.put _ (some 97) _) _
              (try simp only [Act.put, List.setIfInBounds_toArray, List.set_cons_zero, List.set_cons_succ])
              refine wpAnyH_take (i := 9) (v := ?v3_9) rfl (by kernel_rfl) (by kernel_rfl) (by kernel_rfl) (fun _ _ _ h => h) (Or.inl ⟨by kernel_rfl, ?y3_9⟩) (by assumption) ?r3_9
              case y3_9 => (intro W hSW; (try dsimp only at hSW); go_simp; (try with_reducible rfl))
              change wpAnyH _ _ _ _ _ _ _ (Act.put _ (some 98) _) _
              (try simp only [Act.put, List.setIfInBounds_toArray, List.set_cons_zero, List.set_cons_succ])
              refine wpAnyH_take (i := 10) (v := ?v3_10) rfl (by kernel_rfl) (by kernel_rfl) (by kernel_rfl) (fun _ _ _ h => h) (Or.inl ⟨by kernel_rfl, ?y3_10⟩) (by assumption) ?r3_10
              case y3_10 => (intro W hSW; (try dsimp only at hSW); go_simp; (try with_reducible rfl))
              change wpAnyH _ _ _ _ _ _ _ (Act.put _ (some 99) _) _
              (try simp only [Act.put, List.setIfInBounds_toArray, List.set_cons_zero, List.set_cons_succ])
              refine wpAnyH_done (by kernel_rfl) ?_ _
              clear HS0 hHeld
              generalize wq.drew = w5 at *
              go_wp2_with fail
              go_loopw [15] (fun kv wq => ∃ k : Nat, k ≤ p + a ∧ k % a = 0 ∧ kv = .int .i64 k ∧ Below wo.heap.size wo wq) (fun kv _ => p - (intOf kv).toNat)
              case atStart => exact ⟨0, Nat.zero_le _, Nat.zero_mod _, rfl, HBq2.out⟩
              case round =>
                generalize wr = wk at *
                obtain ⟨k, hk, hka, rfl, hbk⟩ := hrel
                have HBk := hide hbk
                have HBk2 := hide (HBr.out.trans (hbk.mono hsr))
                obtain ⟨c1, c2⟩ := HC.out _ HBk2.out
                by_cases hkp : k < p
                · have hr0 := HNo.out k hka hkp
                  have hka2 : (k + a) % a = 0 := by rw [Nat.add_mod_right]; exact hka
                  clear hbk
                  go_wp2_with fail
                  go_loop [16, 17] (fun fv nv => ∃ j : Nat, j ≤ n ∧ fv = .bool (runB (tkn tk) k j) ∧ nv = .int .i64 ((k : Int) + (j : Int))) (fun _ nv => k + n - (intOf nv).toNat)
                  case atStart => exact ⟨0, Nat.zero_le _, rfl, by simp⟩
                  case round =>
                    obtain ⟨j, hj, rfl, rfl⟩ := hrel
                    by_cases hj2 : j < n
                    · have HS := hide (runB_succ (tkn tk) k j)
                      cases hr : runB (tkn tk) k j with
                      | true =>
                        rw [hr] at HS
                        have HI2 := HIn.out ((k : Int) + (j : Int)) _ HBk.out
                        rw [show (k : Int) + (j : Int) = ((k + j : Nat) : Int) by omega, HTk.out] at HI2
                        have HI3 := hide HI2
                        clear HI2 hr
                        rw [show ((k + j : Nat) : Int) = (k : Int) + (j : Int) by omega] at HI3
                        go_wp2_with fail
                        refine HI3.out.mono ?_
                        rintro e w6 ⟨rfl, rfl⟩
                        go_wp2_with fail
                        go_round
                        case rel => exact ⟨j + 1, by omega, by rw [HS.out]; rfl, by go_num⟩
                        case measure => simp [intOf]; omega
                      | false =>
                        rw [hr] at HS
                        clear hr
                        go_wp2_with fail
                        go_round
                        case rel => exact ⟨j + 1, by omega, by rw [HS.out]; rfl, by go_num⟩
                        case measure => simp [intOf]; omega
                    · obtain rfl : j = n := by omega
                      rw [hr0]
                      go_wp2_with fail
                      go_roundw
                      case rel => exact ⟨k + a, by omega, hka2, by go_num, HBk.out⟩
                      case measure => simp [intOf]; omega
                · have HBw := hide (show Below w2.heap.size w2 wk.drew from below_drewN HBk2.out 1)
                  have HOw := own_below HO.out (show Below wo.heap.size wo wk.drew from below_drewN hbk 1) (Nat.le_refl _)
                  have hsw : w2.heap.size ≤ wk.drew.heap.size := HBw.out.size
                  obtain ⟨v5, w5, hr5, ho5, hb5⟩ := app_one w2 wk.drew w2.heap.size A' c' N2 (flatA tk) (p : Int) ((p : Int) + (n : Int)) HOw (by omega) HBw.out hsw
                  have HS0 : Hid ((fun w' => w'.cell? ⟨b, off + i, none⟩ = some (.int .i64 (p : Nat)) ∧ w'.cell? ⟨b2, off2 + i, none⟩ = some (.int .i64 (n : Nat))) wk.drew) := HC.out _ HBw.out
                  have HS1 : Hid ((fun w' => w'.cell? ⟨b, off + i, none⟩ = some (.int .i64 (p : Nat)) ∧ w'.cell? ⟨b2, off2 + i, none⟩ = some (.int .i64 (n : Nat))) (wk.drew.alloc (.cells #[.int .i64 (p : Nat), .int .i64 ((p : Int) + (n : Int))] 37))) := HC.out _ (HBw.out.alloc hsw _)
                  have HS2 : Hid ((fun w' => w'.cell? ⟨b, off + i, none⟩ = some (.int .i64 (p : Nat)) ∧ w'.cell? ⟨b2, off2 + i, none⟩ = some (.int .i64 (n : Nat))) w5) := HC.out _ hb5
                  have HO5 := hide ho5
                  have HB5 := hide hb5
                  clear hbk ho5 hb5 HOw
                  go_wp2_with fail
                  clear c1 c2
                  refine wp_region_held_drew (S := fun w' => w'.cell? ⟨b, off + i, none⟩ = some (.int .i64 (p : Nat)) ∧ w'.cell? ⟨b2, off2 + i, none⟩ = some (.int .i64 (n : Nat))) (by kernel_rfl) (HS0.out) (fun hHeld => ?_)
                  generalize wk.drew = w7 at *
                  refine wpAnyH_take (i := 0) (v := ?v91_0) rfl (by kernel_rfl) (by kernel_rfl) (by kernel_rfl) (fun _ _ _ h => h) (Or.inl ⟨by kernel_rfl, ?y91_0⟩) (by assumption) ?r91_0
                  case y91_0 => (intro W hSW; (try dsimp only at hSW); go_simp; (try with_reducible rfl))
                  change wpAnyH _ _ _ _ _ _ _ (Act.put _ (some 133) _) _
                  (try simp only [Act.put, List.setIfInBounds_toArray, List.set_cons_zero, List.set_cons_succ])
                  refine wpAnyH_take (i := 1) (v := ?v91_1) rfl (by kernel_rfl) (by kernel_rfl) (by kernel_rfl) (fun _ _ _ h => h) (Or.inl ⟨by kernel_rfl, ?y91_1⟩) (by assumption) ?r91_1
                  case y91_1 => (intro W hSW; (try dsimp only at hSW); go_simp; (try with_reducible rfl))
                  change wpAnyH _ _ _ _ _ _ _ (Act.put _ (some 134) _) _
                  (try simp only [Act.put, List.setIfInBounds_toArray, List.set_cons_zero, List.set_cons_succ])
                  refine wpAnyH_take (i := 2) (v := ?v91_2) rfl (by kernel_rfl) (by kernel_rfl) (by kernel_rfl) (fun _ _ _ h => h) (Or.inl ⟨by kernel_rfl, ?y91_2⟩) (by assumption) ?r91_2
                  case y91_2 => (intro W hSW; (try dsimp only at hSW); go_simp; (try with_reducible rfl))
                  change wpAnyH _ _ _ _ _ _ _ (Act.put _ (some 135) _) _
                  (try simp only [Act.put, List.setIfInBounds_toArray, List.set_cons_zero, List.set_cons_succ])
                  refine wpAnyH_take (i := 3) (v := ?v91_3) rfl (by kernel_rfl) (by kernel_rfl) (by kernel_rfl) (fun _ _ _ h => h) (Or.inl ⟨by kernel_rfl, ?y91_3⟩) (by assumption) ?r91_3
                  case y91_3 => (intro W hSW; (try dsimp only at hSW); go_simp; (try with_reducible rfl))
                  change wpAnyH _ _ _ _ _ _ _ (Act.put _ (some 136) _) _
                  (try simp only [Act.put, List.setIfInBounds_toArray, List.set_cons_zero, List.set_cons_succ])
                  refine wpAnyH_take (i := 4) (v := ?v91_4) rfl (by kernel_rfl) (by kernel_rfl) (by kernel_rfl) (fun _ _ _ h => h) (Or.inl ⟨by kernel_rfl, ?y91_4⟩) (by assumption) ?r91_4
                  case y91_4 => (intro W hSW; (try dsimp only at hSW); go_simp; (try with_reducible rfl))
                  change wpAnyH _ _ _ _ _ _ _ (Act.put _ (some 137) _) _
                  (try simp only [Act.put, List.setIfInBounds_toArray, List.set_cons_zero, List.set_cons_succ])
                  refine wpAnyH_take (i := 5) (v := ?v91_5) rfl (by kernel_rfl) (by kernel_rfl) (by kernel_rfl) (fun _ _ _ h => h) (Or.inl ⟨by kernel_rfl, ?y91_5⟩) (by assumption) ?r91_5
                  case y91_5 => (intro W hSW; (try dsimp only at hSW); go_simp; (try with_reducible rfl))
                  change wpAnyH _ _ _ _ _ _ _ (Act.put _ (some 138) _) _
                  (try simp only [Act.put, List.setIfInBounds_toArray, List.set_cons_zero, List.set_cons_succ])
                  refine wpAnyH_take (i := 6) (v := ?v91_6) rfl (by kernel_rfl) (by kernel_rfl) (by kernel_rfl) (fun _ _ _ h => h) (Or.inl ⟨by kernel_rfl, ?y91_6⟩) (by assumption) ?r91_6
                  case y91_6 => (intro W hSW; (try dsimp only at hSW); go_simp; (try with_reducible rfl))
                  change wpAnyH _ _ _ _ _ _ _ (Act.put _ (some 139) _) _
                  (try simp only [Act.put, List.setIfInBounds_toArray, List.set_cons_zero, List.set_cons_succ])
                  refine wpAnyH_take (i := 7) (v := ?v91_7) rfl (by kernel_rfl) (by kernel_rfl) (by kernel_rfl) (fun _ _ _ h => h) (Or.inl ⟨by kernel_rfl, ?y91_7⟩) (by assumption) ?r91_7
                  case y91_7 => (intro W hSW; (try dsimp only at hSW); go_simp; (try with_reducible rfl))
                  change wpAnyH _ _ _ _ _ _ _ (Act.put _ (some 140) _) _
                  (try simp only [Act.put, List.setIfInBounds_toArray, List.set_cons_zero, List.set_cons_succ])
                  refine wpAnyH_take (i := 8) (v := ?v91_8) rfl (by kernel_rfl) (by kernel_rfl) (by kernel_rfl) (fun _ _ _ h => h) (Or.inl ⟨by kernel_rfl, ?y91_8⟩) (by assumption) ?r91_8
                  case y91_8 => (intro W hSW; (try dsimp only at hSW); go_simp; (try with_reducible rfl))
                  change wpAnyH _ _ _ _ _ _ _ (Act.put _ (some 141) _) _
                  (try simp only [Act.put, List.setIfInBounds_toArray, List.set_cons_zero, List.set_cons_succ])
                  refine wpAnyH_take (i := 9) (v := ?v91_9) rfl (by kernel_rfl) (by kernel_rfl) (by kernel_rfl) (fun _ _ _ h => h) (Or.inl ⟨by kernel_rfl, ?y91_9⟩) (by assumption) ?r91_9
                  case y91_9 => (intro W hSW; (try dsimp only at hSW); go_simp; (try with_reducible rfl))
                  change wpAnyH _ _ _ _ _ _ _ (Act.put _ (some 142) _) _
                  (try simp only [Act.put, List.setIfInBounds_toArray, List.set_cons_zero, List.set_cons_succ])
                  refine wpAnyH_take (i := 10) (v := ?v91_10) rfl (by kernel_rfl) (by kernel_rfl) (by kernel_rfl) (fun _ _ _ h => h) (Or.inl ⟨by kernel_rfl, ?y91_10⟩) (by assumption) ?r91_10
                  case y91_10 => (intro W hSW; (try dsimp only at hSW); go_simp; (try with_reducible rfl))
                  change wpAnyH _ _ _ _ _ _ _ (Act.put _ (some 143) _) _
                  (try simp only [Act.put, List.setIfInBounds_toArray, List.set_cons_zero, List.set_cons_succ])
                  refine wpAnyH_take (i := 11) (v := ?v91_11) rfl (by kernel_rfl) (by kernel_rfl) (by kernel_rfl) (fun _ _ _ h => h) (Or.inl ⟨by kernel_rfl, ?y91_11⟩) (by assumption) ?r91_11
                  case y91_11 => (intro W hSW; (try dsimp only at hSW); go_simp; (try with_reducible rfl))
                  change wpAnyH _ _ _ _ _ _ _ (Act.put _ (some 144) _) _
                  (try simp only [Act.put, List.setIfInBounds_toArray, List.set_cons_zero, List.set_cons_succ])
                  refine wpAnyH_take (i := 12) (v := ?v91_12) rfl (by kernel_rfl) (by kernel_rfl) (by kernel_rfl) (fun _ _ _ h => h) (Or.inl ⟨by kernel_rfl, ?y91_12⟩) (by assumption) ?r91_12
                  case y91_12 => (intro W hSW; (try dsimp only at hSW); go_simp; (try with_reducible rfl))
                  change wpAnyH _ _ _ _ _ _ _ (Act.put _ (some 145) _) _
                  (try simp only [Act.put, List.setIfInBounds_toArray, List.set_cons_zero, List.set_cons_succ])
                  refine wpAnyH_take (i := 13) (v := ?v91_13) rfl (by kernel_rfl) (by kernel_rfl) (by kernel_rfl) (fun _ _ _ h => h) (Or.inl ⟨by kernel_rfl, ?y91_13⟩) (by assumption) ?r91_13
                  case y91_13 => (intro W hSW; (try dsimp only at hSW); go_simp; (try with_reducible rfl))
                  change wpAnyH _ _ _ _ _ _ _ (Act.put _ (some 146) _) _
                  (try simp only [Act.put, List.setIfInBounds_toArray, List.set_cons_zero, List.set_cons_succ])
                  refine wpAnyH_take (i := 14) (v := ?v91_14) rfl (by kernel_rfl) (by kernel_rfl) (by kernel_rfl) (fun _ _ _ h => h) (Or.inl ⟨by kernel_rfl, ?y91_14⟩) (by assumption) ?r91_14
                  case y91_14 => (intro W hSW; (try dsimp only at hSW); go_simp; (try with_reducible rfl))
                  change wpAnyH _ _ _ _ _ _ _ (Act.put _ (some 147) _) _
                  (try simp only [Act.put, List.setIfInBounds_toArray, List.set_cons_zero, List.set_cons_succ])
                  refine wpAnyH_ready (rs := [15]) (by kernel_rfl) (by simp) ?_
                  refine AllReadyH.cons rfl (fun K hK => ?_) AllReadyH.nil
                  rw [if_pos (by rfl)]
                  go_simp
                  refine hK.out _ _ HS1.out (fun hHeld => ?_)
                  clear hK K
                  (try simp only [Act.put, List.setIfInBounds_toArray, List.set_cons_zero, List.set_cons_succ])
                  refine wpAnyH_ready (rs := [16]) (by kernel_rfl) (by simp) ?_
                  refine AllReadyH.cons rfl (fun K hK => ?_) AllReadyH.nil
                  rw [if_pos (by rfl)]
                  unfold Oper.wp
                  rw [op_app (s := .tmp 133) (x := .tmp 148) ?_ ?_ ?_ ?_ hr5]
                  rotate_left
                  rfl
                  rfl
                  rfl
                  rfl
                  refine hK.out _ _ HS2.out (fun hHeld => ?_)
                  clear hK K
                  (try simp only [Act.put, List.setIfInBounds_toArray, List.set_cons_zero, List.set_cons_succ])
                  refine wpAnyH_take (i := 17) (v := ?v99) rfl (by kernel_rfl) (by kernel_rfl) (by kernel_rfl) (fun _ _ _ h => h) (Or.inl ⟨by kernel_rfl, ?y99⟩) (by assumption) ?r99
                  case y99 => (intro W hSW; (try dsimp only at hSW); go_simp; (try with_reducible rfl))
                  change wpAnyH _ _ _ _ _ _ _ (Act.put _ (some 12) _) _
                  (try simp only [Act.put, List.setIfInBounds_toArray, List.set_cons_zero, List.set_cons_succ])
                  refine wpAnyH_done (by kernel_rfl) ?_ _
                  clear HS0 HS1 HS2 hHeld hr5
                  go_wp2_with fail
                  go_roundw
                  case rel => exact ⟨i + 1, by omega, by go_num, by rw [HSp.out]; exact ownA_snoc HN2.out.symm HO5.out, HB5.out⟩
                  case measure => simp [intOf]; omega
        · obtain rfl : i = M := by omega
          have HBz := hide (HB2.out.trans (hb.mono HB2.out.size))
          clear hb hO
          go_wp2_with fail
          go_ret
          exact ⟨rfl, HBz.out⟩
end Go.Proofs.Ytpnpbnfjhnmhjaa
