/-
  BitsTell's walk.
-/
import Derived.Test.YtklkndnikcjbhaaDoorBtV
namespace Go.Proofs.YtklkndnikcjbhaaDoor
open Go.RowKit Go.Shelf
set_option linter.unusedVariables false
set_option linter.unusedSimpArgs false

theorem hasB_mem (s : Nat) (i : Int) : hasB s i = decide (i ∈ memI s) := by
  rw [Bool.eq_iff_iff, decide_eq_true_eq]
  unfold hasB numB memI
  rw [Bool.and_eq_true, decide_eq_true_eq, List.mem_map]
  constructor
  · rintro ⟨⟨h0, h1⟩, h2⟩
    exact ⟨i.toNat, mem_mem.2 ⟨by omega, h2⟩, by omega⟩
  · rintro ⟨m, hm, rfl⟩
    obtain ⟨h1, h2⟩ := mem_mem.1 hm
    exact ⟨by omega, by rw [Int.toNat_natCast]; exact h2⟩

set_option maxRecDepth 100000 in
set_option maxHeartbeats 16000000 in
theorem tell_walk (s t : Nat) (i : Int) (hs : s < 18446744073709551616) (ht : t < 18446744073709551616) (w : World) (hT : Tz w) :
    Calls Tryd.prog 3 #[.int .u64 s, .int .u64 t, .int .i64 i] w fun e w' => e = .returned (.bool true) ∧ Below w.heap.size w w' := by
  have HT := hide hT
  have HF := hide (from_at s hs i w hT)
  have HRF := hide (fun W => rfrom_at s hs i W)
  have HRM := hide (fun W => rmembers_any s hs W)
  have HMm := hide (fun W (h : Tz W) => members_any s hs W h)
  have HRu := hide (fun W (h : Tz W) => runs_any s hs W h)
  have HRR := hide (fun W => rruns_any s hs W)
  have HSz := hide (fun W => size_at s hs W)
  have HHas := hide (fun W => has_at s hs i W)
  have HMj := hide (fun W => maj_at s t hs ht W)
  have HRj := hide (fun W => rmaj_at s t hs ht W)
  have HMem := hide (hasB_mem s i)
  have HLn := hide (show ((memI s).length : Int) = (pc s : Nat) from by unfold memI; rw [List.length_map]; rfl)
  have HOk := hide (show ∀ z ∈ memI s, I64 z from fun z hz => by have := memI_ok s z hz; unfold I64; omega)
  have HSame := hide (fun A B c c' W (hA : Ints W A (memI s)) (hB : Ints W B (memI s)) => ints_same (memI s) A B c c' W hA hB (by
    unfold memI; rw [List.length_map]; have := mem_len s; omega))
  have HSpan := hide (fun A B c c' W (hA : SpL W A (runsF s)) (hB : SpL W B (runsF s)) => spans_same (runsF s) A B c c' W hA hB (by have := runs_len hs; omega))
  have hlen : (memI s).length ≤ 64 := by unfold memI; rw [List.length_map]; exact mem_len s
  have hrl := runs_len hs
  have hpc := pc_le s
  clear hT
  generalize fromF s i = fo at *
  generalize memI s = L at *
  generalize runsF s = R at *
  generalize pc s = q at *
  generalize hasB s i = hb at *
  generalize majB s t = mj at *
  go_enter Tryd.func3, Tryd.ntmps3
  go_wp2_with fail
  refine HF.out.mono ?_
  rintro e w1 ⟨rfl, hb1⟩
  have HT1 := hide (HT.out.below hb1 HT.out.lt)
  have HB1 := hide hb1
  clear hb1 HT HF
  obtain ⟨av, bv, hfo⟩ : ∃ (a : Int) (b : Bool), fromV fo = .tuple #[.int .i64 a, .bool b] := by
    cases fo with
    | none => exact ⟨_, _, rfl⟩
    | some m => exact ⟨_, _, rfl⟩
  rw [hfo]
  rw [hfo] at HRF
  clear hfo
  go_wp2_with fail
  refine (HRF.out _).mono ?_
  rintro e w2 ⟨rfl, hb2⟩
  have HT2 := hide (HT1.out.below hb2 HT1.out.lt)
  have HB2 := hide (HB1.out.trans (hb2.mono HB1.out.size))
  clear hb2 HT1 HB1
  go_wp2_with fail
  refine (HRM.out _).mono ?_
  rintro e w3 ⟨h, rfl, hO, hb3⟩
  obtain ⟨A, c, rfl, hI⟩ := own_ints hO HOk.out
  have HI := hide hI
  have HT3 := hide (HT2.out.below hb3 HT2.out.lt)
  have HB3 := hide (HB2.out.trans (hb3.mono HB2.out.size))
  clear hb3 HT2 HB2 hO hI
  generalize hn : L.length = n at *
  have HN := hide hn
  clear hn
  go_wp2_with fail
  go_loop [11, 32] (fun hv iv => ∃ k : Nat, k ≤ n ∧ iv = .int .i64 k ∧ hv = .bool (decide (i ∈ L.take k))) (fun _ iv => n - (intOf iv).toNat)
  case atStart => exact ⟨0, by omega, rfl, by simp⟩
  case round =>
    obtain ⟨k, hk, rfl, rfl⟩ := hrel
    by_cases hlt : k < n
    · obtain ⟨b, off, rfl, hbl, hc⟩ := HI.out.at (by rw [HN.out]; exact hlt)
      have HS := hide (take_snoc L 0 k (by rw [HN.out]; exact hlt))
      generalize hd : decide (i ∈ L.take k) = d at *
      have HD := hide hd
      clear hd
      generalize hz : L.getD k 0 = z at *
      have HZ := hide hz
      clear hz
      cases d with
      | true =>
        go_wp2_with fail
        go_round
        case rel =>
          refine ⟨k + 1, by omega, by go_num, ?_⟩
          have := of_decide_eq_true HD.out
          rw [HS.out]
          congr 1
          exact (decide_eq_true (List.mem_append_left _ this)).symm
        case measure => simp [intOf]; omega
      | false =>
        have hze : (z == i) = decide (z = i) := rfl
        go_wp2_with fail
        go_round
        case rel =>
          refine ⟨k + 1, by omega, by go_num, ?_⟩
          have := of_decide_eq_false HD.out
          rw [HS.out]
          congr 1
          rw [Bool.eq_iff_iff]
          simp [this]
          exact eq_comm
        case measure => simp [intOf]; omega
    · obtain rfl : k = n := by omega
      have HH : Hid (decide (i ∈ L.take k) = hb) := by
        show _ = _
        rw [HMem.out, ← HN.out, List.take_length]
      rw [HH.out]
      go_wp2_with fail
      refine (HMm.out _ HT3.out).mono ?_
      rintro e w4 ⟨h, rfl, hO, hb4⟩
      obtain ⟨A4, c4, rfl, hI4⟩ := own_ints hO HOk.out
      rw [HN.out]
      have HI3 := hide (HI.out.of_below hb4 (Nat.le_refl _))
      have HI4 := hide hI4
      have HT4 := hide (HT3.out.below hb4 HT3.out.lt)
      have HB4 := hide (HB3.out.trans (hb4.mono HB3.out.size))
      clear hb4 HT3 HB3 hO hI4 HI
      go_wp2_with fail
      refine (HRu.out _ HT4.out).mono ?_
      rintro e w5 ⟨h, rfl, hO, hb5⟩
      obtain ⟨A5, c5, rfl⟩ := own_slice hO
      have HS5 := hide (own_spans hO).2
      have HI35 := hide (HI3.out.of_below hb5 (Nat.le_refl _))
      have HI45 := hide (HI4.out.of_below hb5 (Nat.le_refl _))
      have HB5 := hide (HB4.out.trans (hb5.mono HB4.out.size))
      clear hb5 HT4 HB4 hO HI3 HI4
      have HSame' := hide (fun W c c' h1 h2 => HSame.out A4 A c c' W h1 h2)
      go_wp2_with fail
      refine (HSame'.out _ _ _ HI45.out HI35.out).mono ?_
      rintro e w6 ⟨rfl, hb6⟩
      have HS6 := hide (HS5.out.below hb6 (Nat.le_refl _))
      have HB6 := hide (HB5.out.trans (hb6.mono HB5.out.size))
      clear hb6 HB5 HS5 HI45 HI35 HSame HSame'
      obtain rfl : k = q := by have := HLn.out; omega
      go_wp2_with fail
      refine (HSz.out _).mono ?_
      rintro e w' ⟨rfl, rfl⟩
      go_wp2_with fail
      refine (HHas.out _).mono ?_
      rintro e w' ⟨rfl, rfl⟩
      go_wp2_with fail
      refine (HMj.out _).mono ?_
      rintro e w' ⟨rfl, rfl⟩
      go_wp2_with fail
      refine (HRj.out _).mono ?_
      rintro e w7 ⟨rfl, hb7⟩
      have HS7 := hide (HS6.out.below hb7 (Nat.le_refl _))
      have HB7 := hide (HB6.out.trans (hb7.mono HB6.out.size))
      clear hb7 HB6 HS6
      go_wp2_with fail
      refine (HRR.out _).mono ?_
      rintro e w8 ⟨h, rfl, hO, hb8⟩
      obtain ⟨A8, c8, rfl⟩ := own_slice hO
      have HS8 := hide (own_spans hO).2
      have HS78 := hide (HS7.out.below hb8 (Nat.le_refl _))
      have HB8 := hide (HB7.out.trans (hb8.mono HB7.out.size))
      clear hb8 HB7 HS7 hO
      go_wp2_with fail
      refine (HSpan.out _ _ _ _ _ HS78.out HS8.out).mono ?_
      rintro e w9 ⟨rfl, hb9⟩
      have HB9 := hide (HB8.out.trans (hb9.mono HB8.out.size))
      clear hb9 HB8 HS8 HS78
      go_wp2_with fail
      go_ret
      exact ⟨by simp, HB9.out⟩
end Go.Proofs.YtklkndnikcjbhaaDoor
