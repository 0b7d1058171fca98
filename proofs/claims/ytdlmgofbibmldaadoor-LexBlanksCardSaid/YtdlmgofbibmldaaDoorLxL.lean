/-
  LexBlanks: blanks and a remark behind each token.
-/
import Derived.Test.YtdlmgofbibmldaaDoorLxI
import Derived.Test.YtdlmgofbibmldaaDoorLxJ
import Derived.Test.YtdlmgofbibmldaaDoorLxK
import Derived.Test.YtdlmgofbibmldaaDoorLxL0
namespace Go.Proofs.YtdlmgofbibmldaaDoor
open Go.RowKit Go.Shelf
attribute [local go_sem] Oper.semAt_some
set_option linter.unusedVariables false
set_option linter.unusedSimpArgs false
set_option maxRecDepth 100000

set_option maxHeartbeats 2000000 in
theorem blanks_walk (s : ByteArray) (w : World) (hE : Env w) : Calls Tryd.prog 7 #[.string s] w fun e w' => e = .returned (.bool true) ∧ Below w.heap.size w w' := by
  have HAl := hide (alive_at w hE)
  by_cases hs : s.size ≤ 1000
  · have hss : ((s.size : Nat) : Int) ≤ 1000 := by omega
    have HT := hide (fun (W : World) (h : Env W) => toks_at s (by omega) (by have := yl_len s; omega) W h)
    have HE := hide hE
    clear hE
    unfold TokR at HT
    go_enter Tryd.func7, Tryd.ntmps7
    go_wp2_with fail
    refine HAl.out.mono ?_
    rintro e w1 ⟨rfl, hb1⟩
    have HT1 := hide (HT.out w1 (HE.out.below hb1 (Nat.le_refl _)))
    have HB1 := hide hb1
    clear hb1
    go_wp2_with fail
    refine HT1.out.mono ?_
    rintro e w2 ⟨v, rfl, hO, hb2⟩
    have HB2 := hide (HB1.out.trans (hb2.mono HB1.out.size))
    have HLc := hide (lexL_len _ (byt s) 1 1 false (Nat.le_refl _) (Nat.le_refl _))
    have HOk := hide (lex_ok _ (byt s) 1 1 false (Nat.le_refl _))
    rw [byt_len] at HLc HOk
    cases hR : (lexL (byt s) 1 1 false).2 with
    | some p =>
      have ho : outF (lexL (byt s) 1 1 false) = ([], p.1, p.2, 140) := by unfold outF; rw [hR]
      rw [ho] at hO ⊢
      obtain ⟨A, c, rfl⟩ := own_slice hO
      clear hO hb2 hR ho
      go_wp2_with fail
      go_ret
      exact ⟨rfl, HB2.out⟩
    | none =>
      have ho : outF (lexL (byt s) 1 1 false) = ((lexL (byt s) 1 1 false).1, 0, 0, 0) := by unfold outF; rw [hR]
      rw [ho] at hO ⊢
      generalize (lexL (byt s) 1 1 false).1 = L at *
      obtain ⟨A, c, rfl, hTv⟩ := own_tvs hO
      have HTv := hide hTv
      have HLl := hide (show L.length ≤ 1000 by have := HLc.out.1; omega)
      have HE2 := hide (HE.out.below HB2.out (Nat.le_refl _))
      obtain ⟨N, hN⟩ : ∃ N, N = (L.map toV).length := ⟨_, rfl⟩
      rw [← hN]
      have HN := hide hN
      have HNL := hide (show N = L.length by rw [hN, List.length_map])
      have hN9 : N ≤ 1000 := by have := HNL.out; have := HLl.out; omega
      clear hO hb2 hR ho hTv hN
      go_wp2_with fail
      go_loopw [8, 9] (fun tv iv wr => ∃ k : Nat, k ≤ N ∧ iv = .int .i64 k ∧ tv = .string (str (putF sepB (L.take k))) ∧ Below w2.heap.size w2 wr) (fun _ iv _ => N - (intOf iv).toNat)
      case atStart => exact ⟨0, Nat.zero_le _, rfl, rfl, Below.refl _ _⟩
      case round =>
        obtain ⟨k, hk, rfl, rfl, hbb⟩ := hrel
        have HBe := hide hbb
        clear hbb
        by_cases hlt : k < N
        · have hkL : k < L.length := by have := HNL.out; omega
          obtain ⟨t, ht⟩ : ∃ t, L[k]? = some t := ⟨_, List.getElem?_eq_getElem hkL⟩
          obtain ⟨b, o, rfl, hbl, T1⟩ := (HTv.out.below HBe.out (Nat.le_refl _)).at (k := k) (by rw [← HN.out]; exact hlt)
          have e1 : (L.map toV).getD k default = toV t := by simp [List.getD_eq_getElem?_getD, ht]
          rw [e1] at T1
          have x1 : wr.cell? ⟨b, o + k * 5 + 1, none⟩ = some (.string (str t.t)) := T1.c1
          have HP := hide (show str (putF sepB (L.take k)) ++ str t.t ++ ⟨#[32, 9, 35, 32, 63, 10, 13]⟩ = str (putF sepB (L.take (k + 1))) from by
            rw [show (⟨#[32, 9, 35, 32, 63, 10, 13]⟩ : ByteArray) = str [32, 9, 35, 32, 63, 10, 13] from rfl, str_app, str_app, put_snoc ht, List.append_assoc])
          have hp1 := put_len (L.take k) (fun t ht => by have := (HOk.out t (List.mem_of_mem_take ht)).2; omega)
          have hp2 : t.t.length ≤ 1000 := by have := (HOk.out t (List.mem_of_getElem? ht)).2; omega
          have hq0 : (str (putF sepB (L.take k))).size = (putF sepB (L.take k)).length := by rw [← byt_len, byt_str]
          have hq1 : (str t.t).size = t.t.length := by rw [← byt_len, byt_str]
          rw [List.length_take] at hp1
          have hz1 : ¬ 9223372036854775807 < (str (putF sepB (L.take k))).size + (str t.t).size := by omega
          have hz2 : ¬ 9223372036854775807 < (str (putF sepB (L.take k))).size + (str t.t).size + 7 := by omega
          clear hp1 hp2 hq0 hq1
          generalize str (putF sepB (L.take k)) = S0 at *
          generalize str t.t = S1 at *
          clear T1 e1 ht hkL
          go_wp2_with fail
          go_roundw
          case rel => exact ⟨k + 1, by omega, by go_num, by rw [← HP.out], HBe.out⟩
          case measure => simp [intOf]; omega
        · obtain rfl : k = N := by omega
          rw [show L.take k = L from List.take_of_length_le (by rw [← HNL.out]; exact Nat.le_refl _)]
          have hpb := put_blanks L 1 1 (fun t ht => (HOk.out t ht).1)
          have hpl := put_len L (fun t ht => by have := (HOk.out t ht).2; omega)
          have hML : (lexL (putF sepB L) 1 1 false).1.length = k := by have := congrArg List.length hpb.2.1; simp only [List.length_map] at this; rw [this, HNL.out]
          have hsz : (str (putF sepB L)).size = (putF sepB L).length := by rw [← byt_len, byt_str]
          have HT2 := hide (toks_at (str (putF sepB L)) (by rw [hsz]; have := HLl.out; omega) (by
            unfold Yl ysF; rw [byt_str, hpb.1]; simp only [List.length_append, hML, List.length_map]; simp; omega) wr (HE2.out.below HBe.out (Nat.le_refl _)))
          unfold TokR at HT2
          rw [byt_str] at HT2
          have HTr := hide (HTv.out.below HBe.out (Nat.le_refl _))
          have HB3 := hide (HB2.out.trans (HBe.out.mono HB2.out.size))
          rename World => wo
          clear HBe HTv hsz hpl
          have Hpb := hide hpb
          have HML := hide hML
          have ho : outF (lexL (putF sepB L) 1 1 false) = ((lexL (putF sepB L) 1 1 false).1, 0, 0, 0) := by unfold outF; rw [hpb.1]
          rw [ho] at HT2
          clear hpb hML ho
          generalize str (putF sepB L) = S2 at *
          generalize (lexL (putF sepB L) 1 1 false) = RR at *
          obtain ⟨M, E⟩ := RR
          dsimp only at Hpb HML HT2
          go_wp2_with fail
          refine HT2.out.mono ?_
          rintro e w3 ⟨v, rfl, hO, hb3⟩
          obtain ⟨A2, c2, rfl, hTm⟩ := own_tvs hO
          have HTm := hide hTm
          have HTl := hide (HTr.out.below hb3 (Nat.le_refl _))
          have HB4 := hide (HB3.out.trans (hb3.mono HB3.out.size))
          have hM2 : (M.map toV).length = k := by rw [List.length_map, HML.out]
          rw [hM2]
          have HSame := hide (fun (W : World) (hb : Below w3.heap.size w3 W) => show Calls Tryd.prog 11 #[.slice A k c, .slice A2 k c2, .bool false] W fun e w' => e = .returned (.bool true) ∧ Below W.heap.size W w' from by
            have := same_at (L.map toV) (M.map toV) A A2 c c2 false W (HTl.out.below hb (Nat.le_refl _)) (HTm.out.below hb (Nat.le_refl _)) (by rw [← HN.out]; omega) (by rw [hM2]; omega)
            rw [tkn_same Hpb.out.2.1, hM2, ← HN.out] at this
            exact this)
          have HM2 := hide hM2
          clear hO hTm hb3 HT2 HTr HB3 hM2
          go_wp2_with fail
          go_loopw [2, 14] (fun _ iv wr => ∃ j : Nat, j ≤ k ∧ iv = .int .i64 j ∧ Below w3.heap.size w3 wr) (fun _ iv _ => k - (intOf iv).toNat)
          case atStart => exact ⟨0, Nat.zero_le _, rfl, Below.refl _ _⟩
          case round =>
            obtain ⟨j, hj, rfl, hbb⟩ := hrel
            have HBe := hide hbb
            clear hbb
            by_cases hjt : j < k
            · have hjM : j < M.length := by have := HML.out; omega
              obtain ⟨t, ht⟩ : ∃ t, M[j]? = some t := ⟨_, List.getElem?_eq_getElem hjM⟩
              obtain ⟨b, o, rfl, hbl, T1⟩ := (HTm.out.below HBe.out (Nat.le_refl _)).at (k := j) (by rw [HM2.out]; exact hjt)
              have e1 : (M.map toV).getD j default = toV t := by simp [List.getD_eq_getElem?_getD, ht]
              rw [e1] at T1
              have hat := lnB_at Hpb.out.2.2 ht
              have y3 : wr.cell? ⟨b, o + j * 5 + 3, none⟩ = some (.int .i64 (t.ln : Nat)) := T1.c3
              have y4 : wr.cell? ⟨b, o + j * 5 + 4, none⟩ = some (.int .i64 (t.cl : Nat)) := T1.c4
              rw [hat.1] at y3
              rw [hat.2] at y4
              clear T1 e1 ht hjM hat
              cases j with
              | zero =>
                have x3 : wr.cell? ⟨b, o + 3, none⟩ = some (.int .i64 1) := by simpa using y3
                have x4 : wr.cell? ⟨b, o + 4, none⟩ = some (.int .i64 1) := by simpa using y4
                clear y3 y4
                go_wp2_with fail
                go_roundw
                case rel => exact ⟨0 + 1, by omega, by go_num, HBe.out⟩
                case measure => simp [intOf]; omega
              | succ i =>
                have x3 : wr.cell? ⟨b, o + (i + 1) * 5 + 3, none⟩ = some (.int .i64 ((i : Int) + 2)) := by rw [y3]; congr 2; omega
                have x4 : wr.cell? ⟨b, o + (i + 1) * 5 + 4, none⟩ = some (.int .i64 2) := by rw [y4]; rfl
                have hi0 : (0 : Int) ≤ (i : Int) + 1 := by omega
                have hiq : ((i : Int) + 1 == 0) = false := beq_eq_false_iff_ne.2 (by omega)
                have hiw : IntKind.i64.wrap ((i : Int) + 1 + 1) = (i : Int) + 2 := by rw [IntKind.wrap_i64]; omega
                clear y3 y4
                go_wp2_with fail
                go_roundw
                case rel => exact ⟨i + 1 + 1, by omega, by go_num, HBe.out⟩
                case measure => simp [intOf]; omega
            · obtain rfl : j = k := by omega
              go_wp2_with fail
              refine (HSame.out _ (by first | exact HBe.out | exact HBe.out.drew)).mono ?_
              rintro e w5 ⟨rfl, hb5⟩
              go_wp2_with fail
              go_ret
              exact ⟨rfl, HB4.out.trans ((HBe.out.trans (hb5.mono HBe.out.size)).mono HB4.out.size)⟩
  · have hss : ¬ ((s.size : Nat) : Int) ≤ 1000 := by omega
    clear hs hE
    go_enter Tryd.func7, Tryd.ntmps7
    go_wp2_with fail
    refine HAl.out.mono ?_
    rintro e w1 ⟨rfl, hb1⟩
    go_wp2_with fail
    go_ret
    exact ⟨rfl, hb1⟩
end Go.Proofs.YtdlmgofbibmldaaDoor
