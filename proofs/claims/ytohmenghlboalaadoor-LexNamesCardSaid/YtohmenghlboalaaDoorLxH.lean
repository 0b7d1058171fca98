/-
  The document's own tokens of a text.
-/
import Derived.Test.YtohmenghlboalaaDoorLxF
import Derived.Test.YtohmenghlboalaaDoorLxG
import Derived.Deep.CutBlock
import Derived.Deep.DeepCutAuto
namespace Go.Proofs.YtohmenghlboalaaDoor
open Go.RowKit Go.Shelf
attribute [local go_sem] Oper.semAt_some
set_option linter.unusedVariables false
set_option linter.unusedSimpArgs false
set_option maxRecDepth 100000

theorem byte_apart (c : UInt8) : (isL c = true → isD c = false ∧ c ≠ 45 ∧ isM c = false) ∧ (isD c = true → isL c = false ∧ isM c = false) ∧ (c = 45 → isL c = false ∧ isD c = false ∧ isM c = false) ∧
    (isB c = true → c = 32 ∨ c = 9 ∨ c = 13) ∧ (isB c = false → c ≠ 32 ∧ c ≠ 9 ∧ c ≠ 13) := by
  have key : ∀ c : Fin 256, (let c := UInt8.ofNat c.val; (isL c = true → isD c = false ∧ c ≠ 45 ∧ isM c = false) ∧ (isD c = true → isL c = false ∧ isM c = false) ∧ (c = 45 → isL c = false ∧ isD c = false ∧ isM c = false) ∧
    (isB c = true → c = 32 ∨ c = 9 ∨ c = 13) ∧ (isB c = false → c ≠ 32 ∧ c ≠ 9 ∧ c ≠ 13)) := by decide +kernel
  have := key ⟨c.toNat, c.toNat_lt⟩
  simp only [UInt8.ofNat_toNat] at this
  exact this
theorem byte_ne {c : UInt8} {n : UInt8} (h : c ≠ n) : (((c.toNat : Nat) : Int) == ((n.toNat : Nat) : Int)) = false := by rw [byte_eq, decide_eq_false h]
/-- what is made up to a place -/
structure Rt (w : World) (s : ByteArray) (i ln cl : Nat) (bh : Bool) (ts : List Tk) (ov : Value) (W : World) : Prop where
  P : (ts ++ (lexL ((byt s).drop i) ln cl bh).1, (lexL ((byt s).drop i) ln cl bh).2) = lexL (byt s) 1 1 false
  own : OwnT W w.heap.size ov ts
  bel : Below w.heap.size w W
theorem Rt.of {w W : World} {s : ByteArray} {i j ln cl ln' cl' : Nat} {bh bh' : Bool} {ts : List Tk} {ov : Value} (h : Rt w s i ln cl bh ts ov W) (e : lexL ((byt s).drop i) ln cl bh = lexL ((byt s).drop j) ln' cl' bh') : Rt w s j ln' cl' bh' ts ov W :=
  ⟨by rw [← e]; exact h.P, h.own, h.bel⟩
theorem Rt.err {w W : World} {s : ByteArray} {i ln cl : Nat} {bh : Bool} {ts : List Tk} {ov : Value} (h : Rt w s i ln cl bh ts ov W) (e : lexL ((byt s).drop i) ln cl bh = ([], some (ln, cl))) : outF (lexL (byt s) 1 1 false) = ([], ln, cl, 140) := by
  rw [← h.P, e]; rfl
theorem Rt.done {w W : World} {s : ByteArray} {i ln cl : Nat} {bh : Bool} {ts : List Tk} {ov : Value} (h : Rt w s i ln cl bh ts ov W) (e : (byt s).drop i = []) : outF (lexL (byt s) 1 1 false) = (ts, 0, 0, 0) := by
  rw [← h.P, e, lexL_nil, List.append_nil]; rfl
theorem rt_app {w W w4 : World} {s : ByteArray} {i j ln cl cl' : Nat} {bh bh' : Bool} {ts : List Tk} {t : Tk} {ov v4 : Value} {o : Obj} (h : Rt w s i ln cl bh ts ov W)
    (e : lexL ((byt s).drop i) ln cl bh = (t :: (lexL ((byt s).drop j) ln cl' bh').1, (lexL ((byt s).drop j) ln cl' bh').2))
    (hg : (W.alloc o).grownBy w4 ov.ownBlock) (h4 : w4.ownsRow w.heap.size 24 5 v4 (ts.length + 1) (flatT ts ++ tkC t)) : Rt w s j ln cl' bh' (ts ++ [t]) v4 w4 := by
  refine ⟨?_, ?_, (h.bel.alloc h.bel.size o).grown hg (by have := h.bel.size; simp; omega) fun k e => (own_block h.own e).2.1⟩
  · rw [← h.P, e]; simp
  · unfold OwnT
    rw [flatT_snoc, List.length_append]
    exact h4

set_option maxHeartbeats 16000000 in
theorem rtoks_at (s : ByteArray) (hz : s.size ≤ 140737488355328) (hn : (lexL (byt s) 1 1 false).1.length ≤ 90000) (w : World) :
    Calls Tryd.prog 19 #[.string s] w fun e w' => TokR w w' (lexL (byt s) 1 1 false) e := by
  have HB := hide (byt_len s)
  obtain ⟨n, hnn⟩ : ∃ n, n = s.size := ⟨_, rfl⟩
  have HN := hide hnn
  rw [← hnn] at hz HB
  have HL := hide hn
  clear hnn hn
  have H0 := hide (show Rt w s 0 1 1 false [] (.slice none 0 0) w from ⟨by simp, World.ownsRow_nil _ _ _ _, Below.refl _ _⟩)
  go_enter Tryd.func19, Tryd.ntmps19
  go_wp2_with fail
  go_loopw [6, 7, 8, 9, 10, 11, 12, 13, 14, 15, 16] (fun ov lv cv av hv _ _ _ _ _ _ wr => ∃ (at' ln cl : Nat) (bh : Bool) (ts : List Tk), at' ≤ n ∧ ln ≤ at' + 1 ∧ 1 ≤ cl ∧ cl ≤ at' + 1 ∧ lv = .int .i64 ln ∧ cv = .int .i64 cl ∧ av = .int .i64 at' ∧ hv = .bool bh ∧ Rt w s at' ln cl bh ts ov wr) (fun _ _ _ av _ _ _ _ _ _ _ _ => n - (intOf av).toNat)
  case atStart => exact ⟨0, 1, 1, false, [], Nat.zero_le _, Nat.le_refl _, Nat.le_refl _, Nat.le_refl _, rfl, rfl, rfl, rfl, H0.out⟩
  case round =>
    obtain ⟨at', ln, cl, bh, ts, hat, hln, hcl1, hcl2, rfl, rfl, rfl, rfl, hR⟩ := hrel
    have HR := hide hR
    obtain ⟨oA, oc, rfl⟩ := own_slice hR.own
    clear hR
    have hsz : (s.size : Int) = n := by rw [HN.out]
    by_cases hlt : at' < n
    · obtain ⟨c, hc⟩ : ∃ c, (byt s)[at']? = some c := ⟨_, List.getElem?_eq_getElem (by rw [HB.out]; exact hlt)⟩
      have HC := hide hc
      have hix := idx_at hc
      unfold u8V at hix
      clear hc
      have HD := hide (show (byt s).drop at' = c :: (byt s).drop (at' + 1) by
        have h := HC.out
        rw [List.drop_eq_getElem_cons (by rw [HB.out]; exact hlt)]
        rw [List.getElem?_eq_getElem (by rw [HB.out]; exact hlt)] at h
        rw [Option.some.inj h])
      have HA := hide (byte_apart c)
      by_cases h10 : c = 10
      · subst h10
        as_aux_lemma =>
          have HP1 := hide (HR.out.of (j := at' + 1) (by rw [HD.out, lexL_nl rfl]))
          go_wp2_with fail
          exact ⟨⟨at' + 1, ln + 1, 1, false, ts, hlt, by omega, by omega, by omega, by go_num, by go_num, by go_num, rfl, HP1.out⟩, by simp [intOf]; omega⟩
      · have hc10 : (((c.toNat : Nat) : Int) == 10) = false := byte_ne h10
        by_cases h35 : c = 35
        · as_aux_lemma =>
            have HN10 := hide h10
            subst h35
            have HP1 := hide (HR.out.of (j := at' + 1 + tkw nnl ((byt s).drop (at' + 1))) (ln' := ln) (cl' := cl + 1 + tkw nnl ((byt s).drop (at' + 1))) (bh' := false) (by rw [HD.out, lexL_rem rfl, List.drop_drop]))
            have HT1 := hide (show tkw nnl ((byt s).drop at') = tkw nnl ((byt s).drop (at' + 1)) + 1 from by rw [HD.out, tkw_pos _ (by decide)])
            go_wp2_with fail
            go_loop [8, 9] (fun cv av => ∃ k : Nat, at' ≤ k ∧ k ≤ n ∧ av = .int .i64 k ∧ cv = .int .i64 ((cl + (k - at') : Nat) : Int) ∧ tkw nnl ((byt s).drop at') = (k - at') + tkw nnl ((byt s).drop k)) (fun _ av => n - (intOf av).toNat)
            case atStart => exact ⟨at', Nat.le_refl _, hat, rfl, by rw [Nat.sub_self]; rfl, by omega⟩
            case round =>
              obtain ⟨k, hk1, hk2, rfl, rfl, hK⟩ := hrel
              have HK := hide hK
              clear hK hix
              have hcast : ((cl + (k - at') : Nat) : Int) = (cl : Int) + ((k : Int) - (at' : Int)) := by omega
              by_cases hkn : k < n
              · obtain ⟨e, he⟩ : ∃ e, (byt s)[k]? = some e := ⟨_, List.getElem?_eq_getElem (by rw [HB.out]; exact hkn)⟩
                have hix := idx_at he
                unfold u8V at hix
                have HST := hide (tkw_step (p := nnl) he)
                have HEE := hide he
                clear he
                by_cases he10 : e = 10
                · have hca : k ≠ at' := fun h => by
                    subst h
                    have := HC.out.symm.trans HEE.out
                    exact HN10.out ((Option.some.inj this).trans he10)
                  have HP2 := hide (show Rt w s k ln (cl + (k - at')) false ts _ wr from by
                    have h0 : tkw nnl ((byt s).drop k) = 0 := by rw [HST.out, he10, if_neg (by decide)]
                    have h1 := HK.out
                    have h2 := HT1.out
                    have h3 := HP1.out
                    rw [show at' + 1 + tkw nnl ((byt s).drop (at' + 1)) = k by omega, show cl + 1 + tkw nnl ((byt s).drop (at' + 1)) = cl + (k - at') by omega] at h3
                    exact h3)
                  have hce : (((e.toNat : Nat) : Int) == 10) = true := by rw [he10]; rfl
                  clear he10 HST
                  go_wp2_with fail
                  exact ⟨⟨k, ln, cl + (k - at'), false, ts, hk2, by omega, by omega, by omega, by go_num, rfl, rfl, rfl, HP2.out⟩, by simp [intOf]; omega⟩
                · have hce : (((e.toNat : Nat) : Int) == 10) = false := byte_ne he10
                  have HK2 := hide (show tkw nnl ((byt s).drop at') = (k + 1 - at') + tkw nnl ((byt s).drop (k + 1)) from by
                    have h1 := HK.out
                    rw [HST.out, if_pos (by unfold nnl; exact decide_eq_true he10)] at h1
                    omega)
                  clear he10 HST
                  go_wp2_with fail
                  go_round
                  case rel => exact ⟨k + 1, by omega, by omega, by go_num, by go_num, HK2.out⟩
                  case measure => simp [intOf]; omega
              · obtain rfl : k = n := by omega
                have HP2 := hide (show Rt w s k ln (cl + (k - at')) false ts _ wr from by
                  have h0 : tkw nnl ((byt s).drop k) = 0 := by rw [List.drop_of_length_le (by rw [HB.out]; omega), tkw_nil]
                  have h1 := HK.out
                  have h2 := HT1.out
                  have h3 := HP1.out
                  rw [show at' + 1 + tkw nnl ((byt s).drop (at' + 1)) = k by omega, show cl + 1 + tkw nnl ((byt s).drop (at' + 1)) = cl + (k - at') by omega] at h3
                  exact h3)
                go_wp2_with fail
                exact ⟨⟨k, ln, cl + (k - at'), false, ts, hk2, by omega, by omega, by omega, by go_num, rfl, rfl, rfl, HP2.out⟩, by simp [intOf]; omega⟩
        · have hc35 : (((c.toNat : Nat) : Int) == 35) = false := byte_ne h35
          cases hb : isB c with
          | true =>
            have HP1 := hide (HR.out.of (j := at' + 1) (by rw [HD.out, lexL_bl hb]))
            have h3 := HA.out.2.2.2.1 hb
            clear HA hb h10 h35
            rcases h3 with rfl | rfl | rfl
            · as_aux_lemma =>
                go_wp2_with fail
                exact ⟨⟨at' + 1, ln, cl + 1, false, ts, hlt, by omega, by omega, by omega, by go_num, by go_num, by go_num, rfl, HP1.out⟩, by simp [intOf]; omega⟩
            · as_aux_lemma =>
                go_wp2_with fail
                exact ⟨⟨at' + 1, ln, cl + 1, false, ts, hlt, by omega, by omega, by omega, by go_num, by go_num, by go_num, rfl, HP1.out⟩, by simp [intOf]; omega⟩
            · as_aux_lemma =>
                go_wp2_with fail
                exact ⟨⟨at' + 1, ln, cl + 1, false, ts, hlt, by omega, by omega, by omega, by go_num, by go_num, by go_num, rfl, HP1.out⟩, by simp [intOf]; omega⟩
          | false =>
            obtain ⟨b1, b2, b3⟩ := HA.out.2.2.2.2 hb
            have hc32 : (((c.toNat : Nat) : Int) == 32) = false := byte_ne b1
            have hc9 : (((c.toNat : Nat) : Int) == 9) = false := byte_ne b2
            have hc13 : (((c.toNat : Nat) : Int) == 13) = false := byte_ne b3
            have HLt := hide (rletter_at c wr)
            have HDg := hide (rdigit_at c wr)
            have HMk := hide (rmark_at c wr)
            unfold u8V at HLt HDg HMk
            have HRl := hide (show ((byt s).drop (at' + 1)).length = n - (at' + 1) from by rw [List.length_drop, HB.out])
            clear b1 b2 b3
            cases hl : isL c with
            | true =>
              obtain ⟨e1, e2, e3⟩ := HA.out.1 hl
              have hc45 : (((c.toNat : Nat) : Int) == 45) = false := byte_ne e2
              rw [hl] at HLt
              rw [e1] at HDg
              rw [e3] at HMk
              obtain ⟨m, hmm⟩ : ∃ m, m = tkw isW ((byt s).drop (at' + 1)) := ⟨_, rfl⟩
              have HM := hide hmm.symm
              have hx0 : fstF (c :: (byt s).drop (at' + 1)) = some (1, m, 0) := by rw [fstF_cons, if_pos hl, hmm]
              clear hmm
              cases hbh : bh with
              | true =>
                rw [hbh] at HR
                have HO := hide (HR.out.err (by rw [HD.out, lexL_bar hx0 ⟨rfl, rfl⟩]))
                have hm0 : m ≤ n - (at' + 1) := by rw [← HRl.out]; exact fst_le hx0
                obtain ⟨N, hN⟩ : ∃ N, N = at' + 1 + m := ⟨_, rfl⟩
                have HNe := hide hN
                have hNn : N ≤ n := by omega
                clear hx0 hN hbh hl e1 e2 e3 hb h10 h35
                go_upto_if 65 with (go_at_call 24; refine HLt.out.mono ?_; rintro e wr ⟨rfl, rfl⟩)
                go_cut [12, 13] from 17 to 150 (fun s12 s13 wx => s12 = .int .i64 (N : Nat) ∧ s13 = .int .i64 1 ∧ wx = wr)
                case first =>
                  as_aux_lemma =>
                    go_wp2_with fail
                    go_loop [12] (fun nv => ∃ k : Nat, at' + 1 ≤ k ∧ k ≤ n ∧ nv = .int .i64 k ∧ tkw isW ((byt s).drop (at' + 1)) = (k - (at' + 1)) + tkw isW ((byt s).drop k)) (fun nv => n - (intOf nv).toNat)
                    case atStart => exact ⟨at' + 1, Nat.le_refl _, hlt, by go_num, by omega⟩
                    case round =>
                      obtain ⟨k, hk1, hk2, rfl, hK⟩ := hrel
                      have HK := hide hK
                      clear hK hix
                      by_cases hkn : k < n
                      · obtain ⟨e, he⟩ : ∃ e, (byt s)[k]? = some e := ⟨_, List.getElem?_eq_getElem (by rw [HB.out]; exact hkn)⟩
                        have hix := idx_at he
                        unfold u8V at hix
                        have HST := hide (tkw_step (p := isW) he)
                        clear he
                        have HLe := hide (rletter_at e wr)
                        have HDe := hide (rdigit_at e wr)
                        unfold u8V at HLe HDe
                        cases hel : isL e with
                        | true =>
                          rw [hel] at HLe
                          have HK2 := hide (show tkw isW ((byt s).drop (at' + 1)) = (k + 1 - (at' + 1)) + tkw isW ((byt s).drop (k + 1)) from by
                            have h1 := HK.out
                            rw [HST.out, if_pos (by simp [isW, hel])] at h1
                            omega)
                          clear hel HST
                          go_wp2_with fail
                          refine HLe.out.mono ?_
                          rintro e wr ⟨rfl, rfl⟩
                          go_wp2_with fail
                          go_round
                          case rel => exact ⟨k + 1, by omega, by omega, by go_num, HK2.out⟩
                          case measure => simp [intOf]; omega
                        | false =>
                          rw [hel] at HLe
                          cases hed : isD e with
                          | true =>
                            rw [hed] at HDe
                            have HK2 := hide (show tkw isW ((byt s).drop (at' + 1)) = (k + 1 - (at' + 1)) + tkw isW ((byt s).drop (k + 1)) from by
                              have h1 := HK.out
                              rw [HST.out, if_pos (by simp [isW, hed])] at h1
                              omega)
                            clear hel hed HST
                            go_wp2_with fail
                            refine HLe.out.mono ?_
                            rintro e wr ⟨rfl, rfl⟩
                            go_wp2_with fail
                            refine HDe.out.mono ?_
                            rintro e wr ⟨rfl, rfl⟩
                            go_wp2_with fail
                            go_round
                            case rel => exact ⟨k + 1, by omega, by omega, by go_num, HK2.out⟩
                            case measure => simp [intOf]; omega
                          | false =>
                            rw [hed] at HDe
                            by_cases he95 : e = 95
                            · have hce : (((e.toNat : Nat) : Int) == 95) = true := by rw [he95]; rfl
                              have HK2 := hide (show tkw isW ((byt s).drop (at' + 1)) = (k + 1 - (at' + 1)) + tkw isW ((byt s).drop (k + 1)) from by
                                have h1 := HK.out
                                rw [HST.out, if_pos (by rw [he95]; decide)] at h1
                                omega)
                              clear hel hed he95 HST
                              go_wp2_with fail
                              refine HLe.out.mono ?_
                              rintro e wr ⟨rfl, rfl⟩
                              go_wp2_with fail
                              refine HDe.out.mono ?_
                              rintro e wr ⟨rfl, rfl⟩
                              go_wp2_with fail
                              go_round
                              case rel => exact ⟨k + 1, by omega, by omega, by go_num, HK2.out⟩
                              case measure => simp [intOf]; omega
                            · have hce : (((e.toNat : Nat) : Int) == 95) = false := byte_ne he95
                              have hkN : k = N := by
                                have h1 := HK.out
                                rw [HST.out, if_neg (by simp only [isW, hel, hed, Bool.false_or, decide_eq_true_eq]; exact fun h => he95 (UInt8.toNat_inj.1 (by rw [h]; rfl)))] at h1
                                have h2 := HNe.out; have h3 := HM.out; omega
                              subst hkN
                              clear hel hed he95 HST
                              go_wp2_with fail
                              refine HLe.out.mono ?_
                              rintro e wr ⟨rfl, rfl⟩
                              go_wp2_with fail
                              refine HDe.out.mono ?_
                              rintro e wr ⟨rfl, rfl⟩
                              go_wp2_with fail
                              go_meet
                              exact ⟨rfl, rfl, rfl⟩
                      · have hkN : k = N := by
                          have h1 := HK.out
                          rw [show (byt s).drop k = [] from List.drop_of_length_le (by rw [HB.out]; omega), tkw_nil] at h1
                          have h2 := HNe.out; have h3 := HM.out; omega
                        subst hkN
                        go_wp2_with fail
                        go_meet
                        exact ⟨rfl, rfl, rfl⟩
                case rest =>
                  obtain ⟨rfl, rfl, rfl⟩ := hcut
                  go_wp2_with fail
                  refine HDg.out.mono ?_
                  rintro e wr ⟨rfl, rfl⟩
                  go_wp2_with fail
                  refine HMk.out.mono ?_
                  rintro e wr ⟨rfl, rfl⟩
                  go_wp2_with fail
                  refine bodyPost_ret (v := .tuple #[.slice none 0 0, .int .i64 (ln : Nat), .int .i64 (cl : Nat), .int .i64 140]) (by simp [results, Tryd.results19, go_sem]) rfl ?_
                  exact ⟨.slice none 0 0, by rw [HO.out]; rfl, by rw [HO.out]; exact World.ownsRow_nil _ _ _ _, HR.out.bel⟩
              | false =>
                rw [hbh] at HR
                have hx : fstF (c :: (byt s).drop (at' + 1)) = some (1, m, 0) := hx0
                have hm : m ≤ n - (at' + 1) := by rw [← HRl.out]; exact fst_le hx
                obtain ⟨N, hN⟩ : ∃ N, N = at' + 1 + m := ⟨_, rfl⟩
                have HNe := hide hN
                obtain ⟨T, hT⟩ : ∃ T, T = s.extract at' N := ⟨_, rfl⟩
                have HT := hide (show byt T = c :: ((byt s).drop (at' + 1)).take m from by
                  rw [hT, byt_sub, List.drop_take, HD.out, show N - at' = m + 1 by omega, List.take_succ_cons])
                have HTs := hide (show T = str (c :: ((byt s).drop (at' + 1)).take m) from by rw [← HT.out]; exact (str_byt T).symm)
                have hNn : N ≤ n := by omega
                have haN : at' < N := by omega
                have hsl : ∀ W, (Instr.slice 9 (.string s) (some (.int .i64 (at' : Nat))) (some (.int .i64 (N : Nat))) none).run Tryd.prog W = .ok (.string T) W := fun W => by
                  rw [run_slice_string W 9 s .i64 .i64 (at' : Nat) (N : Nat) Tryd.underlying9 (by omega) (by omega) (by rw [hsz]; omega), hT]; rfl
                have HLx := hide (show lexL ((byt s).drop at') ln cl false = (⟨1, c :: ((byt s).drop (at' + 1)).take m, 0, ln, cl⟩ :: (lexL ((byt s).drop N) ln (cl + (N - at')) (1 == 2)).1, (lexL ((byt s).drop N) ln (cl + (N - at')) (1 == 2)).2) from by
                  rw [HD.out, lexL_tok hx (by simp), List.drop_drop, hN, show cl + 1 + m = cl + (at' + 1 + m - at') by omega])
                have HAp := hide (fun (o : Obj) (w4 : World) (v4 : Value) hg h4 => rt_app (v4 := v4) (w4 := w4) (o := o) HR.out HLx.out hg (by rw [show tkC _ = [_, _, _, _, _] from rfl, ← HTs.out]; exact h4))
                have HWs := hide (show w.heap.size ≤ wr.heap.size + 1 from by have := HR.out.bel.size; omega)
                have HLn := hide (show ts.length ≤ 100000 from by have h1 := HL.out; rw [← HR.out.P, List.length_append] at h1; omega)
                have HOw := hide (show wr.ownsRow w.heap.size 24 5 (.slice oA ts.length oc) ts.length (flatT ts) from HR.out.own)
                generalize hTl : ts.length = tl at *
                clear hT hN hx hTl
                clear hx0 hbh hl e1 e2 e3 hb h10 h35
                go_upto_if 65 with (go_at_call 24; refine HLt.out.mono ?_; rintro e wr ⟨rfl, rfl⟩)
                go_cut [12, 13] from 17 to 150 (fun s12 s13 wx => s12 = .int .i64 (N : Nat) ∧ s13 = .int .i64 1 ∧ wx = wr)
                case first =>
                  as_aux_lemma =>
                    go_wp2_with fail
                    go_loop [12] (fun nv => ∃ k : Nat, at' + 1 ≤ k ∧ k ≤ n ∧ nv = .int .i64 k ∧ tkw isW ((byt s).drop (at' + 1)) = (k - (at' + 1)) + tkw isW ((byt s).drop k)) (fun nv => n - (intOf nv).toNat)
                    case atStart => exact ⟨at' + 1, Nat.le_refl _, hlt, by go_num, by omega⟩
                    case round =>
                      obtain ⟨k, hk1, hk2, rfl, hK⟩ := hrel
                      have HK := hide hK
                      clear hK hix
                      by_cases hkn : k < n
                      · obtain ⟨e, he⟩ : ∃ e, (byt s)[k]? = some e := ⟨_, List.getElem?_eq_getElem (by rw [HB.out]; exact hkn)⟩
                        have hix := idx_at he
                        unfold u8V at hix
                        have HST := hide (tkw_step (p := isW) he)
                        clear he
                        have HLe := hide (rletter_at e wr)
                        have HDe := hide (rdigit_at e wr)
                        unfold u8V at HLe HDe
                        cases hel : isL e with
                        | true =>
                          rw [hel] at HLe
                          have HK2 := hide (show tkw isW ((byt s).drop (at' + 1)) = (k + 1 - (at' + 1)) + tkw isW ((byt s).drop (k + 1)) from by
                            have h1 := HK.out
                            rw [HST.out, if_pos (by simp [isW, hel])] at h1
                            omega)
                          clear hel HST
                          go_wp2_with fail
                          refine HLe.out.mono ?_
                          rintro e wr ⟨rfl, rfl⟩
                          go_wp2_with fail
                          go_round
                          case rel => exact ⟨k + 1, by omega, by omega, by go_num, HK2.out⟩
                          case measure => simp [intOf]; omega
                        | false =>
                          rw [hel] at HLe
                          cases hed : isD e with
                          | true =>
                            rw [hed] at HDe
                            have HK2 := hide (show tkw isW ((byt s).drop (at' + 1)) = (k + 1 - (at' + 1)) + tkw isW ((byt s).drop (k + 1)) from by
                              have h1 := HK.out
                              rw [HST.out, if_pos (by simp [isW, hed])] at h1
                              omega)
                            clear hel hed HST
                            go_wp2_with fail
                            refine HLe.out.mono ?_
                            rintro e wr ⟨rfl, rfl⟩
                            go_wp2_with fail
                            refine HDe.out.mono ?_
                            rintro e wr ⟨rfl, rfl⟩
                            go_wp2_with fail
                            go_round
                            case rel => exact ⟨k + 1, by omega, by omega, by go_num, HK2.out⟩
                            case measure => simp [intOf]; omega
                          | false =>
                            rw [hed] at HDe
                            by_cases he95 : e = 95
                            · have hce : (((e.toNat : Nat) : Int) == 95) = true := by rw [he95]; rfl
                              have HK2 := hide (show tkw isW ((byt s).drop (at' + 1)) = (k + 1 - (at' + 1)) + tkw isW ((byt s).drop (k + 1)) from by
                                have h1 := HK.out
                                rw [HST.out, if_pos (by rw [he95]; decide)] at h1
                                omega)
                              clear hel hed he95 HST
                              go_wp2_with fail
                              refine HLe.out.mono ?_
                              rintro e wr ⟨rfl, rfl⟩
                              go_wp2_with fail
                              refine HDe.out.mono ?_
                              rintro e wr ⟨rfl, rfl⟩
                              go_wp2_with fail
                              go_round
                              case rel => exact ⟨k + 1, by omega, by omega, by go_num, HK2.out⟩
                              case measure => simp [intOf]; omega
                            · have hce : (((e.toNat : Nat) : Int) == 95) = false := byte_ne he95
                              have hkN : k = N := by
                                have h1 := HK.out
                                rw [HST.out, if_neg (by simp only [isW, hel, hed, Bool.false_or, decide_eq_true_eq]; exact fun h => he95 (UInt8.toNat_inj.1 (by rw [h]; rfl)))] at h1
                                have h2 := HNe.out; have h3 := HM.out; omega
                              subst hkN
                              clear hel hed he95 HST
                              go_wp2_with fail
                              refine HLe.out.mono ?_
                              rintro e wr ⟨rfl, rfl⟩
                              go_wp2_with fail
                              refine HDe.out.mono ?_
                              rintro e wr ⟨rfl, rfl⟩
                              go_wp2_with fail
                              go_meet
                              exact ⟨rfl, rfl, rfl⟩
                      · have hkN : k = N := by
                          have h1 := HK.out
                          rw [show (byt s).drop k = [] from List.drop_of_length_le (by rw [HB.out]; omega), tkw_nil] at h1
                          have h2 := HNe.out; have h3 := HM.out; omega
                        subst hkN
                        go_wp2_with fail
                        go_meet
                        exact ⟨rfl, rfl, rfl⟩
                case rest =>
                  obtain ⟨rfl, rfl, rfl⟩ := hcut
                  go_wp2_with fail
                  refine HDg.out.mono ?_
                  rintro e wr ⟨rfl, rfl⟩
                  go_wp2_with fail
                  refine HMk.out.mono ?_
                  rintro e wr ⟨rfl, rfl⟩
                  go_wp2_with (at_builtin; go_loud (refine wpList_one _ rfl _ _ 22 rfl 24 (.agg #[.int .i64 0, .string ⟨#[]⟩, .int .i64 0, .int .i64 0, .int .i64 0]) 5 48 under_toks info_toks rfl (by decide) (by decide) w.heap.size (.slice oA tl oc) tl (flatT ts) rfl (own_below HOw.out (bal wr _) (Nat.le_refl _)) wr.heap.size 1 [.int .i64 1, .string T, .int .i64 0, .int .i64 (ln : Nat), .int .i64 (cl : Nat)] rfl (heap_alloc_new wr _) rfl (by simp [Value.oneCell']) HLn.out (by have := HWs.out; simp; omega) ?_; intro v' w4 hown4 hgr4 hwh; obtain ⟨A4, c4, rfl⟩ := own_slice hown4; have HP3 := hide (HAp.out _ _ _ hgr4 hown4); clear hown4 hgr4 hwh))
                  all_goals exact ⟨⟨N, ln, cl + (N - at'), (1 == 2), _, hNn, by omega, by omega, by omega, rfl, congrArg (Value.int .i64) (by omega), rfl, rfl, HP3.out⟩, by simp [intOf]; omega⟩
            | false =>
              rw [hl] at HLt
              by_cases hdm : isD c = true ∨ c = 45
              · have e3 : isM c = false := by
                  rcases hdm with h | h
                  · exact (HA.out.2.1 h).2
                  · exact (HA.out.2.2.1 h).2.2
                rw [e3] at HMk
                obtain ⟨m, hmm⟩ : ∃ m, m = tkw isD ((byt s).drop (at' + 1)) := ⟨_, rfl⟩
                have HM := hide hmm.symm
                have hm0 : m ≤ n - (at' + 1) := by rw [← HRl.out, hmm]; exact tkw_le _ _
                have HDB := hide (show digB (c :: ((byt s).drop (at' + 1)).take m) from ⟨c, _, rfl, hdm, by rw [hmm]; exact all_take _ _⟩)
                have HFx := hide (show fstF (c :: (byt s).drop (at' + 1)) = (numF (c :: ((byt s).drop (at' + 1)).take m)).map fun z => (2, m, z) from by rw [fstF_cons, if_neg (by simp [hl]), if_pos hdm, ← hmm])
                have HH := hide (show c ≠ 35 ∧ c ≠ 10 ∧ isB c = false from ⟨h35, h10, hb⟩)
                obtain ⟨N, hN⟩ : ∃ N, N = at' + 1 + m := ⟨_, rfl⟩
                have HNe := hide hN
                obtain ⟨T, hT⟩ : ∃ T, T = s.extract at' N := ⟨_, rfl⟩
                have HT := hide (show byt T = c :: ((byt s).drop (at' + 1)).take m from by
                  rw [hT, byt_sub, List.drop_take, HD.out, show N - at' = m + 1 by omega, List.take_succ_cons])
                have HTs := hide (show T = str (c :: ((byt s).drop (at' + 1)).take m) from by rw [← HT.out]; exact (str_byt T).symm)
                have hNn : N ≤ n := by omega
                have haN : at' < N := by omega
                have hsl : ∀ W, (Instr.slice 9 (.string s) (some (.int .i64 (at' : Nat))) (some (.int .i64 (N : Nat))) none).run Tryd.prog W = .ok (.string T) W := fun W => by
                  rw [run_slice_string W 9 s .i64 .i64 (at' : Nat) (N : Nat) Tryd.underlying9 (by omega) (by omega) (by rw [hsz]; omega), hT]; rfl
                have HNm := hide (rnum_at T (by rw [hT, ByteArray.size_extract, HN.out.symm]; omega) (by rw [HT.out]; exact HDB.out) wr)
                rw [HT.out] at HNm
                unfold NumR at HNm
                obtain ⟨kv, zv, hkv⟩ : ∃ kv zv : Int, (numF (c :: ((byt s).drop (at' + 1)).take m) = none ∧ kv = 0 ∧ zv = 0) ∨ (∃ z, numF (c :: ((byt s).drop (at' + 1)).take m) = some z ∧ kv = 2 ∧ zv = z) := by
                  cases hq : numF (c :: ((byt s).drop (at' + 1)).take m) with
                  | none => exact ⟨0, 0, .inl ⟨rfl, rfl, rfl⟩⟩
                  | some z => exact ⟨2, z, .inr ⟨z, rfl, rfl, rfl⟩⟩
                have HKV := hide hkv
                have HWs := hide (show w.heap.size ≤ wr.heap.size + 1 from by have := HR.out.bel.size; omega)
                have HLn := hide (show ts.length ≤ 100000 from by have h1 := HL.out; rw [← HR.out.P, List.length_append] at h1; omega)
                have HOw := hide (show wr.ownsRow w.heap.size 24 5 (.slice oA ts.length oc) ts.length (flatT ts) from HR.out.own)
                have HAl := hide (fun (o : Obj) (w4 : World) (v4 : Value) (z : Int) (hq : numF (c :: ((byt s).drop (at' + 1)).take m) = some z) hg h4 => rt_app (t := ⟨2, c :: ((byt s).drop (at' + 1)).take m, z, ln, cl⟩) (j := N) (cl' := cl + (N - at')) (bh' := true) (v4 := v4) (w4 := w4) (o := o) HR.out (by
                  have hx := HFx.out
                  rw [hq] at hx
                  rw [HD.out, lexL_tok hx (by simp), List.drop_drop, HNe.out, show cl + 1 + m = cl + (at' + 1 + m - at') by omega]; rfl) hg h4)
                have HEr := hide (fun (hq : numF (c :: ((byt s).drop (at' + 1)).take m) = none) => HR.out.err (by
                  have hx := HFx.out
                  rw [hq] at hx
                  rw [HD.out, lexL_err hx HH.out.1 HH.out.2.1 HH.out.2.2]))
                generalize hTl : ts.length = tl at *
                clear hTl hmm hN hT hkv hl h10 h35 hb e3
                go_upto_region 27 with (go_at_call 24; refine HLt.out.mono ?_; rintro e wr ⟨rfl, rfl⟩)
                go_cut [95] from 17 to 150 (fun s95 wx => s95 = .bool true ∧ wx = wr)
                case first =>
                  as_aux_lemma =>
                    rcases hdm with hd | hd
                    · rw [hd] at HDg
                      clear hd
                      go_wp2_with fail
                      refine HDg.out.mono ?_
                      rintro e wr ⟨rfl, rfl⟩
                      go_wp2_with fail
                      go_meet
                      exact ⟨rfl, rfl⟩
                    · rw [(HA.out.2.2.1 hd).2.1] at HDg
                      have hc45 : (((c.toNat : Nat) : Int) == 45) = true := by rw [hd]; rfl
                      clear hd
                      go_wp2_with fail
                      refine HDg.out.mono ?_
                      rintro e wr ⟨rfl, rfl⟩
                      go_wp2_with fail
                      go_meet
                      exact ⟨rfl, rfl⟩
                case rest =>
                  obtain ⟨rfl, rfl⟩ := hcut
                  rename World => wr
                  clear hdm HDg HLt
                  go_upto_if 95 with fail
                  go_cut [12, 13, 14, 15, 16] from 17 to 150 (fun s12 s13 s14 _ _ wx => s12 = .int .i64 (N : Nat) ∧ s13 = .int .i64 kv ∧ s14 = .int .i64 zv ∧ wx = wr)
                  case first =>
                    as_aux_lemma =>
                      go_wp2_with fail
                      go_loop [12] (fun nv => ∃ k : Nat, at' + 1 ≤ k ∧ k ≤ n ∧ nv = .int .i64 k ∧ tkw isD ((byt s).drop (at' + 1)) = (k - (at' + 1)) + tkw isD ((byt s).drop k)) (fun nv => n - (intOf nv).toNat)
                      case atStart => exact ⟨at' + 1, Nat.le_refl _, hlt, by go_num, by omega⟩
                      case round =>
                        obtain ⟨k, hk1, hk2, rfl, hK⟩ := hrel
                        have HK := hide hK
                        clear hK hix
                        by_cases hkn : k < n
                        · obtain ⟨e, he⟩ : ∃ e, (byt s)[k]? = some e := ⟨_, List.getElem?_eq_getElem (by rw [HB.out]; exact hkn)⟩
                          have hix := idx_at he
                          unfold u8V at hix
                          have HST := hide (tkw_step (p := isD) he)
                          clear he
                          have HDe := hide (rdigit_at e wr)
                          unfold u8V at HDe
                          cases hed : isD e with
                          | true =>
                            rw [hed] at HDe
                            have HK2 := hide (show tkw isD ((byt s).drop (at' + 1)) = (k + 1 - (at' + 1)) + tkw isD ((byt s).drop (k + 1)) from by
                              have h1 := HK.out
                              rw [HST.out, if_pos hed] at h1
                              omega)
                            clear hed HST
                            go_wp2_with fail
                            refine HDe.out.mono ?_
                            rintro e wr ⟨rfl, rfl⟩
                            go_wp2_with fail
                            go_round
                            case rel => exact ⟨k + 1, by omega, by omega, by go_num, HK2.out⟩
                            case measure => simp [intOf]; omega
                          | false =>
                            rw [hed] at HDe
                            have hkN : k = N := by
                              have h1 := HK.out
                              rw [HST.out, if_neg (by simp [hed])] at h1
                              have h2 := HNe.out; have h3 := HM.out; omega
                            subst hkN
                            clear hed HST
                            go_wp2_with fail
                            refine HDe.out.mono ?_
                            rintro e wr ⟨rfl, rfl⟩
                            go_wp2_with fail
                            refine HNm.out.mono ?_
                            rintro e wr ⟨x, b, rfl, hq, rfl⟩
                            cases b with
                            | true =>
                              rcases HKV.out with ⟨q1, q2, q3⟩ | ⟨z, q1, q2, q3⟩
                              · rw [q1] at hq; cases hq
                              · rw [q1] at hq
                                obtain rfl := Option.some.inj hq
                                clear hq
                                go_wp2_with fail
                                go_meet
                                exact ⟨rfl, by rw [q2], by rw [q3], rfl⟩
                            | false =>
                              rcases HKV.out with ⟨q1, q2, q3⟩ | ⟨z, q1, q2, q3⟩
                              · clear hq
                                go_wp2_with fail
                                go_meet
                                exact ⟨rfl, by rw [q2], by rw [q3], rfl⟩
                              · rw [q1] at hq; cases hq
                        · have hkN : k = N := by
                            have h1 := HK.out
                            rw [show (byt s).drop k = [] from List.drop_of_length_le (by rw [HB.out]; omega), tkw_nil] at h1
                            have h2 := HNe.out; have h3 := HM.out; omega
                          subst hkN
                          go_wp2_with fail
                          refine HNm.out.mono ?_
                          rintro e wr ⟨x, b, rfl, hq, rfl⟩
                          cases b with
                          | true =>
                            rcases HKV.out with ⟨q1, q2, q3⟩ | ⟨z, q1, q2, q3⟩
                            · rw [q1] at hq; cases hq
                            · rw [q1] at hq
                              obtain rfl := Option.some.inj hq
                              clear hq
                              go_wp2_with fail
                              go_meet
                              exact ⟨rfl, by rw [q2], by rw [q3], rfl⟩
                          | false =>
                            rcases HKV.out with ⟨q1, q2, q3⟩ | ⟨z, q1, q2, q3⟩
                            · clear hq
                              go_wp2_with fail
                              go_meet
                              exact ⟨rfl, by rw [q2], by rw [q3], rfl⟩
                            · rw [q1] at hq; cases hq
                  case rest =>
                    obtain ⟨rfl, rfl, rfl, rfl⟩ := hcut
                    rename World => wr
                    rcases HKV.out with ⟨q1, rfl, rfl⟩ | ⟨z, q1, rfl, rfl⟩
                    · have HO := hide (HEr.out q1)
                      clear q1
                      go_wp2_with fail
                      refine HMk.out.mono ?_
                      rintro e wr ⟨rfl, rfl⟩
                      go_wp2_with fail
                      refine bodyPost_ret (v := .tuple #[.slice none 0 0, .int .i64 (ln : Nat), .int .i64 (cl : Nat), .int .i64 140]) (by simp [results, Tryd.results19, go_sem]) rfl ?_
                      exact ⟨.slice none 0 0, by rw [HO.out]; rfl, by rw [HO.out]; exact World.ownsRow_nil _ _ _ _, HR.out.bel⟩
                    · have HAp := hide (show ∀ (o : Obj) (w4 : World) (v4 : Value), (wr.alloc o).grownBy w4 (Value.slice oA tl oc).ownBlock → w4.ownsRow w.heap.size 24 5 v4 (tl + 1) (flatT ts ++ [.int .i64 2, .string T, .int .i64 zv, .int .i64 (ln : Nat), .int .i64 (cl : Nat)]) →
                          Rt w s N ln (cl + (N - at')) true (ts ++ [⟨2, c :: ((byt s).drop (at' + 1)).take m, zv, ln, cl⟩]) v4 w4 from fun o w4 v4 hg h4 => HAl.out o w4 v4 zv q1 hg (by rw [HTs.out] at h4; exact h4))
                      clear q1 HAl HEr HKV
                      go_wp2_with fail
                      refine HMk.out.mono ?_
                      rintro e wr ⟨rfl, rfl⟩
                      go_wp2_with (at_builtin; go_loud (refine wpList_one _ rfl _ _ 22 rfl 24 (.agg #[.int .i64 0, .string ⟨#[]⟩, .int .i64 0, .int .i64 0, .int .i64 0]) 5 48 under_toks info_toks rfl (by decide) (by decide) w.heap.size (.slice oA tl oc) tl (flatT ts) rfl (own_below HOw.out (bal wr _) (Nat.le_refl _)) wr.heap.size 1 [.int .i64 2, .string T, .int .i64 zv, .int .i64 (ln : Nat), .int .i64 (cl : Nat)] rfl (heap_alloc_new wr _) rfl (by simp [Value.oneCell']) HLn.out (by have := HWs.out; simp; omega) ?_; intro v' w4 hown4 hgr4 hwh; obtain ⟨A4, c4, rfl⟩ := own_slice hown4; have HP3 := hide (HAp.out _ _ _ hgr4 hown4); clear hown4 hgr4 hwh))
                      all_goals exact ⟨⟨N, ln, cl + (N - at'), true, _, hNn, by omega, by omega, by omega, rfl, congrArg (Value.int .i64) (by omega), rfl, rfl, HP3.out⟩, by simp [intOf]; omega⟩
              · have hd : isD c = false := by
                  cases h : isD c with
                  | true => exact absurd (.inl h) hdm
                  | false => rfl
                have hm : c ≠ 45 := fun h => hdm (.inr h)
                have hc45 : (((c.toNat : Nat) : Int) == 45) = false := byte_ne hm
                rw [hd] at HDg
                clear hdm
                cases hk : isM c with
                | true =>
                    rw [hk] at HMk
                    obtain ⟨m, hm0⟩ : ∃ m : Nat, m = 0 := ⟨_, rfl⟩
                    have hx : fstF (c :: (byt s).drop (at' + 1)) = some (3, m, 0) := by rw [fstF_cons, if_neg (by simp [hl]), if_neg (by rintro (h | h); simp [hd] at h; exact hm h), if_pos hk, hm0]
                    have hm : m ≤ n - (at' + 1) := by rw [← HRl.out]; exact fst_le hx
                    obtain ⟨N, hN⟩ : ∃ N, N = at' + 1 + m := ⟨_, rfl⟩
                    have HNe := hide hN
                    obtain ⟨T, hT⟩ : ∃ T, T = s.extract at' N := ⟨_, rfl⟩
                    have HT := hide (show byt T = c :: ((byt s).drop (at' + 1)).take m from by
                      rw [hT, byt_sub, List.drop_take, HD.out, show N - at' = m + 1 by omega, List.take_succ_cons])
                    have HTs := hide (show T = str (c :: ((byt s).drop (at' + 1)).take m) from by rw [← HT.out]; exact (str_byt T).symm)
                    have hNn : N ≤ n := by omega
                    have haN : at' < N := by omega
                    have hsl : ∀ W, (Instr.slice 9 (.string s) (some (.int .i64 (at' : Nat))) (some (.int .i64 (N : Nat))) none).run Tryd.prog W = .ok (.string T) W := fun W => by
                      rw [run_slice_string W 9 s .i64 .i64 (at' : Nat) (N : Nat) Tryd.underlying9 (by omega) (by omega) (by rw [hsz]; omega), hT]; rfl
                    have HLx := hide (show lexL ((byt s).drop at') ln cl bh = (⟨3, c :: ((byt s).drop (at' + 1)).take m, 0, ln, cl⟩ :: (lexL ((byt s).drop N) ln (cl + (N - at')) (3 == 2)).1, (lexL ((byt s).drop N) ln (cl + (N - at')) (3 == 2)).2) from by
                      rw [HD.out, lexL_tok hx (by simp), List.drop_drop, hN, show cl + 1 + m = cl + (at' + 1 + m - at') by omega])
                    have HAp := hide (fun (o : Obj) (w4 : World) (v4 : Value) hg h4 => rt_app (v4 := v4) (w4 := w4) (o := o) HR.out HLx.out hg (by rw [show tkC _ = [_, _, _, _, _] from rfl, ← HTs.out]; exact h4))
                    have HWs := hide (show w.heap.size ≤ wr.heap.size + 1 from by have := HR.out.bel.size; omega)
                    have HLn := hide (show ts.length ≤ 100000 from by have h1 := HL.out; rw [← HR.out.P, List.length_append] at h1; omega)
                    have HOw := hide (show wr.ownsRow w.heap.size 24 5 (.slice oA ts.length oc) ts.length (flatT ts) from HR.out.own)
                    generalize hTl : ts.length = tl at *
                    have hNi : ((N : Nat) : Int) = (at' : Int) + 1 := by omega
                    rw [hNi] at hsl
                    clear hT hN hx hTl HNe hm0 hl hd hm hk hb h10 h35
                    go_wp2_with fail
                    refine HLt.out.mono ?_
                    rintro e wr ⟨rfl, rfl⟩
                    go_wp2_with fail
                    refine HDg.out.mono ?_
                    rintro e wr ⟨rfl, rfl⟩
                    go_wp2_with fail
                    refine HMk.out.mono ?_
                    rintro e wr ⟨rfl, rfl⟩
                    go_wp2_with (at_builtin; go_loud (refine wpList_one _ rfl _ _ 22 rfl 24 (.agg #[.int .i64 0, .string ⟨#[]⟩, .int .i64 0, .int .i64 0, .int .i64 0]) 5 48 under_toks info_toks rfl (by decide) (by decide) w.heap.size (.slice oA tl oc) tl (flatT ts) rfl (own_below HOw.out (bal wr _) (Nat.le_refl _)) wr.heap.size 1 [.int .i64 3, .string T, .int .i64 0, .int .i64 (ln : Nat), .int .i64 (cl : Nat)] rfl (heap_alloc_new wr _) rfl (by simp [Value.oneCell']) HLn.out (by have := HWs.out; simp; omega) ?_; intro v' w4 hown4 hgr4 hwh; obtain ⟨A4, c4, rfl⟩ := own_slice hown4; have HP3 := hide (HAp.out _ _ _ hgr4 hown4); clear hown4 hgr4 hwh))
                    all_goals exact ⟨⟨N, ln, cl + (N - at'), (3 == 2), _, hNn, by omega, by omega, by omega, rfl, congrArg (Value.int .i64) (by omega), congrArg (Value.int .i64) hNi.symm, rfl, HP3.out⟩, by simp [intOf]; omega⟩
                | false =>
                    as_aux_lemma =>
                      rw [hk] at HMk
                      have HO := hide (HR.out.err (by rw [HD.out, lexL_err (by rw [fstF_cons, if_neg (by simp [hl]), if_neg (by rintro (h | h); simp [hd] at h; exact hm h), if_neg (by simp [hk])]) h35 h10 hb]))
                      clear hl hd hm hk hb h10 h35
                      go_wp2_with fail
                      refine HLt.out.mono ?_
                      rintro e wr ⟨rfl, rfl⟩
                      go_wp2_with fail
                      refine HDg.out.mono ?_
                      rintro e wr ⟨rfl, rfl⟩
                      go_wp2_with fail
                      refine HMk.out.mono ?_
                      rintro e wr ⟨rfl, rfl⟩
                      go_wp2_with fail
                      refine bodyPost_ret (v := .tuple #[.slice none 0 0, .int .i64 (ln : Nat), .int .i64 (cl : Nat), .int .i64 140]) (by simp [results, Tryd.results19, go_sem]) rfl ?_
                      exact ⟨.slice none 0 0, by rw [HO.out]; rfl, by rw [HO.out]; exact World.ownsRow_nil _ _ _ _, HR.out.bel⟩
    · as_aux_lemma =>
        obtain rfl : at' = n := by omega
        have HO := hide (HR.out.done (List.drop_of_length_le (by rw [HB.out]; exact Nat.le_refl _)))
        go_wp2_with fail
        refine bodyPost_ret (v := .tuple #[.slice oA ts.length oc, .int .i64 0, .int .i64 0, .int .i64 0]) (by simp [results, Tryd.results19, go_sem]) rfl ?_
        exact ⟨_, by rw [HO.out]; rfl, by rw [HO.out]; exact HR.out.own, HR.out.bel⟩
end Go.Proofs.YtohmenghlboalaaDoor
