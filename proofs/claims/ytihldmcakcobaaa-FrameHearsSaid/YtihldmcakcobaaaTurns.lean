/-
  The walk of FrameTurns: what Corrupt makes of any bytes is what the document says; they stay, answers are apart.
-/
import Derived.Test.YtihldmcakcobaaaSlice
namespace Go.Proofs.Ytihldmcakcobaaa
open Go.RowKit
set_option linter.unusedVariables false

theorem str_app7 (l : List Nat) : str l ++ ({ data := #[7] } : ByteArray) = str (l ++ [7]) := by
  apply ByteArray.ext
  simp [str, strOfNums]

theorem str_size (l : List Nat) : (str l).size = l.length := by
  simp [str, strOfNums, ByteArray.size]

set_option maxRecDepth 100000 in
set_option maxHeartbeats 2000000 in
theorem turns_any (l : List Nat) (n : Nat) (A : Option Addr) (cap : Nat) (z : Int) (m : Nat) (w : World) (hn : l.length = n) (hcap : n ≤ cap) (hmax : cap ≤ maxLen) (hB : Bytes w A l) (hm : m < 4294967296) (hz : (Lit.int .i64 z).wf = true) :
    Calls Try.prog 5 #[.slice A n cap, .int .i64 z, .int .u32 m] w fun e w' => e = .returned (.bool true) ∧ Below w.heap.size w w' := by
  unfold maxLen at hmax
  by_cases hlen : 1000 < n
  · go_enter Try.func5, Try.ntmps5
    go_wp2
    go_ret
    exact ⟨rfl, Below.refl _ _⟩
  have Hn := hide hn; clear hn
  have HL := hide hB
  have hwf := hB.1
  have hl7 : ∀ x ∈ l ++ [7], x < 256 := fun x hx => by
    rcases List.mem_append.1 hx with h | h
    · exact hwf x h
    · rw [List.mem_singleton.1 h]; omega
  have HL7 := hide hl7
  have hcor := corr_lt l z m hwf
  have HC := hide hcor
  clear hB hcor hl7
  go_enter Try.func5, Try.ntmps5
  have HE := hide (OwnS.made (w := w) (base := w.heap.size) [] (by simp) (by simp) (Nat.le_refl _))
  have HB0 := hide (HL.out.of_below (bal w (.cells #[] 5)) (Nat.le_refl _))
  go_wp2_with (first
    | (at_builtin; refine wpList_ontoS rfl (.tmp 15) (.tmp 16) rfl w.heap.size w.heap.size 0 0 [] rfl HE.out A n cap l rfl Hn.out HB0.out (by omega) (by simp) ?_; intro g1 c1 w1 h1 hb1; rw [Nat.zero_add] at h1 ⊢; rw [List.nil_append] at h1)
    | (at_builtin; refine wpList_ontoS rfl (.tmp 17) (.tmp 18) rfl w.heap.size g1 n c1 l rfl (h1.kept (bal w1 _ |>.block g1 h1.blk)) _ 1 1 [7] rfl rfl (OwnS.made (base := 0) [7] (by simp) (by simp [maxLen]) (Nat.zero_le _)).bytes (by omega) (by have := hb1.size; simp at this ⊢; omega) ?_; intro g2 c2 w2 h2 hb2))
  have b1 : Below w.heap.size w w1 := (bal w _).trans (grown_below hb1 (Nat.le_refl _) (by simp))
  have b2 : Below w.heap.size w w2 := b1.trans (((bal w1 (.cells #[.int .u8 7] 5)).mono b1.size).trans (grown_below hb2 h1.base (by have := b1.size; simp; omega)))
  clear hb1 hb2 h1 b1 HB0 HE
  refine (rcorr_any l n A cap z m w2 Hn.out (HL.out.of_below b2 (Nat.le_refl _)) hm hz (by omega)).mono ?_
  rintro e w3 ⟨gw, cw, rfl, hncw, hcwm, hgw, hRw, b3⟩
  have h2le := h2.le; have h2cap := h2.cap
  unfold maxLen at h2cap hcwm
  have hown3 : Bytes w3 (some ⟨g2, 0, none⟩) (l ++ [7]) := h2.bytes.of_below b3 (Nat.le_refl _)
  have hpre3 : Bytes w3 (some ⟨g2, 0, none⟩) l := by
    have h := hown3.take n
    rwa [← Hn.out, List.take_left] at h
  obtain ⟨C, hC⟩ : ∃ C, corr l z m = C := ⟨_, rfl⟩
  have hCn : C.length = n := by rw [← hC, corr_len]; exact Hn.out
  have hc1 := corr_own l n ⟨g2, 0, none⟩ c2 z m w3 Hn.out (by omega) hpre3 hz hm
  have hc2 := fun W (b : Below w3.heap.size w3 W) => corr_own l n ⟨g2, 0, none⟩ c2 z m W Hn.out (by omega) (hpre3.of_below b (Nat.le_refl _)) hz hm
  rw [hC] at hRw hc1 HC
  simp only [hC] at hc2
  have hw3 : Bytes w3 (some ⟨gw, 0, none⟩) C := ⟨HC.out, .inr ⟨gw, 0, rfl, hRw.1, fun i hi => by rw [Nat.zero_add]; exact (hRw.2 i (by omega)).1⟩⟩
  have HC2 := hide hc2; have HW3 := hide hw3; have HO3 := hide hown3; have HCN := hide hCn; have H2 := hide h2
  have B3 := hide (b2.trans (b3.mono b2.size))
  clear hc2 hw3 hown3 hpre3 hC hCn hRw h2 b2 b3
  go_wp2_with fail
  refine hc1.mono ?_
  rintro e w4 ⟨g3, c3, rfl, h3, b4⟩
  have HC3 := hide (HC2.out w4 b4)
  have H3 := hide h3; have B4 := hide b4
  clear hc1 h3 b4 HC2
  go_wp2_with fail
  refine HC3.out.mono ?_
  rintro e w5 ⟨g4, c4, rfl, h4, b5⟩
  have H3' := hide (H3.out.later b5 H3.out.blk)
  have b35 := B4.out.trans (b5.mono B4.out.size)
  have b15 := B3.out.trans (b35.mono B3.out.size)
  have st3 := str_of w5 (some ⟨g3, 0, none⟩) n c3 C H3'.out.bytes HCN.out
  have st0 := str_of w5 (some ⟨gw, 0, none⟩) n cw C (HW3.out.of_below b35 (Nat.le_refl _)) HCN.out
  have H4 := hide h4; have B5 := hide b5; have B35 := hide b35; have B15 := hide b15
  have hgg : g3 ≠ g4 := by have h := H3.out.blk; have h' := h4.base; omega
  have e1 : w4.heap.size ≤ w5.heap.size := b5.size
  have e2 : w3.heap.size ≤ w4.heap.size := B4.out.size
  clear h4 b5 b35 b15 H3 B4 HC3
  go_wp2_with fail
  go_loopw [11, 45] (fun _ i wr => ∃ (k : Nat) (l' : List Nat), k ≤ n ∧ i = .int .i64 k ∧ OwnS wr w3.heap.size g3 n c3 l' ∧ OwnS wr w4.heap.size g4 n c4 C ∧ Below w3.heap.size w3 wr) (fun _ i _ => n - (intOf i).toNat)
  case atStart => exact ⟨0, C, by omega, rfl, H3'.out, H4.out, B35.out⟩
  case round =>
    obtain ⟨k, l', hk, rfl, hl', hd', hbr⟩ := hrel
    have J1 := hide hl'; have J2 := hide hd'; have J3 := hide hbr
    clear hl' hd' hbr
    by_cases hlt : k < n
    · obtain ⟨hc, hf⟩ := J1.out.cell k hlt
      have hv : l'.getD k 0 < 256 := getD_lt J1.out.lt k
      obtain ⟨v, hve⟩ : ∃ v, l'.getD k 0 = v := ⟨_, rfl⟩
      rw [hve] at hc hv
      obtain ⟨u, hu, hul⟩ : ∃ u : Nat, IntKind.u8.wrap ((v : Int) + 1) = (u : Int) ∧ u < 256 := ⟨(v + 1) % 256, by show ((v : Int) + 1) % 256 = _; omega, by omega⟩
      have hu2 : ((v : Int) + 1) % 256 = (u : Int) := hu
      have K1 := hide (J1.out.store k u hul hlt)
      have K2 := hide (J2.out.kept (w' := wr.setCell ⟨g3, k, none⟩ (.int .u8 (u : Int))) (heap_setCell_other _ _ _ _ (fun e => hgg e.symm)))
      have K3 := hide (J3.out.setCell (p := ⟨g3, k, none⟩) J1.out.base (Value.int .u8 (u : Int)))
      clear hve
      go_wp2
      go_roundw
      case rel => exact ⟨k + 1, _, by omega, by go_num, K1.out, K2.out, K3.out⟩
      case measure => simp [intOf]; omega
    · obtain rfl : k = n := by omega
      have hs7 := str_app7 l
      have hsz := str_size l
      rw [Hn.out] at hsz
      clear st3 st0
      go_wp2_with (
        at_builtin
        refine wpList_ontoS rfl (.tmp 57) (.tmp 58) rfl w3.heap.size g3 k c3 l' rfl (J1.out.kept ((bal wr _).block g3 J1.out.blk)) _ 1 1 [9] rfl rfl (OwnS.made (base := 0) [9] (by simp) (by simp [maxLen]) (Nat.zero_le _)).bytes (by omega) (by have := J3.out.size; simp; omega) ?_
        intro g5 c5 w6 h6 hb6
        have hz : w3.heap.size ≤ wr.heap.size := J3.out.size
        have b6 : Below w3.heap.size w3 w6 := J3.out.trans (((bal wr (.cells #[.int .u8 9] 5)).mono hz).trans (grown_below hb6 J1.out.base (by simp; omega)))
        have b06 := B3.out.trans (b6.mono B3.out.size)
        have hd6 : OwnS w6 w4.heap.size g4 k c4 C := J2.out.kept ((hb6.block g4 (by have := J2.out.blk; simp; omega) (by intro e; injection e with e; exact hgg e.symm)).trans ((bal wr _).block g4 J2.out.blk))
        have st4 := str_of w6 (some ⟨g4, 0, none⟩) k c4 C hd6.bytes HCN.out
        have st0 := str_of w6 (some ⟨gw, 0, none⟩) k cw C (HW3.out.of_below b6 (Nat.le_refl _)) HCN.out
        have st7 := str_of w6 (some ⟨g2, 0, none⟩) (k + 1) c2 (l ++ [7]) (HO3.out.of_below b6 (Nat.le_refl _)) (by simp; exact Hn.out)
        have stb := str_of w6 A k cap l (HL.out.of_below b06 (Nat.le_refl _)) Hn.out
        have H6 := hide b06
        clear h6 hb6 b6 b06 hd6)
      go_ret
      exact ⟨rfl, H6.out⟩
end Go.Proofs.Ytihldmcakcobaaa
