/-
  The walk of FrameWrites: any frame's bytes, or the error, are the document's, in memory of their own.
-/
import Derived.Test.YtihldmcakcobaaaRefEncOk
import Derived.Test.YtihldmcakcobaaaStr
namespace Go.Proofs.Ytihldmcakcobaaa
open Go.RowKit Go.Shelf
set_option linter.unusedVariables false

/-- one byte more behind a full slice -/
theorem wpList_one {ops : Array Oper} {rest : List Oper} {o : Oper} {a : Act} {Q : Exit → Act → World → Prop} (w : World) (hgd : o.guard = none) (s x : Operand)
    (ho : o.op = .call { callee := .builtin .append, args := #[s, x], argTypes := #[28, 28] })
    (g : Nat) (l : List Nat) (hl : l.length = 75) (hs : a.eval s = .slice (some ⟨g, 0, none⟩) 75 75) (hB : Bytes w (some ⟨g, 0, none⟩) l)
    (g2 c : Nat) (hx : a.eval x = .slice (some ⟨g2, 0, none⟩) 1 c) (hc : w.cell? ⟨g2, 0, none⟩ = some (.int .u8 1))
    (h : ∀ A c' w', 76 ≤ c' → c' ≤ maxLen → Bytes w' A (l ++ [1]) → Below w.heap.size w w' → wpList Try.prog ops Q rest (a.put o.dst (.slice A 76 c')) w') :
    wpList Try.prog ops Q (o :: rest) a w := by
  obtain ⟨i, hi, hz, hs1, hb⟩ := info_parts info_u8
  refine wpList_append_grows w hgd s x _ ho 5 i (.int .u8 0) 1 1 Try.underlying28 hi hz hs1 hb rfl (by omega) (some ⟨g, 0, none⟩) 75 75 (l.map fun u : Nat => Value.int .u8 (u : Int)) hs (fun h => by cases h) (by simp; exact hl) ?_
    ⟨g2, 0, none⟩ 1 c [.int .u8 1] hx rfl ?_ ?_ (by omega) (by simp only [maxLen]; omega) (by omega) ?_
  · intro b hb' j u hu
    injection hb' with hb'
    subst hb'
    rw [List.getElem?_map] at hu
    obtain ⟨e, he, rfl⟩ := Option.map_eq_some_iff.1 hu
    have hj : j < l.length := by
      rcases Nat.lt_or_ge j l.length with h1 | h1
      · exact h1
      · rw [List.getElem?_eq_none h1] at he; cases he
    obtain ⟨b, off, h1, _, hcc⟩ := hB.at hj
    injection h1 with h1
    injection h1 with h1 h1'
    subst h1 h1'
    have h2 := hcc j hj
    rw [List.getD_eq_getElem?_getD, he] at h2
    rw [show (⟨g, 0, none⟩ : Addr).add j = ⟨g, 0 + j, none⟩ by unfold Addr.add; split <;> simp_all]
    exact h2
  · intro j u hu
    rcases j with _ | j
    · injection hu with hu
      subst hu
      exact hc
    · cases hu
  · intro u hu
    rw [List.mem_singleton.1 hu]
    rfl
  · intro v' w' hown' hgrow
    have hbel : Below w.heap.size w w' := (Below.refl _ _).grown hgrow (Nat.le_refl _) (by intro r hr; cases hr)
    rcases hown'.2 with ⟨rfl, h0⟩ | ⟨g', cap, cur, rfl, hgg, hheap, hncap, hcapm, hcs, htake⟩
    · exact absurd h0 (by omega)
    · refine h _ cap w' hncap hcapm ⟨?_, .inr ⟨g', 0, rfl, ?_, ?_⟩⟩ hbel
      · intro c hc'
        rcases List.mem_append.1 hc' with h1 | h1
        · exact hB.1 c h1
        · rw [List.mem_singleton.1 h1]; omega
      · rcases Nat.lt_or_ge g' w'.heap.size with h1 | h1
        · exact h1
        · rw [Array.getElem?_eq_none h1] at hheap; cases hheap
      · intro j hj
        rw [List.length_append, hl] at hj
        rw [Nat.zero_add, hown'.cellAt j (by simp at hj; omega)]
        rw [show (l.map (fun u : Nat => Value.int .u8 (u : Int)) ++ [Value.int .u8 1]) = (l ++ [1]).map (fun u : Nat => Value.int .u8 (u : Int)) by simp]
        rw [List.getElem?_map, List.getD_eq_getElem?_getD, List.getElem?_eq_getElem (by simp; simp at hj; omega)]
        rfl


set_option maxRecDepth 100000 in
set_option maxHeartbeats 2000000 in
theorem writes_ok (o : Nat) (s m : Int) (p : List Nat) (w : World) (hp : p.length = 64) (hpl : ∀ c ∈ p, c < 256) (ho : o < 16) (hs0 : 0 ≤ s) (hs1 : s ≤ 2147483647) (hm : (Lit.int .u16 m).wf = true) :
    Calls Try.prog 3 #[.agg (frv (o : Int) s m p)] w fun e w' => e = .returned (.bool true) ∧ Below w.heap.size w w' := by
  have hr := fun W => renc_ok o s m p W hp hpl ho hs0 hs1 hm
  have he := fun W => enc_ok o s m p W hp hpl ho hs0 hs1 hm
  have hsz : (frv (o : Int) s m p).size = 67 := by rw [frv_size, hp]
  have hEl : (enc (o : Int) s m p).length = 75 := enc_len o s m p hp
  have hElt : ∀ c ∈ enc (o : Int) s m p, c < 256 := enc_lt o s m p ho hm hpl
  obtain ⟨E, hE⟩ : ∃ E, enc (o : Int) s m p = E := ⟨_, rfl⟩
  obtain ⟨F, hF⟩ : ∃ F, frv (o : Int) s m p = F := ⟨_, rfl⟩
  rw [hE] at hEl hElt
  rw [hF] at hsz ⊢
  simp only [hE, hF] at hr he
  have R1 := hide (heap_alloc_new w (.cells F 27))
  have B1 := hide (bal w (.cells F 27))
  obtain ⟨w1, hw1⟩ : ∃ w1, w.alloc (.cells F 27) = w1 := ⟨_, rfl⟩
  rw [hw1] at R1 B1
  have z1 : w1.heap.size = w.heap.size + 1 := by rw [← hw1]; simp
  have Z1 := hide z1; have SF := hide hsz; have HR := hide hr; have HE := hide he; have EL := hide hEl
  clear hr he hsz hE hF z1
  go_enter Try.func3, Try.ntmps3
  go_wp2_with (refine wpList_load_row rfl 27 (.tmp 1) rfl w.heap.size rfl 27 F (0, 0) _ R1.out Try.underlying27 rfl (fr_info SF.out) ?_)
  refine (HR.out w1).mono ?_
  rintro e w2 ⟨gw, cw, rfl, hW, b2⟩
  have hgw := hW.blk
  have hW0 := hW.base
  have R2 := hide ((b2.block w.heap.size (by have := Z1.out; omega)).trans R1.out)
  have B2 := hide (B1.out.trans (b2.mono B1.out.size))
  have HW := hide hW
  clear hW R1
  go_wp2_with (refine wpList_load_row rfl 27 (.tmp 1) rfl w.heap.size rfl 27 F (0, 0) _ R2.out Try.underlying27 rfl (fr_info SF.out) ?_)
  refine (HE.out w2).mono ?_
  rintro e w3 ⟨ga, rfl, hA, hga, b3⟩
  have R3 := hide ((b3.block w.heap.size (by have := Z1.out; have := b2.size; omega)).trans R2.out)
  have B3 := hide (B2.out.trans (b3.mono B2.out.size))
  have HW3 := hide (HW.out.later b3 hgw)
  have HA := hide hA
  have hgal := hA.1
  clear hA R2 HW
  go_wp2_with (refine wpList_load_row rfl 27 (.tmp 1) rfl w.heap.size rfl 27 F (0, 0) _ R3.out Try.underlying27 rfl (fr_info SF.out) ?_)
  refine (HE.out w3).mono ?_
  rintro e w4 ⟨gb, rfl, hBb, hgb, b4⟩
  have B4 := hide (B3.out.trans (b4.mono B3.out.size))
  have hWw := HW3.out.later b4 HW3.out.blk
  have hAa := HA.out.below b4 HA.out.1
  have stw := str_of w4 (some ⟨gw, 0, none⟩) 75 cw E hWw.bytes EL.out
  have sta := str_of w4 (some ⟨ga, 0, none⟩) 75 75 E (Buf.bytes (l := E) hAa (by rw [EL.out]; omega) hElt) EL.out
  have HW4 := hide hWw; have HA4 := hide hAa; have HB4 := hide hBb; have Z4 := hide b4.size; have Z3 := hide b3.size
  clear hWw hAa hBb R3 HW3 HA
  go_wp2_with fail
  clear stw sta
  go_loopw [9, 42] (fun _ i wr => ∃ (k : Nat) (f : Nat → Nat), k ≤ 75 ∧ i = .int .i64 k ∧ Row wr ga 75 f ∧ (∀ t, f t < 256) ∧ Buf wr gb 75 E ∧ Bytes wr (some ⟨gw, 0, none⟩) E ∧ Below w.heap.size w wr ∧ w4.heap.size ≤ wr.heap.size) (fun _ i _ => 75 - (intOf i).toNat)
  case atStart => exact ⟨0, _, by omega, rfl, HA4.out, getD_lt hElt, HB4.out, HW4.out.bytes, B4.out, Nat.le_refl _⟩
  case round =>
    obtain ⟨k, f, hk, rfl, hrow, hfl, hbb, hww, hbe, hzz⟩ := hrel
    have J1 := hide hrow; have J2 := hide hbb; have J3 := hide hww; have J4 := hide hbe; have J5 := hide hzz; have J6 := hide hfl
    clear hrow hbb hww hbe hzz hfl
    by_cases hlt : k < 75
    · obtain ⟨hc, hf⟩ := J1.out.2 k hlt
      have hv : f k < 256 := J6.out k
      obtain ⟨v, hve⟩ : ∃ v, f k = v := ⟨_, rfl⟩
      rw [hve] at hc hv
      obtain ⟨u, hu, hul⟩ : ∃ u : Nat, IntKind.u8.wrap ((v : Int) + 1) = (u : Int) ∧ u < 256 := ⟨(v + 1) % 256, by show ((v : Int) + 1) % 256 = _; omega, by omega⟩
      have hu2 : ((v : Int) + 1) % 256 = (u : Int) := hu
      have hoth : ∀ g, g ≠ ga → (wr.setCell ⟨ga, k, none⟩ (.int .u8 (u : Int))).heap[g]? = wr.heap[g]? := fun g hg => heap_setCell_other _ _ _ _ hg
      have K1 := hide (J1.out.store k u (g := fun t => if t = k then u else f t) (fun t _ => rfl))
      have K2 := hide (J2.out.of_block (hoth gb (by omega)))
      have K3 := hide (show Bytes (wr.setCell ⟨ga, k, none⟩ (.int .u8 (u : Int))) (some ⟨gw, 0, none⟩) E from ⟨J3.out.1, by
        rcases J3.out.2 with h | ⟨b, off, h, hbl, hcc⟩
        · exact .inl h
        · injection h with h
          injection h with h h'
          subst h h'
          exact .inr ⟨gw, 0, rfl, by show _ < (wr.heap.modify _ _).size; rw [Array.size_modify]; exact hbl, fun i hi => (World.cell?_of_block (a := ⟨gw, 0 + i, none⟩) (hoth gw (by omega))).trans (hcc i hi)⟩⟩)
      have K4 := hide (J4.out.setCell (p := ⟨ga, k, none⟩) (by show w.heap.size ≤ ga; have := B2.out.size; omega) (Value.int .u8 (u : Int)))
      clear hve hoth
      go_wp2
      go_roundw
      case rel => exact ⟨k + 1, _, by omega, by go_num, K1.out, fun t => by
        split
        · exact hul
        · exact J6.out t, K2.out, K3.out, K4.out, by show _ ≤ (wr.heap.modify _ _).size; rw [Array.size_modify]; exact J5.out⟩
      case measure => simp [intOf]; omega
    · obtain rfl : k = 75 := by omega
      have hmb := J1.out.bytes (fun t _ => J6.out t)
      go_wp2_with (
        at_builtin
        refine wpList_one _ rfl (.tmp 54) (.tmp 55) rfl ga ((List.range 75).map f) (by simp) rfl (hmb.of_below (bal wr _) (Nat.le_refl _)) wr.heap.size 1 rfl (by rw [cell_of_row _ _ _ _ _ _ (heap_alloc_new wr _)]; rfl) ?_
        intro A5 c5 w5 h75 hcm hB5 b5
        have b45 := (bal wr (.cells #[.int .u8 1] 5)).trans (b5.mono (by simp))
        have stb := str_of w5 (some ⟨gb, 0, none⟩) 75 75 E ((Buf.bytes (l := E) J2.out (by rw [EL.out]; omega) hElt).of_below b45 (Nat.le_refl _)) EL.out
        have stw := str_of w5 (some ⟨gw, 0, none⟩) 75 cw E (J3.out.of_below b45 (Nat.le_refl _)) EL.out
        have H5 := hide (J4.out.trans (b45.mono J4.out.size))
        clear hB5 b5 b45)
      go_ret
      exact ⟨rfl, H5.out⟩

set_option maxRecDepth 100000 in
set_option maxHeartbeats 2000000 in
theorem writes_no (o s m : Int) (p : List Nat) (w : World) (hp : p.length = 64) (ho : (Lit.int .i64 o).wf = true) (hs : (Lit.int .i64 s).wf = true) (hbad : ¬ (0 ≤ o ∧ o < 16 ∧ 0 ≤ s ∧ s ≤ 2147483647)) :
    Calls Try.prog 3 #[.agg (frv o s m p)] w fun e w' => e = .returned (.bool true) ∧ Below w.heap.size w w' := by
  have hr := fun W => renc_no o s m p W hp ho hs hbad
  have he := fun W => enc_no o s m p W hp ho hs hbad
  have hsz : (frv o s m p).size = 67 := by rw [frv_size, hp]
  obtain ⟨F, hF⟩ : ∃ F, frv o s m p = F := ⟨_, rfl⟩
  rw [hF] at hsz ⊢
  simp only [hF] at hr he
  have R1 := hide (heap_alloc_new w (.cells F 27))
  have B1 := hide (bal w (.cells F 27))
  obtain ⟨w1, hw1⟩ : ∃ w1, w.alloc (.cells F 27) = w1 := ⟨_, rfl⟩
  rw [hw1] at R1 B1
  have z1 : w1.heap.size = w.heap.size + 1 := by rw [← hw1]; simp
  have Z1 := hide z1; have SF := hide hsz; have HR := hide hr; have HE := hide he
  have hn0 : Bytes w (none : Option Addr) [] := ⟨by simp, .inl rfl⟩
  have stn := fun W => str_of W none 0 0 [] ⟨by simp, .inl rfl⟩ rfl
  clear hr he hsz hF z1
  go_enter Try.func3, Try.ntmps3
  go_wp2_with (refine wpList_load_row rfl 27 (.tmp 1) rfl w.heap.size rfl 27 F (0, 0) _ R1.out Try.underlying27 rfl (fr_info SF.out) ?_)
  refine (HR.out w1).mono ?_
  rintro e w2 ⟨rfl, b2⟩
  have R2 := hide ((b2.block w.heap.size (by have := Z1.out; omega)).trans R1.out)
  have B2 := hide (B1.out.trans (b2.mono B1.out.size))
  clear R1
  go_wp2_with (refine wpList_load_row rfl 27 (.tmp 1) rfl w.heap.size rfl 27 F (0, 0) _ R2.out Try.underlying27 rfl (fr_info SF.out) ?_)
  refine (HE.out w2).mono ?_
  rintro e w3 ⟨rfl, b3⟩
  have R3 := hide ((b3.block w.heap.size (by have := Z1.out; have := b2.size; omega)).trans R2.out)
  have B3 := hide (B2.out.trans (b3.mono B2.out.size))
  clear R2
  go_wp2_with (refine wpList_load_row rfl 27 (.tmp 1) rfl w.heap.size rfl 27 F (0, 0) _ R3.out Try.underlying27 rfl (fr_info SF.out) ?_)
  refine (HE.out w3).mono ?_
  rintro e w4 ⟨rfl, b4⟩
  have B4 := hide (B3.out.trans (b4.mono B3.out.size))
  clear R3
  go_wp2_with fail
  go_loopw [9, 42] (fun _ i wr => i = .int .i64 0 ∧ wr = w4) (fun _ _ _ => 0)
  case atStart => exact ⟨rfl, rfl⟩
  case round =>
    obtain ⟨rfl, rfl⟩ := hrel
    go_wp2_with (
      at_builtin
      refine wpList_plain rfl fun K hK => wp_onto (.tmp 54) (.tmp 55) rfl w.heap.size (.slice none 0 0) [] rfl ⟨rfl, .inl ⟨rfl, rfl⟩⟩ ⟨wr.heap.size, 0, none⟩ 1 1 [1] rfl rfl (OwnS.made (base := 0) [1] (by simp) (by simp [maxLen]) (Nat.zero_le _)).bytes (by simp) (by have := B4.out.size; simp; omega) fun v' w5 h5 b5 => hK _ _ ?_
      obtain ⟨g5, c5, rfl, hg5, hgl5, hl5, hm5, hB5⟩ := h5.slice (by simp) (by simp)
      have H5 := hide (B4.out.trans (((bal wr (.cells #[.int .u8 1] 5)).mono B4.out.size).trans b5))
      clear h5 b5 hB5)
    go_ret
    exact ⟨rfl, H5.out⟩
theorem writes_any (o s m : Int) (p : List Nat) (w : World) (hp : p.length = 64) (hpl : ∀ c ∈ p, c < 256) (ho : (Lit.int .i64 o).wf = true) (hs : (Lit.int .i64 s).wf = true) (hm : (Lit.int .u16 m).wf = true) :
    Calls Try.prog 3 #[.agg (frv o s m p)] w fun e w' => e = .returned (.bool true) ∧ Below w.heap.size w w' := by
  by_cases h : 0 ≤ o ∧ o < 16 ∧ 0 ≤ s ∧ s ≤ 2147483647
  · obtain ⟨h1, h2, h3, h4⟩ := h
    obtain ⟨n, rfl⟩ : ∃ n : Nat, o = (n : Int) := ⟨o.toNat, by omega⟩
    exact writes_ok n s m p w hp hpl (by omega) h3 h4 hm
  · exact writes_no o s m p w hp ho hs h
end Go.Proofs.Ytihldmcakcobaaa
