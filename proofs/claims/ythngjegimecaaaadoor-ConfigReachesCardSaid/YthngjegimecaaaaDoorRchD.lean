/-
  Who is come to from one, told.
-/
import Derived.Test.YthngjegimecaaaaDoorRchC
namespace Go.Proofs.YthngjegimecaaaaDoor
open Go.RowKit Go.Deep
set_option linter.unusedVariables false
set_option linter.unusedSimpArgs false

def bls (S : List Bool) : Array Value := (S.map Value.bool).toArray
theorem bls_at {W : World} {g : Nat} {S : List Bool} {t : TypeId} {fz : Nat × Nat} (h : W.heap[g]? = some (.cells (bls S) t fz)) {j : Nat} (hj : j < S.length) : W.cell? ⟨g, j, none⟩ = some (.bool (S.getD j false)) := by
  rw [cell_of_row _ _ _ _ _ _ h]
  simp [bls, List.getD_eq_getElem?_getD, List.getElem?_eq_getElem hj]
theorem bls_set (S : List Bool) (j : Nat) (b : Bool) : (bls S).setIfInBounds j (.bool b) = bls (S.set j b) := by
  unfold bls
  simp [List.setIfInBounds_toArray, List.map_set]
/-- how many of a block's cells are false -/
def mS (g : Nat) (W : World) : Nat := match W.heap[g]? with
  | some (.cells cs _ _) => cs.toList.countP fun v => match v with | .bool false => true | _ => false
  | _ => 0
def mO (v : Value) : Nat := match v with
  | .slice _ n _ => n
  | _ => 0
theorem mS_of {W : World} {g : Nat} {S : List Bool} {t : TypeId} {fz : Nat × Nat} (h : W.heap[g]? = some (.cells (bls S) t fz)) : mS g W = S.count false := by
  unfold mS
  rw [h]
  simp only [bls, List.toList_toArray]
  rw [List.countP_map]
  unfold List.count
  apply List.countP_congr
  intro b _
  cases b <;> simp
/-- what stands while it is searched: who was seen, and who is open -/
structure DsS (w W : World) (S : List Bool) (ov : Value) (O : List Nat) : Prop where
  blk : W.heap[w.heap.size]? = some (.cells (bls S) 4 (0, 0))
  opn : NxV W (w.heap.size + 1) ov O
  bel : Below w.heap.size w W
theorem DsS.siz {w W : World} {S : List Bool} {ov : Value} {O : List Nat} (h : DsS w W S ov O) : w.heap.size + 1 ≤ W.heap.size := (Array.getElem?_eq_some_iff.1 h.blk).1
theorem make_bools (n : Nat) (hn : n ≤ 100000) (W : World) : (Instr.makeSlice 34 (.int .i64 (n : Int)) (.int .i64 (n : Int))).run Tryd.prog W = .ok (.slice (some ⟨W.heap.size, 0, none⟩) n n) (W.alloc (.cells (bls (List.replicate n false)) 4)) := by
  have hi3 : (Tryd.prog.info? 4).map (fun i => (i.zero, i.size, i.bytes)) = some (some (.bool false), 1, 1) := by kernel_rfl
  rcases hi : Tryd.prog.info? 4 with _ | i
  · rw [hi] at hi3; cases hi3
  rw [hi] at hi3
  simp only [Option.map_some, Option.some.injEq, Prod.mk.injEq] at hi3
  obtain ⟨hz, hs2, hb⟩ := hi3
  have hm := run_make (P := Tryd.prog) W 34 4 i (.bool false) Tryd.underlying34 hi hz .i64 .i64 (n : Int) (n : Int) (by omega) (by omega) (by rw [hb]; omega) (by omega)
  rw [hm]
  have e : madeCells (Value.bool false).cells n = bls (List.replicate n false) := by
    unfold bls
    apply Array.ext_getElem?
    intro j
    by_cases hj : j < n
    · simp [madeCells, Value.cells, hj, Nat.mod_one]
    · simp [madeCells, hj]
  simp [hs2, e]
/-- a list cut at its end -/
theorem NxV.cut {W : World} {base : Nat} {A : Option Addr} {cp p : Nat} {O : List Nat} (h : NxV W base (.slice A (O.length + 1) cp) (O ++ [p])) : NxV W base (.slice A O.length cp) O ∧ O.length + 1 ≤ cp ∧ cp ≤ maxLen ∧ ∃ g, A = some ⟨g, 0, none⟩ ∧ g < W.heap.size ∧ base ≤ g ∧ W.cell? ⟨g, O.length, none⟩ = some (.int .i64 (p : Int)) := by
  rcases h.2 with ⟨e, h1⟩ | ⟨g, cap, cur, e, h2, h3, h4, h5, h6, h7⟩
  · simp at h1
  · simp only [Value.slice.injEq] at e
    obtain ⟨rfl, _, rfl⟩ := e
    rw [List.length_append, List.length_singleton] at h4
    have hcell : W.cell? ⟨g, O.length, none⟩ = some (.int .i64 (p : Int)) := by
      rw [cell_of_row _ _ _ _ _ _ h3]
      have h8 : (nxC (O ++ [p]))[O.length]? = some (.int .i64 (p : Int)) := by simp [nxC]
      rw [← h7, List.getElem?_take_of_lt (by simp), Array.getElem?_toList] at h8
      exact h8
    refine ⟨⟨by simp [nxC], .inr ⟨g, cp, cur, rfl, h2, h3, by omega, h5, h6, ?_⟩⟩, h4, h5, g, rfl, (Array.getElem?_eq_some_iff.1 h3).1, h2, hcell⟩
    have h9 := congrArg (List.take O.length) h7
    rw [List.take_take, show min O.length ((O ++ [p]).length * 1) = O.length * 1 by simp] at h9
    rw [h9]
    simp [nxC]

set_option maxRecDepth 100000 in
set_option maxHeartbeats 4000000 in
theorem reached_at (w : World) (base nb n src : Nat) (vs : List Value) (R : List (List Nat)) (hN : NxS w base nb vs R) (hl : R.length = n) (hR : ∀ k, ∀ q ∈ R.getD k [], q < n) (hrl : ∀ k, (R.getD k []).length ≤ 1000000) (hs : src < n) (hn : n ≤ 1000) :
    Calls Tryd.prog 12 #[.slice (some ⟨nb, 0, none⟩) n n, .int .i64 (src : Int)] w fun e w' => ∃ S, e = .returned (.slice (some ⟨w.heap.size, 0, none⟩) n n) ∧ w'.heap[w.heap.size]? = some (.cells (bls S) 4 (0, 0)) ∧ S.length = n ∧ (∀ j, S.getD j false = true ↔ Rch R src j) ∧ Below w.heap.size w w' := by
  have HN := hide (fun W (hb : Below w.heap.size w W) => hN.below hb)
  have HR := hide hR; have HRL := hide hrl
  clear hN hR hrl
  have hmk := make_bools n (by omega) w
  have hb1 := bal w (.cells (bls (List.replicate n false)) 4)
  have hn1 := heap_alloc_new w (.cells (bls (List.replicate n false)) 4)
  have hz1 : (w.alloc (.cells (bls (List.replicate n false)) 4)).heap.size = w.heap.size + 1 := by simp
  have hfr : (w.alloc (.cells (bls (List.replicate n false)) 4)).frozen? ⟨w.heap.size, src, none⟩ = false := by unfold World.frozen?; rw [hn1]; rfl
  have hce := bls_at hn1 (j := src) (by simpa using hs)
  have hbs := bls_set (List.replicate n false) src true
  have hd0 : Dfs R n src ((List.replicate n false).set src true) [src] := Dfs.first hs
  have hds : DsS w ((w.alloc (.cells (bls ((List.replicate n false).set src true)) 4)).alloc (.cells #[.int .i64 (src : Int)] 3)) ((List.replicate n false).set src true) (.slice (some ⟨w.heap.size + 1, 0, none⟩) 1 1) [src] := by
    have b1 := bal w (.cells (bls ((List.replicate n false).set src true)) 4)
    have n1 := heap_alloc_new w (.cells (bls ((List.replicate n false).set src true)) 4)
    have z1 : (w.alloc (.cells (bls ((List.replicate n false).set src true)) 4)).heap.size = w.heap.size + 1 := by simp
    generalize w.alloc (.cells (bls ((List.replicate n false).set src true)) 4) = wa at *
    have b2 := bal wa (.cells #[.int .i64 (src : Int)] 3)
    have n2 := heap_alloc_new wa (.cells #[.int .i64 (src : Int)] 3)
    rw [z1] at n2
    exact ⟨(b2.block _ (by omega)).trans n1, ⟨by simp [nxC], .inr ⟨w.heap.size + 1, 1, _, rfl, Nat.le_refl _, n2, by simp, by unfold maxLen; omega, by simp, by simp [nxC]⟩⟩, b1.trans (b2.mono (by omega))⟩
  generalize (List.replicate n false).set src true = S0 at hbs hd0 hds
  go_enter Tryd.func12, Tryd.ntmps12
  go_upto_region 4 with fail
  have HDS := hide hds; have HD0 := hide hd0
  clear hds hd0 hbs hmk hb1 hn1 hz1 hfr hce
  generalize (w.alloc (.cells (bls S0) 4)).alloc (.cells #[.int .i64 (src : Int)] 3) = w1 at HDS ⊢
  go_loopg [6, 7, 9] (dfsM S0 [src]) (fun r s6 s7 s9 W => ∃ S O, dfsM S O = r ∧ DsS w W S s6 O ∧ Dfs R n src S O ∧ dfsM S O ≤ n + 1)
  case atStart =>
    refine ⟨S0, [src], rfl, HDS.out, HD0.out, ?_⟩
    have h1 := HD0.out.len
    have h2 : S0.count false ≤ S0.length := List.count_le_length
    unfold dfsM
    simp
    omega
  case round =>
    obtain ⟨S, O, hr, hd, hf, hle⟩ := hrel
    have HLE := hide hle
    clear hle
    have HDr := hide hd; have HFr := hide hf
    clear hd hf HDS HD0
    obtain ⟨oA, oc, eo, _⟩ := HDr.out.opn.cells
    rcases List.eq_nil_or_concat O with rfl | ⟨O', p, rfl⟩
    · subst eo
      have HA := hide HFr.out.all
      go_wp2
      go_ret
      exact ⟨rfl, S, HDr.out.blk, HFr.out.len, HA.out, HDr.out.bel⟩
    · rw [List.concat_eq_append, List.length_append, List.length_singleton] at eo
      rw [List.concat_eq_append] at hr HDr HFr HLE
      subst eo
      obtain ⟨m, hm⟩ : ∃ m, O'.length = m := ⟨_, rfl⟩
      obtain ⟨hi, hpn⟩ := HFr.out.pop
      obtain ⟨v1, v2, v3, g, rfl, hg1, hg2, hgc⟩ := HDr.out.opn.cut
      have hcut := v1
      rw [hm] at hgc v2
      obtain ⟨nA, nc, en, hnr⟩ := ((HN.out _ HDr.out.bel).own p (by omega)).cells
      have hnx := (HN.out _ HDr.out.bel).cell (show p < R.length by omega)
      rw [en] at hnx
      have hnx1 := hnx.1
      have hM : dfsM S O' + 1 = dfsM S (O' ++ [p]) := by unfold dfsM; simp; omega
      have hrl := HRL.out p
      have HI := hide hi; have HNR := hide hnr; have HM := hide hM; have HCut := hide hcut
      obtain ⟨rl, hrle⟩ : ∃ k, (R.getD p []).length = k := ⟨_, rfl⟩
      rw [hrle] at hrl hnx1
      have HRE := hide hrle
      have HEN := hide en
      clear hnx hnr hi v1 en hM hcut hrle
      rw [hm]
      have hmm : m ≤ 9223372036854775806 := by unfold maxLen at v3; omega
      have hbel := HDr.out.bel
      have HBE := hide hbel
      have HBK := hide HDr.out.blk
      clear hbel HDr HFr
      rw [hm] at HCut
      go_wp2_with fail
      go_loopw [37, 6, 9] (fun i s6 s9 W => ∃ (t : Nat) (S' : List Bool) (O2 : List Nat), t ≤ rl ∧ i = .int .i64 t ∧ dfsM S' O2 = dfsM S O' ∧ DsS w W S' s6 O2 ∧ DfsIn R n src p t S' O2 ∧ Below w.heap.size w W) (fun i _ _ _ => rl - (intOf i).toNat)
      case atStart => exact ⟨0, S, O', by omega, rfl, rfl, ⟨HBK.out, by have := HCut.out; exact this, HBE.out⟩, HI.out, HBE.out⟩
      case round =>
        obtain ⟨t, S', O2, ht, rfl, hmm2, hd, hf, _⟩ := hrel
        have HDi := hide hd; have HFi := hide hf; have HMi := hide hmm2
        clear hd hf hmm2 HI HCut HBK HBE hgc hnx1 hg1
        obtain ⟨oA2, oc2, eo2, _⟩ := HDi.out.opn.cells
        obtain ⟨m2, hm2⟩ : ∃ m, O2.length = m := ⟨_, rfl⟩
        rw [hm2] at eo2
        subst eo2
        by_cases hlt : t < rl
        · have HKL := hide (show t + 1 ≤ rl by omega)
          obtain ⟨nA', nc', en', hnr'⟩ := ((HN.out _ HDi.out.bel).own p (by omega)).cells
          rw [HEN.out] at en'
          simp only [Value.slice.injEq] at en'
          obtain ⟨rfl, _, rfl⟩ := en'
          have hlt2 : t < (R.getD p []).length := by rw [HRE.out]; exact hlt
          rcases hnr' with h0 | ⟨gr, rfl, _, hgr0, hcell⟩
          · rw [h0] at hlt2; cases hlt2
          obtain ⟨q, hq⟩ : ∃ q, (R.getD p [])[t]? = some q := ⟨_, List.getElem?_eq_getElem hlt2⟩
          have r0 := hcell t hlt2
          rw [List.getD_eq_getElem?_getD, hq, Option.getD_some] at r0
          have hqn := HR.out p q (List.mem_of_getElem? hq)
          have hql : q < S'.length := by rw [HFi.out.len]; exact hqn
          have b0 := bls_at HDi.out.blk hql
          have HQ := hide hq
          clear hcell hq hlt2 HNR HEN hgr0
          rcases hsq : S'.getD q false with _ | _
          · rw [hsq] at b0
            have bf : wr.frozen? ⟨w.heap.size, q, none⟩ = false := by unfold World.frozen?; rw [HDi.out.blk]; rfl
            have hFp := HFi.out.push HQ.out hqn hsq
            have hMp := dfs_push hql hsq (O := O2)
            have hrow : (wr.setCell ⟨w.heap.size, q, none⟩ (.bool true)).heap[w.heap.size]? = some (.cells (bls (S'.set q true)) 4 (0, 0)) := by
              show (wr.heap.modify w.heap.size _)[w.heap.size]? = _
              rw [Array.getElem?_modify, if_pos rfl, HDi.out.blk, ← bls_set]
              rfl
            have hown := HDi.out.opn
            have hob := fun g (hg : (Value.slice oA2 m2 oc2).ownBlock = some g) => (NxV.blk hown hg).1
            have hk1 := NxV.kept (W' := wr.setCell ⟨w.heap.size, q, none⟩ (.bool true)) hown fun g hg => setCell_other (by have := hob g hg; omega)
            have hbel1 : Below w.heap.size w (wr.setCell ⟨w.heap.size, q, none⟩ (.bool true)) := HDi.out.bel.setCell (p := ⟨w.heap.size, q, none⟩) (Nat.le_refl _) _
            have hsz1 : w.heap.size < (wr.setCell ⟨w.heap.size, q, none⟩ (.bool true)).heap.size := (Array.getElem?_eq_some_iff.1 hrow).1
            have hb2 := bal (wr.setCell ⟨w.heap.size, q, none⟩ (.bool true)) (.cells #[.int .i64 (q : Int)] 3)
            have hn2 := heap_alloc_new (wr.setCell ⟨w.heap.size, q, none⟩ (.bool true)) (.cells #[.int .i64 (q : Int)] 3)
            have hk2 := NxV.kept hk1 fun g hg => hb2.block g (by obtain ⟨_, cur, e⟩ := NxV.blk hk1 hg; exact (Array.getElem?_eq_some_iff.1 e).1)
            have hrow2 := (hb2.block _ hsz1).trans hrow
            have hbel2 := hbel1.trans (hb2.mono (Nat.le_of_lt hsz1))
            have hbase : w.heap.size + 1 ≤ ((wr.setCell ⟨w.heap.size, q, none⟩ (.bool true)).alloc (.cells #[.int .i64 (q : Int)] 3)).heap.size := by rw [World.size_alloc]; omega
            unfold NxV at hk2
            rw [hm2] at hk2
            have HFP := hide hFp; have HMP := hide hMp; have HOW := hide hk2; have HNW := hide hn2; have HRW := hide hrow2; have HBL := hide hbel2; have HOB := hide hob; have HM2 := hide hm2
            have hm2n : m2 ≤ 100000 := by
              have h1 := HMi.out
              have h2 := HM.out
              have h3 := HLE.out
              have h4 : O2.length ≤ dfsM S' O2 := by unfold dfsM; omega
              omega
            clear hFp hMp hown hob hk1 hbel1 hb2 hn2 hk2 hrow2 hbel2 hrow hsz1 HFi
            generalize hWs : wr.setCell ⟨w.heap.size, q, none⟩ (.bool true) = Ws at *
            go_upto_region 12 with fail
            go_wp2_with (refine wpList_one _ rfl (.tmp 49) (.tmp 51) 22 rfl 3 (.int .i64 0) 1 8 Tryd.underlying22 info_nnum rfl (by omega) (by omega) (w.heap.size + 1) _ _ _ rfl HOW.out Ws.heap.size 1 [.int .i64 (q : Int)] rfl HNW.out rfl (by simp [Value.oneCell']) (by omega) hbase ?_; intro v' W' how hgr hor; have HHO := hide how; have HGR := hide hgr; clear how hgr hor)
            go_roundw
            case rel =>
              refine ⟨t + 1, S'.set q true, O2 ++ [q], HKL.out, by go_num, by rw [HMP.out]; exact HMi.out, ⟨(HGR.out.block _ (Array.getElem?_eq_some_iff.1 HRW.out).1 fun e => by have := HOB.out _ e.symm; omega).trans HRW.out, ?_, HBL.out.grown HGR.out (by omega) fun k hk => by have := HOB.out k hk; omega⟩, HFP.out, HBL.out.grown HGR.out (by omega) fun k hk => by have := HOB.out k hk; omega⟩
              unfold NxV
              rw [List.length_append, HM2.out, show nxC (O2 ++ [q]) = nxC O2 ++ [.int .i64 (q : Int)] by simp [nxC]]
              exact HHO.out
            case measure => have := HKL.out; simp [intOf]; omega
          · rw [hsq] at b0
            have HFs := hide (HFi.out.seen HQ.out hsq)
            go_wp2_with fail
            go_roundw
            case rel => exact ⟨t + 1, S', O2, HKL.out, by go_num, HMi.out, HDi.out, HFs.out, HDi.out.bel⟩
            case measure => have := HKL.out; simp [intOf]; omega
        · obtain rfl : t = rl := by omega
          have hf := HFi.out
          rw [← HRE.out] at hf
          have HFd := hide hf.done
          clear hf
          go_wp2_with fail
          go_roundg (dfsM S O')
          case measure => have := HM.out; omega
          case rel => exact ⟨S', O2, HMi.out, HDi.out, HFd.out, by rw [HMi.out]; have := HM.out; have := HLE.out; omega⟩
end Go.Proofs.YthngjegimecaaaaDoor
