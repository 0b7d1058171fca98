/-
  The iterator over streams, each with a link of its ports' numbers.
-/
import Derived.Test.YtdennekkbdlhdaaDoorPnI
import Derived.WalkMore
namespace Go.Proofs.YtdennekkbdlhdaaDoor
open Go.RowKit Go.Shelf
attribute [local go_sem] Oper.semAt_some
set_option linter.unusedVariables false
set_option linter.unusedSimpArgs false
set_option maxRecDepth 100000

theorem streams_mk (d : Dm) (a : Da) (w : World) :
    Calls Tryd.prog 23 #[d.val a] w fun e w' => e = .returned (.func (.func 36) #[] #[.pointer (some ⟨w.heap.size, 0, none⟩)]) ∧ w' = w.alloc (.cells (d.cells a) 25) := by
  unfold Dm.val Dm.cells
  go_enter Tryd.func23, Tryd.ntmps23
  go_wp2_with fail
  go_ret
  exact ⟨rfl, rfl⟩
/-- the ports' numbers of a link that is being made: so many of them -/
def dsTo (p j : Nat) : List Int := (List.range j).map fun i => ((p + 1 + i : Nat) : Int)
theorem dsTo_next (p j : Nat) : dsTo p (j + 1) = dsTo p j ++ [((p + 1 + j : Nat) : Int)] := by simp [dsTo, List.range_succ]
theorem dsTo_len (p j : Nat) : (dsTo p j).length = j := by simp [dsTo]
theorem dsTo_i64 {p j : Nat} (hp : p ≤ 1000) (hj : j ≤ 1000) : ∀ z ∈ dsTo p j, I64 z := by
  intro z hz
  obtain ⟨i, hi, rfl⟩ := List.mem_map.1 hz
  have := List.mem_range.1 hi
  unfold I64; omega

set_option maxHeartbeats 8000000 in
theorem streams1_in (d : Dm) (a : Da) (l bD : Nat) (w0 W : World) (J : Nat → World → Prop) (Jx : World → Prop) (hlen : d.streams.length ≤ 64) (hpn : portN d.streams ≤ 64)
    (hD : W.cell? ⟨bD, 6, none⟩ = some (.slice a.sA d.streams.length a.sC)) (hDl : bD < W.heap.size)
    (hS0 : Sms w0 a.sA d.streams) (hS : ∀ k W1, J k W1 → Below w0.heap.size w0 W1) (hJ : ∀ k W1 W2, J k W1 → Below W1.heap.size W1 W2 → J k W2)
    (hY : ∀ k W1 As cs A c, k < d.streams.length → J k W1 → Ints w0 As (d.streams.getD k default).dests → (d.streams.getD k default).dests.length ≤ cs → cs ≤ maxLen →
      W1.ownsRow w0.heap.size 3 1 (.slice A (d.streams.getD k default).dests.length c) (d.streams.getD k default).dests.length ((dsTo (portN (d.streams.take k)) (d.streams.getD k default).dests.length).map (Value.int .i64)) →
      YieldAt Fence.wide 0 Tryd.prog l #[(d.streams.getD k default).v As cs, .agg #[.int .i64 (portN (d.streams.take k) : Nat), .slice A (d.streams.getD k default).dests.length c, .int .i64 0]] W1 fun e W' => (e = .returned (.bool true) ∧ J (k + 1) W') ∨ (e = .returned (.bool false) ∧ Jx W'))
    (h0 : J 0 W) :
    CallsIn Fence.wide 1 Tryd.prog 36 #[.func (.yield l) #[] #[], .pointer (some ⟨bD, 0, none⟩)] W fun e W' => (∃ v, e = .returned v) ∧ (J d.streams.length W' ∨ Jx W') := by
  refine callsIn_of_wp Tryd.func36 rfl trivial ?_ rfl
  simp only [Tryd.ntmps36, List.size_toArray, List.length_cons, List.length_nil, Nat.reduceAdd, Nat.reduceSub, Array.replicate_succ, Array.replicate_zero, List.push_toArray, List.append_toArray, List.nil_append, List.cons_append]
  have HS := hide hS
  have HS0 := hide hS0
  have HJ := hide hJ
  have HY := hide hY
  have H0 := hide h0
  have HPt := hide (fun k => portN_take d.streams k)
  have HPx := hide (fun k (hk : k < d.streams.length) => portN_next d.streams k hk)
  obtain ⟨N, hN⟩ : ∃ N, N = d.streams.length := ⟨_, rfl⟩
  have HN := hide hN
  rw [← hN] at hlen hD HPx HY ⊢
  clear hS hS0 hJ hY h0 hN
  gi_wp2
  clear hD hDl
  gi_loopw [3, 10] (fun pv kv wr => ∃ k : Nat, k ≤ N ∧ kv = .int .i64 k ∧ pv = .int .i64 (portN (d.streams.take k) : Nat) ∧ J k wr) (fun _ kv _ => N - (intOf kv).toNat)
  case atStart => exact ⟨0, Nat.zero_le _, rfl, rfl, H0.out⟩
  case round =>
    obtain ⟨k, hk, rfl, rfl, hj⟩ := hrel
    have HJr := hide hj
    by_cases hlt : k < N
    · have hil : k < d.streams.length := by rw [← HN.out]; exact hlt
      obtain ⟨b, off, As, cs, hA, hbl0, c0, c1, c2, c3, c4, c5, hcs, hcm, hI⟩ := HS0.out.at hil
      have hbw := HS.out k wr hj
      have hbl : b < wr.heap.size := Nat.lt_of_lt_of_le hbl0 hbw.size
      replace c0 := (bcl hbw hbl0).trans c0
      replace c1 := (bcl hbw hbl0).trans c1
      replace c2 := (bcl hbw hbl0).trans c2
      replace c3 := (bcl hbw hbl0).trans c3
      replace c4 := (bcl hbw hbl0).trans c4
      replace c5 := (bcl hbw hbl0).trans c5
      rw [hA]
      have HYk := hide (fun W1 => HY.out k W1 As cs)
      have HPn := hide (HPx.out k hlt)
      have hpk := HPt.out (k + 1)
      rw [HPn.out] at hpk
      generalize d.streams.getD k default = s at *
      have HSv := hide (show ∀ B C, s.v B C = .agg #[.int .i64 s.src, .slice B s.dests.length C, .int .i64 s.kind, .int .i64 s.size, .int .i64 s.depth, .int .i64 s.fresh] from fun _ _ => rfl)
      have HI := hide hI
      have HCs := hide hcs
      have HCm := hide hcm
      obtain ⟨p, hp⟩ : ∃ p, p = portN (d.streams.take k) := ⟨_, rfl⟩
      rw [← hp] at HPn hpk HYk ⊢
      obtain ⟨m, hm⟩ : ∃ m, m = s.dests.length := ⟨_, rfl⟩
      have HM := hide hm
      rw [← hm] at c1 hpk HPn HYk HSv
      have hp64 : p + m ≤ 64 := by omega
      have hb7 := bal wr (.cells #[.int .i64 s.src, .slice As m cs, .int .i64 s.kind, .int .i64 s.size, .int .i64 s.depth, .int .i64 s.fresh] 53)
      have HW7 := hide (heap_alloc_new wr (.cells #[.int .i64 s.src, .slice As m cs, .int .i64 s.kind, .int .i64 s.size, .int .i64 s.depth, .int .i64 s.fresh] 53))
      have hb8 := bal (wr.alloc (.cells #[.int .i64 s.src, .slice As m cs, .int .i64 s.kind, .int .i64 s.size, .int .i64 s.depth, .int .i64 s.fresh] 53)) (.cells #[.int .i64 (p : Nat), .slice none 0 0, .int .i64 0] 51)
      have HW8 := hide (heap_alloc2_new wr (.cells #[.int .i64 s.src, .slice As m cs, .int .i64 s.kind, .int .i64 s.size, .int .i64 s.depth, .int .i64 s.fresh] 53) (.cells #[.int .i64 (p : Nat), .slice none 0 0, .int .i64 0] 51))
      have HW7' := hide ((hb8.block _ (by simp)).trans HW7.out)
      have HB8 := hide (show Below wr.heap.size wr ((wr.alloc (.cells #[.int .i64 s.src, .slice As m cs, .int .i64 s.kind, .int .i64 s.size, .int .i64 s.depth, .int .i64 s.fresh] 53)).alloc (.cells #[.int .i64 (p : Nat), .slice none 0 0, .int .i64 0] 51)) from hb7.trans (hb8.mono (by simp)))
      clear hp hm hj hil hI hA hb7 hb8 hcs hcm hbw hbl0
      gi_wp2
      generalize ((wr.alloc (.cells #[.int .i64 s.src, .slice As m cs, .int .i64 s.kind, .int .i64 s.size, .int .i64 s.depth, .int .i64 s.fresh] 53)).alloc (.cells #[.int .i64 (p : Nat), .slice none 0 0, .int .i64 0] 51)) = W8 at *
      clear c0 c1 c2 c3 c4 c5 hbl HW7
      obtain ⟨ws, hws⟩ : ∃ ws, ws = wr.heap.size := ⟨_, rfl⟩
      rw [← hws] at HW7' HW8 ⊢
      have hs8 : ws + 2 ≤ W8.heap.size := (Array.getElem?_eq_some_iff.1 HW8.out).1
      have HWs := hide hws
      clear hws
      generalize hwo : wr = wo at *
      gi_loopw [3, 21] (fun pv jv wr => ∃ (j : Nat) (A : Option Addr) (c : Nat), j ≤ m ∧ jv = .int .i64 j ∧ pv = .int .i64 (p + 1 + j : Nat) ∧ wr.heap[ws]? = some (.cells #[.int .i64 s.src, .slice As m cs, .int .i64 s.kind, .int .i64 s.size, .int .i64 s.depth, .int .i64 s.fresh] 53 (0, 0)) ∧
        wr.heap[ws + 1]? = some (.cells #[.int .i64 (p : Nat), .slice A j c, .int .i64 0] 51 (0, 0)) ∧ wr.ownsRow (ws + 2) 3 1 (.slice A j c) j ((dsTo p j).map (Value.int .i64)) ∧ Below wo.heap.size wo wr ∧ ws + 2 ≤ wr.heap.size) (fun _ jv _ => m - (intOf jv).toNat)
      case atStart => exact ⟨0, none, 0, Nat.zero_le _, rfl, by go_num, HW7'.out, HW8.out, World.ownsRow_nil _ _ _ _, HB8.out, hs8⟩
      case round =>
        clear hwo hs8
        obtain ⟨j, A, c, hj, rfl, rfl, h7, h8, hO, hb, hsz⟩ := hrel
        have H7 := hide h7
        have H8 := hide h8
        have HO := hide hO
        have HB := hide hb
        have hl8 : ws + 1 < wr.heap.size := by omega
        have hl7 : ws < wr.heap.size := by omega
        have d1 : wr.cell? ⟨ws + 1, 1, none⟩ = some (.slice A j c) := by rw [cell_of_row _ _ _ _ _ _ h8]; rfl
        by_cases hjm : j < m
        · have hb9 := bal wr (.cells #[.int .i64 (p + 1 + j : Nat)] 3)
          have E := hide (fun v5 w5 (h5 : w5.ownsRow (ws + 2) 3 1 v5 (j + 1) ((dsTo p j).map (Value.int .i64) ++ [.int .i64 (p + 1 + j : Nat)])) (hg : (wr.alloc (.cells #[.int .i64 (p + 1 + j : Nat)] 3)).grownBy w5 (Value.slice A j c).ownBlock) =>
            show (w5.setCell ⟨ws + 1, 1, none⟩ v5).heap[ws]? = some (.cells #[.int .i64 s.src, .slice As m cs, .int .i64 s.kind, .int .i64 s.size, .int .i64 s.depth, .int .i64 s.fresh] 53 (0, 0)) ∧ (w5.setCell ⟨ws + 1, 1, none⟩ v5).heap[ws + 1]? = some (.cells #[.int .i64 (p : Nat), v5, .int .i64 0] 51 (0, 0)) ∧
              (w5.setCell ⟨ws + 1, 1, none⟩ v5).ownsRow (ws + 2) 3 1 v5 (j + 1) ((dsTo p (j + 1)).map (Value.int .i64)) ∧ Below wo.heap.size wo (w5.setCell ⟨ws + 1, 1, none⟩ v5) ∧ ws + 2 ≤ (w5.setCell ⟨ws + 1, 1, none⟩ v5).heap.size ∧ w5.cell? ⟨ws + 1, 1, none⟩ = some (.slice A j c) ∧ w5.frozen? ⟨ws + 1, 1, none⟩ = false from by
            have hsz5 := hg.size
            simp only [World.size_alloc] at hsz5
            have k7 := (app_keep HO.out hb9 hg (k := ws) (by simp; omega) (.inl (by omega))).trans (hb9.block _ (by omega))
            have k8 := ((app_keep HO.out hb9 hg (k := ws + 1) (by simp; omega) (.inl (by omega))).trans (hb9.block _ (by omega))).trans H8.out
            have hwo := HWs.out
            refine ⟨(setCell_other (by omega)).trans (k7.trans H7.out), by rw [set_cells k8]; rfl, ?_, (below_own (HB.out.trans (hb9.mono HB.out.size)) (own_below HO.out hb9 (Nat.le_refl _)) hg (by omega) (by simp; omega)).setCell (p := ⟨ws + 1, 1, none⟩) (by show wo.heap.size ≤ ws + 1; omega) _, by simp; omega, by rw [cell_of_row _ _ _ _ _ _ k8]; rfl, by simp [World.frozen?, k8]⟩
            rw [dsTo_next, List.map_append]
            exact own_stands h5 fun q hq => setCell_other (by have := (own_block h5 hq).2.1; omega))
          clear hb9 h7 h8 hO hb
          gi_wp2_with (gi_at_builtin; refine wpListIn_one _ rfl _ _ 28 rfl 3 (.int .i64 0) 1 8 Tryd.underlying28 info_num rfl (by decide) (by decide) (ws + 2) _ _ _ rfl (own_below HO.out (bal wr _) (Nat.le_refl _)) _ _ [.int .i64 (p + 1 + j : Nat)] rfl (heap_alloc_new wr _) rfl (by simp [Value.oneCell']) (by omega) (by simp; omega) ?_; intro v5 w5 hown5 hgr5 hwh; obtain ⟨x1, x2, x3, x4, x5, x6, x7⟩ := E.out v5 w5 hown5 hgr5; obtain ⟨A5, c5, rfl⟩ := own_slice hown5; have HX1 := hide x1; have HX2 := hide x2; have HX3 := hide x3; have HX4 := hide x4; have HX5 := hide x5; clear hown5 hgr5 hwh x1 x2 x3 x4 x5)
          exact ⟨⟨j + 1, A5, c5, hjm, by go_num, by go_num, HX1.out, HX2.out, HX3.out, HX4.out, HX5.out⟩, by simp [intOf]; omega⟩
        · obtain rfl : j = m := by omega
          have hJk := HJ.out k wo wr HJr.out hb
          obtain ⟨fnc, tmps, assign, body, hy, hRy⟩ := HYk.out wr A c hlt hJk HI.out (by rw [HM.out]; exact HCs.out) HCm.out (own_base hO (by have := (HS.out k wo HJr.out).size; have := HWs.out; omega))
          rw [HSv.out] at hy
          have HRy := hide hRy
          obtain ⟨_, s0, s1, s2, s3, s4, s5⟩ := SmB.of (s := s) (A := As) (c := cs) (by rw [← HM.out]; exact h7)
          rw [← HM.out] at s1
          have d0 : wr.cell? ⟨ws + 1, 0, none⟩ = some (.int .i64 (p : Nat)) := by rw [cell_of_row _ _ _ _ _ _ h8]; rfl
          have d2 : wr.cell? ⟨ws + 1, 2, none⟩ = some (.int .i64 0) := by rw [cell_of_row _ _ _ _ _ _ h8]; rfl
          clear hJk h7 h8 hO hb hRy
          gi_wp2
          refine HRy.out.mono ?_
          rintro e W3 (⟨rfl, hJ3⟩ | ⟨rfl, hJ3⟩)
          · have HJ3 := hide hJ3
            clear hJ3 hy d0 d1 d2 s0 s1 s2 s3 s4 s5
            gi_wp2
            exact ⟨⟨k + 1, hlt, by go_num, by rw [HPn.out]; congr 1; omega, HJ3.out⟩, by simp [intOf]; omega⟩
          · have HJ3 := hide hJ3
            clear hJ3 hy d0 d1 d2 s0 s1 s2 s3 s4 s5
            gi_wp2
            refine bodyPost_ret (results_none rfl _ _ _) rfl ?_
            exact ⟨⟨_, rfl⟩, .inr HJ3.out⟩
    · obtain rfl : k = N := by omega
      clear hj
      gi_wp2
      go_end0
      exact ⟨⟨_, rfl⟩, .inl HJr.out⟩
end Go.Proofs.YtdennekkbdlhdaaDoor
