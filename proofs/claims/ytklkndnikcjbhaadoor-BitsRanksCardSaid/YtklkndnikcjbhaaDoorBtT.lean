/-
  The document's Members, From, and two lists held against each other.
-/
import Derived.Test.YtklkndnikcjbhaaDoorBtS
import Derived.Test.YtklkndnikcjbhaaDoorBtH
import Derived.Test.YtklkndnikcjbhaaDoorBtE
namespace Go.Proofs.YtklkndnikcjbhaaDoor
open Go.RowKit Go.Shelf
set_option linter.unusedVariables false
set_option linter.unusedSimpArgs false

def memnI (n s : Nat) : List Int := (memn n s).map fun (x : Nat) => (x : Int)
theorem memnI_64 (s : Nat) : memnI 64 s = memI s := rfl
theorem memnI_yes {n s : Nat} (h : s.testBit n = true) : memnI (n + 1) s = memnI n s ++ [(n : Int)] := by unfold memnI; rw [memn_succ, h]; simp
theorem memnI_no {n s : Nat} (h : s.testBit n = false) : memnI (n + 1) s = memnI n s := by unfold memnI; rw [memn_succ, h]; simp
theorem memnI_len (n s : Nat) : (memnI n s).length ≤ n := by unfold memnI; rw [List.length_map]; exact num_le n s

set_option maxRecDepth 100000 in
set_option maxHeartbeats 4000000 in
theorem rmembers_any (s : Nat) (hs : s < 18446744073709551616) (w : World) :
    Calls Tryd.prog 12 #[.int .u64 s] w fun e w' => ∃ h, e = .returned h ∧ OwnL w' w.heap.size h (memI s) ∧ Below w.heap.size w w' := by
  have hz := (zero_of_info info_bc).1
  go_enter Tryd.func12, Tryd.ntmps12
  go_wp2_with fail
  refine (bools_at s hs _).mono ?_
  rintro e w1 ⟨rfl, hb1⟩
  have HB1 := hide hb1
  clear hb1
  go_wp2_with (refine wpList_store_row rfl 60 (.tmp 3) (.tmp 7) rfl w1.heap.size (bc fun i => s.testBit i) rfl rfl 60 _ (heap_alloc_new w1 _) (bc_info _) (by rw [bc_size, bc_size]) (bc_one _) ?_; rw [World.setRow_alloc_new])
  have HR := hide (heap_alloc_new w1 (.cells (bc fun i => s.testBit i) 60))
  have HB2 := hide (HB1.out.trans ((bal w1 (.cells (bc fun i => s.testBit i) 60)).mono HB1.out.size))
  have hz2 : w1.heap.size < (w1.alloc (.cells (bc fun i => s.testBit i) 60)).heap.size := by simp
  have hzw := HB1.out.size
  generalize w1.alloc (.cells (bc fun i => s.testBit i) 60) = w2 at HR HB2 hz2 ⊢
  clear hz
  go_loopw [4, 5] (fun hv i wr => ∃ n : Nat, n ≤ 64 ∧ i = .int .i64 n ∧ OwnL wr w2.heap.size hv (memnI n s) ∧ Below w2.heap.size w2 wr) (fun _ i _ => 64 - (intOf i).toNat)
  case atStart => exact ⟨0, by omega, rfl, World.ownsRow_nil _ _ _ _, Below.refl _ _⟩
  case round =>
    rename Value => hv
    obtain ⟨n, hn, rfl, hO, hbr⟩ := hrel
    obtain ⟨A, c, rfl⟩ := own_slice hO
    have HO := hide hO
    have HBr := hide hbr
    have hzr := hbr.size
    have hrow := (hbr.block _ hz2).trans HR.out
    clear hO hbr
    by_cases hlt : n < 64
    · have hc : wr.cell? ⟨w1.heap.size, n, none⟩ = some (.bool (s.testBit n)) := by rw [cell_of_row _ _ _ _ _ _ hrow, bc_get _ _ hlt]
      have hln := memnI_len n s
      clear hrow
      cases htb : s.testBit n with
      | true =>
        have HM := hide (memnI_yes htb)
        rw [htb] at hc
        clear htb
        generalize hL : memnI n s = L at *
        clear hL
        go_wp2_with (first
          | (at_builtin
             refine wpList_one _ rfl _ _ 25 rfl 3 (.int .i64 0) 1 8 under_ints info_int rfl (by decide) (by decide) w2.heap.size _ _ _ rfl (own_below HO.out (bal wr _) (Nat.le_refl _)) _ _ [.int .i64 (n : Int)] rfl (heap_alloc_new wr _) rfl (by simp [Value.oneCell']) (by omega) (by simp; omega) ?_
             intro v' w4 hown4 hgr4 hwh
             have HO4 := hide hown4
             have HB4 := hide (below_own (HBr.out.alloc hzr _) (own_below HO.out (bal wr (.cells #[.int .i64 (n : Int)] 3)) (Nat.le_refl _)) hgr4 (Nat.le_refl _) (by simp; omega))
             clear hown4 hgr4 hwh))
        go_roundw
        case rel =>
          refine ⟨n + 1, by omega, by go_num, ?_, HB4.out⟩
          rw [HM.out]
          show World.ownsRow _ _ _ _ _ _ _
          rw [List.map_append, List.length_append]
          exact HO4.out
        case measure => simp [intOf]; omega
      | false =>
        have HM := hide (memnI_no htb)
        rw [htb] at hc
        clear htb
        generalize hL : memnI n s = L at *
        clear hL
        go_wp2_with fail
        go_roundw
        case rel => exact ⟨n + 1, by omega, by go_num, by rw [HM.out]; exact HO.out, HBr.out⟩
        case measure => simp [intOf]; omega
    · obtain rfl : n = 64 := by omega
      clear hrow
      go_wp2_with fail
      go_ret
      refine ⟨_, rfl, ?_, HB2.out.trans (HBr.out.mono HB2.out.size)⟩
      have : OwnL wr w2.heap.size (.slice A (memnI 64 s).length c) (memI s) := HO.out
      refine ⟨this.1, ?_⟩
      rcases this.2 with h | ⟨g, cap, cur, a, b, d⟩
      · exact .inl h
      · exact .inr ⟨g, cap, cur, a, by omega, d⟩

set_option maxHeartbeats 2000000 in
theorem rfrom_at (s : Nat) (hs : s < 18446744073709551616) (i : Int) (w : World) :
    Calls Tryd.prog 11 #[.int .u64 s, .int .i64 i] w fun e w' => e = .returned (fromV (fromF s i)) ∧ Below w.heap.size w w' := by
  go_enter Tryd.func11, Tryd.ntmps11
  go_wp2_with fail
  refine (rmembers_any s hs _).mono ?_
  rintro e w1 ⟨h, rfl, hO, hb1⟩
  obtain ⟨A, c, rfl, hI⟩ := own_ints hO fun z hz => by have := memI_ok s z hz; unfold I64; omega
  have HI := hide hI
  have HB := hide hb1
  have hlen : (memI s).length ≤ 64 := by unfold memI; rw [List.length_map]; exact mem_len s
  have HF := hide (show fromF s i = (mem s).find? (fun m : Nat => decide (i ≤ (m : Int))) from rfl)
  have HM := hide (show memI s = (mem s).map fun x : Nat => (x : Int) from rfl)
  have HLn := hide (show (memI s).length = (mem s).length from by unfold memI; rw [List.length_map])
  clear hO hI hb1
  generalize memI s = L at *
  generalize mem s = Ms at *
  generalize hn : L.length = n at *
  have HN := hide hn
  clear hn
  go_wp2_with fail
  go_loop [7] (fun iv => ∃ k : Nat, k ≤ n ∧ iv = .int .i64 k ∧ ∀ j, j < k → L.getD j 0 < i) (fun iv => n - (intOf iv).toNat)
  case atStart => exact ⟨0, by omega, rfl, fun j hj => by omega⟩
  case round =>
    obtain ⟨k, hk, rfl, hall⟩ := hrel
    have HAll := hide hall
    clear hall
    by_cases hlt : k < n
    · obtain ⟨b, off, rfl, hbl, hc⟩ := HI.out.at (by rw [HN.out]; exact hlt)
      have HX := hide (show L.getD k 0 = ((Ms.getD k 0 : Nat) : Int) from by
        rw [HM.out, List.getD_eq_getElem?_getD, List.getElem?_map, List.getD_eq_getElem?_getD, List.getElem?_eq_getElem (by rw [← HLn.out]; exact hlt)]; rfl)
      generalize hz : L.getD k 0 = z at *
      have HZ := hide hz
      clear hz
      by_cases hge : i ≤ z
      · have HR := hide (show fromF s i = some (Ms.getD k 0) from by
          rw [HF.out]
          have hkl : k < Ms.length := by rw [← HLn.out]; exact hlt
          have h2 : i ≤ ((Ms[k] : Nat) : Int) := by
            have := HX.out
            rw [List.getD_eq_getElem?_getD, List.getElem?_eq_getElem hkl] at this
            rw [this] at hge
            exact hge
          have e : Ms.getD k 0 = Ms[k] := by rw [List.getD_eq_getElem?_getD, List.getElem?_eq_getElem hkl]; rfl
          rw [e, List.find?_eq_some_iff_getElem]
          refine ⟨decide_eq_true h2, k, hkl, rfl, fun j hj => ?_⟩
          have := HAll.out j hj
          rw [HM.out, List.getD_eq_getElem?_getD, List.getElem?_map, List.getElem?_eq_getElem (show j < Ms.length by omega)] at this
          simpa using this)
        go_wp2_with fail
        go_ret2
        exact ⟨by rw [HR.out, HX.out]; rfl, HB.out⟩
      · have hlt2 : z < i := by omega
        go_wp2_with fail
        go_round
        case rel =>
          refine ⟨k + 1, by omega, by go_num, fun j hj => ?_⟩
          by_cases e : j = k
          · subst e; rw [HZ.out]; exact hlt2
          · exact HAll.out j (by omega)
        case measure => simp [intOf]; omega
    · have HR := hide (show fromF s i = none from by
        rw [HF.out, List.find?_eq_none]
        intro m hm
        obtain ⟨j, hj, rfl⟩ := List.getElem_of_mem hm
        have hj' : j < n := by rw [HLn.out]; exact hj
        have := HAll.out j (by omega)
        rw [HM.out, List.getD_eq_getElem?_getD, List.getElem?_map, List.getElem?_eq_getElem hj] at this
        simpa using this)
      obtain rfl : k = n := by omega
      go_wp2_with fail
      go_ret2
      exact ⟨by rw [HR.out]; rfl, HB.out⟩
end Go.Proofs.YtklkndnikcjbhaaDoor
