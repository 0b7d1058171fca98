/-
  The average of a list of one's own: sorted, without the extremes, halved.
  A clock's readings, told one by one.
  A clock's average.
  A clock's round ends.
  A new clock.
  The document's own clock: its small functions.
  The document's own clock: its state, and what its calls make of it.
  The document's own clock: what it reads, and hears.
  Lists of numbers of a function's own: parts of them, and what is laid behind.
-/
import Derived.Test.YtbeggdahbhfhpaaDoorKA
import Derived.Test.YtbeggdahbhfhpaaDoorShelf
import Derived.Test.YtbeggdahbhfhpaaDoorRng
import Derived.Test.YtbeggdahbhfhpaaDoorChkP
import Derived.Test.YtbeggdahbhfhpaaDoorDup
import Derived.Sort.OwnSortedInts
import Derived.Sort.BigQuietIn
import Derived.Laws.BitsAllLaws
import Derived.Deep.RegionHeld
import Derived.ArgAppend
namespace Go.Proofs.YtbeggdahbhfhpaaDoor
open Go.RowKit Go.Deep Go.Sort
set_option linter.unusedVariables false
set_option linter.unusedSimpArgs false

theorem average_none (A : Option Addr) (c : Nat) (w : World) : Calls Tryd.prog 113 #[.slice A 0 c] w fun e w' => e = .returned (.tuple #[.int .i64 0, .bool false]) ∧ w' = w := by
  go_enter Tryd.func113, Tryd.ntmps113
  go_wp2
  go_ret2
  exact ⟨rfl, rfl⟩

theorem sorted_cell {W : World} {g n : Nat} {cur : Array Value} {e : TypeId} {s : List Int} (h : W.heap[g]? = some (.cells (putCells (Value.int .i64) 0 s.toArray cur) e (0, 0))) (hl : s.length ≤ cur.size) {j : Nat} (hj : j < s.length) : W.cell? ⟨g, j, none⟩ = some (.int .i64 (s.getD j 0)) := by
  rw [cell_row h]
  have h1 := take_putCellsI cur s hl
  have h2 : ((putCells (Value.int .i64) 0 s.toArray cur).toList.take s.length)[j]? = (s.map (Value.int .i64))[j]? := by rw [h1]
  rw [List.getElem?_take_of_lt hj, Array.getElem?_toList] at h2
  rw [h2]
  simp [List.getElem?_eq_getElem hj]

set_option maxRecDepth 100000 in
set_option maxHeartbeats 1000000 in
theorem average_some (zs : List Int) (g cap : Nat) (cur : Array Value) (w : World) (hb : w.heap[g]? = some (.cells cur 3 (0, 0))) (ht : cur.toList.take zs.length = zs.map (Value.int .i64)) (h0 : 0 < zs.length) (h1 : zs.length ≤ 1000) (hc : zs.length ≤ cap) (hm : cap ≤ maxLen)
    (hz : ∀ z ∈ zs, -2305843009213693952 ≤ z ∧ z ≤ 2305843009213693952) :
    Calls Tryd.prog 113 #[.slice (some ⟨g, 0, none⟩) zs.length cap] w fun e w' => e = .returned (.tuple #[.int .i64 (avg zs), .bool true]) ∧ Below g w w' := by
  have hg : g < w.heap.size := (Array.getElem?_eq_some_iff.1 hb).1
  have hcur : zs.length ≤ cur.size := by
    have := congrArg List.length ht
    simp only [List.length_take, List.length_map, Array.length_toList] at this
    omega
  have HS := hide ((Tryd.slices_Sort_int g 0 cap zs w (holds_of_blockI hb ht) hg (by omega)).mono (R' := fun e w' => e = .returned (.tuple #[]) ∧ Below g w w' ∧ ∀ j, j < zs.length → w'.cell? ⟨g, j, none⟩ = some (.int .i64 ((isort zs).getD j 0))) (by
    rintro e w' ⟨rfl, n, os, rfl⟩
    refine ⟨rfl, (Below.refl g w).grown (grownBy_sortedI _) (Nat.le_of_lt hg) (fun k hk => by cases hk; exact Nat.le_refl _), fun j hj => ?_⟩
    exact sorted_cell (n := 0) (heap_sortedI _ hb) (s := isort zs) (by rw [isort_len]; exact hcur) (by rw [isort_len]; exact hj)))
  have hr : ∀ j, j < zs.length → -2305843009213693952 ≤ (isort zs).getD j 0 ∧ (isort zs).getD j 0 ≤ 2305843009213693952 := by
    intro j hj
    have hj' : j < (isort zs).length := by rw [isort_len]; exact hj
    rw [List.getD_eq_getElem?_getD, List.getElem?_eq_getElem hj']
    exact hz _ (isort_mem.1 (List.getElem_mem hj'))
  have HA : Hid (avg zs = mid (isort zs)) := by show _ = _; unfold avg; rw [if_neg (by omega)]
  have HL := hide (isort_len zs)
  rw [HA.out]
  generalize isort zs = s at *
  generalize zs.length = n at *
  clear HA hb ht hz hcur
  have HM : maxLen = 9223372036854775807 := rfl
  rw [HM] at hm
  clear HM
  by_cases h3 : 3 ≤ n
  · obtain ⟨m, rfl⟩ : ∃ m, n = m + 3 := ⟨n - 3, by omega⟩
    have HE : Hid (mid s = (s.getD 1 0 + s.getD (m + 1) 0) / 2) := by
      show _ = _
      unfold mid
      rw [HL.out, if_pos (by omega)]
      rfl
    rw [HE.out]
    have r1 := hr 1 (by omega)
    have r2 := hr (m + 1) (by omega)
    have hw : IntKind.i64.wrap (s.getD 1 0 + s.getD (m + 1) 0) = s.getD 1 0 + s.getD (m + 1) 0 := by rw [IntKind.wrap_i64]; omega
    have HS1 : Hid (Calls Tryd.prog 142 #[.slice (some ⟨g, 0, none⟩) (m + 3) cap] w fun e w' => e = .returned (.tuple #[]) ∧ Below g w w' ∧ w'.cell? ⟨g, 1, none⟩ = some (.int .i64 (s.getD 1 0)) ∧ w'.cell? ⟨g, 1 + m, none⟩ = some (.int .i64 (s.getD (m + 1) 0))) :=
      HS.out.mono (by rintro e w' ⟨h1, h2, h3⟩; exact ⟨h1, h2, h3 1 (by omega), by rw [Nat.add_comm 1 m]; exact h3 (m + 1) (by omega)⟩)
    clear HE HL hr HS
    generalize s.getD 1 0 = t1 at *
    generalize s.getD (m + 1) 0 = t2 at *
    go_enter Tryd.func113, Tryd.ntmps113
    go_wp2_with fail
    refine HS1.out.mono ?_
    rintro e w1 ⟨rfl, hb1, c1, c2⟩
    have HB1 := hide hb1
    clear hb1 HS1
    go_wp2_with fail
    rw [show m + 3 - 1 - 1 = m + 1 by omega]
    go_quiet (fail)
    go_wp2
    all_goals go_ret2
    exact ⟨rfl, cdrewN HB1.out _⟩
  · have hr0 := hr 0 h0
    have hr1 := hr (n - 1) (by omega)
    obtain ⟨m, rfl⟩ : ∃ m, n = m + 1 := ⟨n - 1, by omega⟩
    have HE : Hid (mid s = (s.getD 0 0 + s.getD m 0) / 2) := by
      show _ = _
      unfold mid
      rw [HL.out, if_neg (by omega)]
      rfl
    rw [HE.out]
    rw [Nat.add_sub_cancel] at hr1
    have hw : IntKind.i64.wrap (s.getD 0 0 + s.getD m 0) = s.getD 0 0 + s.getD m 0 := by rw [IntKind.wrap_i64]; omega
    have HS1 : Hid (Calls Tryd.prog 142 #[.slice (some ⟨g, 0, none⟩) (m + 1) cap] w fun e w' => e = .returned (.tuple #[]) ∧ Below g w w' ∧ w'.cell? ⟨g, 0, none⟩ = some (.int .i64 (s.getD 0 0)) ∧ w'.cell? ⟨g, m, none⟩ = some (.int .i64 (s.getD m 0))) :=
      HS.out.mono (by rintro e w' ⟨h1, h2, h3⟩; exact ⟨h1, h2, h3 0 (by omega), h3 m (by omega)⟩)
    clear HE HL hr HS
    generalize s.getD 0 0 = t1 at *
    generalize s.getD m 0 = t2 at *
    go_enter Tryd.func113, Tryd.ntmps113
    go_wp2_with fail
    refine HS1.out.mono ?_
    rintro e w1 ⟨rfl, hb1, c1, c2⟩
    have HB1 := hide hb1
    clear hb1 HS1
    go_wp2_with fail
    go_quiet (fail)
    go_wp2
    all_goals go_ret2
    exact ⟨rfl, cdrewN HB1.out _⟩
end Go.Proofs.YtbeggdahbhfhpaaDoor
namespace Go.Proofs.YtbeggdahbhfhpaaDoor
open Go.RowKit Go.Deep Go.Sort
attribute [local go_sem] Oper.semAt_some
set_option linter.unusedVariables false
set_option linter.unusedSimpArgs false

/-- is a node among members? -/
def isM (mb : Int) (n : Nat) : Bool := decide (mb / (2 : Int) ^ n % 2 = 1)
/-- what counts of a node's reading -/
def valF (k : Ck) (mb own : Int) (n : Nat) : Option Int :=
  if isM mb n then (if (n : Int) = own then some 0 else if (k.rd.getD n default).2 then some (k.rd.getD n default).1 else none) else none
theorem and_one_u16 {mb : Int} (h : 0 ≤ mb ∧ mb < 65536) (n : Nat) : bits .and .u16 (mb / (2 : Int) ^ n) 1 = mb / (2 : Int) ^ n % 2 := by
  obtain ⟨m, rfl⟩ := Int.eq_ofNat_of_zero_le h.1
  have e : ((m : Int) / (2 : Int) ^ n) = ((m / 2 ^ n : Nat) : Int) := by rw [Int.natCast_ediv]; congr 1
  rw [e]
  have h1 : m / 2 ^ n < 65536 := Nat.lt_of_le_of_lt (Nat.div_le_self _ _) (by omega)
  rw [show (1 : Int) = ((1 : Nat) : Int) from rfl, u16_and_nat _ _ h1 (by omega), Nat.and_one_is_mod]
  rfl
def readsF (k : Ck) (mb own : Int) : List Int := (List.range k.nodes.toNat).filterMap (valF k mb own)

set_option maxRecDepth 100000 in
set_option maxHeartbeats 1000000 in
theorem reads1_all {g N : Nat} {k : Ck} {mb own : Int} (hN : k.nodes = N) (hN16 : N ≤ 16) (hmb : 0 ≤ mb ∧ mb < 65536) (d l B1 B2 B3 : Nat) (W : World) (R : Ending → World → Prop) (I : Nat → World → Prop) (h0 : ∀ W', Below W.heap.size W W' → I 0 W')
    (hI : ∀ n W', I n W' → CkAt W' g k ∧ W'.cell? ⟨B1, 0, none⟩ = some (.pointer (some ⟨g, 0, none⟩)) ∧ W'.cell? ⟨B2, 0, none⟩ = some (.int .i64 own) ∧ W'.cell? ⟨B3, 0, none⟩ = some (.int .u16 mb))
    (hK : ∀ n W1 W2, n < N → valF k mb own n = none → I n W1 → Below W1.heap.size W1 W2 → I (n + 1) W2)
    (hY : ∀ n v W1 W2, n < N → valF k mb own n = some v → I n W1 → Below W1.heap.size W1 W2 → YieldAt Fence.wide (d - 1) Tryd.prog l #[.int .i64 v] W2 fun e W' => e = .returned (.bool true) ∧ I (n + 1) W')
    (hR : ∀ W' v, I N W' → R (.returned v) W') :
    CallsIn Fence.wide d Tryd.prog 141 (#[.func (.yield l) #[] #[]] ++ #[.pointer (some ⟨B1, 0, none⟩), .pointer (some ⟨B2, 0, none⟩), .pointer (some ⟨B3, 0, none⟩)]) W R := by
  obtain ⟨x0, b1, b2, b3⟩ := hI 0 W (h0 W (Below.refl _ _))
  have c1 : W.cell? ⟨g, 1, none⟩ = some (.int .i64 N) := by rw [← hN]; exact x0.cell 1 _ rfl
  have H0 := hide h0; have HY := hide hY; have HK := hide hK; have HI := hide hI
  have hsl : ∀ W : World, (Instr.sliceAt 162 (.pointer (some ⟨g, 7, none⟩)) none (some (.int .i64 N)) none).run Tryd.prog W = .ok (.slice (some ⟨g, 7, none⟩) N 16) W := by
    intro W
    rw [run_sliceAt_array_h W 162 ⟨g, 7, none⟩ (by kernel_rfl) .i64 N (by omega) (by rw [show Tryd.prog.arrayLen 162 = 16 by kernel_rfl]; omega)]
    simp [slicedAt, show Tryd.prog.arrayLen 162 = 16 by kernel_rfl, show Tryd.prog.elem 162 = 161 by kernel_rfl, Tryd.sizeOf161]
    rfl
  clear x0 h0 hY hK hI
  refine callsIn_of_wp Tryd.func141 rfl trivial ?_ rfl
  simp only [Tryd.ntmps141, List.size_toArray, List.length_cons, List.length_nil, Nat.reduceAdd, Nat.reduceSub, Array.replicate_succ, Array.replicate_zero, List.push_toArray, List.append_toArray, List.nil_append, List.cons_append]
  gi_wp2
  refine wpIn_region_quiet_lit (F := Fence.wide) rfl (by kernel_rfl) (by kernel_rfl) ?_
  repeat (gi_big_quiet_step (fail))
  refine wpQuietIn_nil ?_
  rintro _ ⟨nq, rfl⟩
  gi_wp2
  gi_loopw [17] (fun i wr => ∃ n : Nat, n ≤ N ∧ i = .int .i64 n ∧ I n wr) (fun i _ => N - (intOf i).toNat)
  case atStart => exact ⟨0, by omega, rfl, H0.out _ (cdrewN (Below.refl _ _) _)⟩
  case round =>
    obtain ⟨n, hn, rfl, hi⟩ := hrel
    have HIn := hide hi
    clear hi H0 b1 b2 b3 c1
    by_cases hlt : n < N
    · obtain ⟨x, b1, b2, b3⟩ := HI.out n wr HIn.out
      obtain ⟨v1, v2⟩ := x.rdv (n := n) (by omega)
      clear x
      have hl2 := World.block_lt_of_cell? wr _ b2
      have hl3 := World.block_lt_of_cell? wr _ b3
      have a2 : ∀ o, (wr.alloc o).cell? ⟨B2, 0, none⟩ = some (.int .i64 own) := fun o => by rw [bcl (bal wr o) hl2]; exact b2
      have a3 : ∀ o, (wr.alloc o).cell? ⟨B3, 0, none⟩ = some (.int .u16 mb) := fun o => by rw [bcl (bal wr o) hl3]; exact b3
      have HV : Hid (valF k mb own n = if isM mb n then (if (n : Int) = own then some 0 else if (k.rd.getD n default).2 then some (k.rd.getD n default).1 else none) else none) := rfl
      generalize (k.rd.getD n default).1 = r1 at *
      generalize (k.rd.getD n default).2 = r2 at *
      have hand := and_one_u16 hmb n
      have hW3 : ∀ o, Below wr.heap.size wr (wr.alloc o) := fun o => bal wr o
      have HW3 := hide hW3
      clear hW3
      by_cases hM : mb / (2 : Int) ^ n % 2 = 1
      · have HM : Hid (isM mb n = true) := by show _ = _; unfold isM; rw [decide_eq_true hM]
        rw [hM] at hand
        clear hM
        by_cases ho : (n : Int) = own
        · have HV2 : Hid (valF k mb own n = some 0) := by show _ = _; rw [HV.out, HM.out, if_pos rfl, if_pos ho]
          clear HV HM
          obtain ⟨fn, tmps, assign, body, hy, hRR⟩ := HY.out n 0 wr _ hlt HV2.out HIn.out (HW3.out (.cells #[.int .i64 0, .bool true] 161))
          subst ho
          gi_wp2
          refine ⟨(fun h => by cases h), hRR.mono ?_⟩
          rintro e W3 ⟨rfl, hi'⟩
          have HI' := hide hi'
          clear hi' hy hRR
          gi_wp2
          go_roundw
          case rel => exact ⟨n + 1, by omega, by go_num, HI'.out⟩
          case measure => simp [intOf]; omega
        · cases r2 with
          | true =>
            have HV2 : Hid (valF k mb own n = some r1) := by show _ = _; rw [HV.out, HM.out, if_pos rfl, if_neg ho, if_pos rfl]
            clear HV HM
            obtain ⟨fn, tmps, assign, body, hy, hRR⟩ := HY.out n r1 wr _ hlt HV2.out HIn.out (HW3.out (.cells #[.int .i64 r1, .bool true] 161))
            gi_wp2
            refine ⟨(fun h => by cases h), hRR.mono ?_⟩
            rintro e W3 ⟨rfl, hi'⟩
            have HI' := hide hi'
            clear hi' hy hRR
            gi_wp2
            go_roundw
            case rel => exact ⟨n + 1, by omega, by go_num, HI'.out⟩
            case measure => simp [intOf]; omega
          | false =>
            have HV2 : Hid (valF k mb own n = none) := by show _ = _; rw [HV.out, HM.out, if_pos rfl, if_neg ho, if_neg (by decide)]
            clear HV HM
            gi_wp2
            refine ⟨(fun f h => by cases h), ?_⟩
            gi_wp2
            go_roundw
            case rel => exact ⟨n + 1, by omega, by go_num, HK.out n wr _ hlt HV2.out HIn.out (HW3.out _)⟩
            case measure => simp [intOf]; omega
      · have HM : Hid (isM mb n = false) := by show _ = _; unfold isM; rw [decide_eq_false hM]
        have hM0 : mb / (2 : Int) ^ n % 2 = 0 := by omega
        rw [hM0] at hand
        clear hM hM0
        have HV2 : Hid (valF k mb own n = none) := by show _ = _; rw [HV.out, HM.out, if_neg (by decide)]
        clear HV HM
        by_cases ho : (n : Int) = own
        · subst ho
          gi_wp2
          refine ⟨(fun f h => by cases h), ?_⟩
          gi_wp2
          go_roundw
          case rel => exact ⟨n + 1, by omega, by go_num, HK.out n wr _ hlt HV2.out HIn.out (HW3.out _)⟩
          case measure => simp [intOf]; omega
        · gi_wp2
          refine ⟨(fun f h => by cases h), ?_⟩
          gi_wp2
          go_roundw
          case rel => exact ⟨n + 1, by omega, by go_num, HK.out n wr _ hlt HV2.out HIn.out (HW3.out _)⟩
          case measure => simp [intOf]; omega
    · obtain rfl : n = N := by omega
      gi_wp2
      go_end0
      exact hR _ _ HIn.out
end Go.Proofs.YtbeggdahbhfhpaaDoor
namespace Go.Proofs.YtbeggdahbhfhpaaDoor
open Go.RowKit Go.Deep Go.Sort
attribute [local go_sem] Oper.semAt_some
set_option linter.unusedVariables false
set_option linter.unusedSimpArgs false

theorem calloc_old (W : World) (o : Obj) {j : Nat} (h : j < W.heap.size) : (W.alloc o).heap[j]? = W.heap[j]? := (bal W o).block j h
theorem calloc_new (W : World) (o : Obj) : (W.alloc o).heap[W.heap.size]? = some o := heap_alloc_new W o

theorem readings_at (g : Nat) (mb own : Int) (w : World) :
    Calls Tryd.prog 112 #[.pointer (some ⟨g, 0, none⟩), .int .u16 mb, .int .i64 own] w fun e w' => ∃ B1 B2 B3, e = .returned (.func (.func 141) #[] #[.pointer (some ⟨B1, 0, none⟩), .pointer (some ⟨B2, 0, none⟩), .pointer (some ⟨B3, 0, none⟩)]) ∧
      Below w.heap.size w w' ∧ (w.heap.size ≤ B1 ∧ B1 < w'.heap.size) ∧ (w.heap.size ≤ B2 ∧ B2 < w'.heap.size) ∧ (w.heap.size ≤ B3 ∧ B3 < w'.heap.size) ∧ w'.cell? ⟨B1, 0, none⟩ = some (.pointer (some ⟨g, 0, none⟩)) ∧ w'.cell? ⟨B2, 0, none⟩ = some (.int .i64 own) ∧ w'.cell? ⟨B3, 0, none⟩ = some (.int .u16 mb) := by
  go_enter Tryd.func112, Tryd.ntmps112
  go_wp2
  go_ret
  have h1 := calloc_new w (.cells #[.pointer (some ⟨g, 0, none⟩)] 73)
  have z1 : (w.alloc (.cells #[.pointer (some ⟨g, 0, none⟩)] 73)).heap.size = w.heap.size + 1 := by simp
  have b1 := bal w (.cells #[.pointer (some ⟨g, 0, none⟩)] 73)
  generalize w.alloc (.cells #[.pointer (some ⟨g, 0, none⟩)] 73) = w1 at *
  have h2 := calloc_new w1 (.cells #[.int .u16 mb] 83)
  have z2 : (w1.alloc (.cells #[.int .u16 mb] 83)).heap.size = w1.heap.size + 1 := by simp
  have b2 := bal w1 (.cells #[.int .u16 mb] 83)
  generalize w1.alloc (.cells #[.int .u16 mb] 83) = w2 at *
  have h3 := calloc_new w2 (.cells #[.int .i64 own] 3)
  have z3 : (w2.alloc (.cells #[.int .i64 own] 3)).heap.size = w2.heap.size + 1 := by simp
  have b3 := bal w2 (.cells #[.int .i64 own] 3)
  generalize w2.alloc (.cells #[.int .i64 own] 3) = w3 at *
  refine ⟨w.heap.size, w2.heap.size, w1.heap.size, ?_, b1.trans ((b2.mono (by omega)).trans (b3.mono (by omega))), by omega, by omega, by omega, ?_, ?_, ?_⟩
  · rw [z2, z1]; rfl
  · rw [cell_row ((b3.block _ (by omega)).trans ((b2.block _ (by omega)).trans h1))]; rfl
  · rw [cell_row h3]; rfl
  · rw [cell_row ((b3.block _ (by omega)).trans h2)]; rfl

theorem iown_block {W : World} {B : Nat} {h : Value} {n : Nat} {xs : List Value} (x : W.ownsRow B 3 1 h n xs) {k : Nat} (hk : h.ownBlock = some k) : k < W.heap.size ∧ B ≤ k ∧ ∃ cur, W.heap[k]? = some (.cells cur 3 (0, 0)) := by
  rcases x.2 with ⟨rfl, _⟩ | ⟨g, cap, cur, rfl, hg, hh, _⟩
  · cases hk
  · simp [Value.ownBlock] at hk
    subst hk
    exact ⟨(Array.getElem?_eq_some_iff.1 hh).1, hg, cur, hh⟩
theorem iown_stands {W W' : World} {B : Nat} {h : Value} {n : Nat} {xs : List Value} (x : W.ownsRow B 3 1 h n xs) (hb : ∀ k, h.ownBlock = some k → W'.heap[k]? = W.heap[k]?) : W'.ownsRow B 3 1 h n xs := by
  refine ⟨x.1, ?_⟩
  rcases x.2 with h1 | ⟨g, cap, cur, rfl, h2, h3, h4⟩
  · exact .inl h1
  · exact .inr ⟨g, cap, cur, rfl, h2, (hb g rfl).trans h3, h4⟩
theorem iown_slice {W : World} {B : Nat} {h : Value} {n : Nat} {xs : List Value} (x : W.ownsRow B 3 1 h n xs) : ∃ A k c, h = .slice A k c := by
  rcases x.2 with ⟨rfl, _⟩ | ⟨g, cap, cur, rfl, _⟩
  · exact ⟨_, _, _, rfl⟩
  · exact ⟨_, _, _, rfl⟩
theorem cell_one_new (W : World) (u : Value) (t : TypeId) : ∀ (j : Nat) (y : Value), [u][j]? = some y → (W.alloc (.cells #[u] t)).cell? ((⟨W.heap.size, 0, none⟩ : Addr).add j) = some y := by
  intro j y hy
  have hq := heap_alloc_new W (.cells #[u] t)
  rcases j with _ | j
  · injection hy with hy; subst hy
    rw [show (⟨W.heap.size, 0, none⟩ : Addr).add 0 = ⟨W.heap.size, 0, none⟩ by unfold Addr.add; split <;> simp_all, cell_row hq]; rfl
  · simp at hy

theorem cbelow_put {B D : Nat} {w W : World} (h : Below B w W) (hD : B ≤ D) (hL : D < W.heap.size) (o : Obj) : Below B w (W.putObj D o) :=
  h.trans ((Below.refl B W).grown (grownBy_putObj' W D o) (by omega) (fun k e => by cases e; omega))
/-- what holds while readings are collected -/
structure RdI (w w1 : World) (rec : Loop) (xs : List Int) (W : World) : Prop where
  lp : W.heap[w1.heap.size + 1]? = some (.loop rec)
  df : W.heap[w1.heap.size]? = some (.deferred (some []))
  bel : Below w.heap.size w W
  siz : w1.heap.size + 2 ≤ W.heap.size
  pre : ∀ j, j < w1.heap.size → j ≠ w.heap.size → W.heap[j]? = w1.heap[j]?
  row : ∃ h' : Value, W.heap[w.heap.size]? = some (.cells #[h'] 22 (0, 0)) ∧ W.ownsRow (w1.heap.size + 2) 3 1 h' xs.length (xs.map (.int .i64))
theorem RdI.later {w w1 : World} {rec : Loop} {xs : List Int} {W W' : World} (I : RdI w w1 rec xs W) (hw : w.heap.size < w1.heap.size) (hb : Below W.heap.size W W') : RdI w w1 rec xs W' := by
  have hs := I.siz
  obtain ⟨h', h1, h2⟩ := I.row
  exact ⟨(hb.block _ (by omega)).trans I.lp, (hb.block _ (by omega)).trans I.df, I.bel.trans (hb.mono I.bel.size), Nat.le_trans hs hb.size, fun j hj hn => (hb.block _ (by omega)).trans (I.pre j hj hn), h', (hb.block _ (by omega)).trans h1,
    iown_stands h2 fun k hk => hb.block k (iown_block h2 hk).1⟩
theorem map_snoc (xs : List Int) (v : Int) : xs.map (Value.int .i64) ++ [.int .i64 v] = (xs ++ [v]).map (Value.int .i64) := by simp

theorem info_int3 : (Tryd.prog.info? 3).map (fun i => (i.zero, i.size, i.bytes)) = some (some (.int .i64 0), 1, 8) := by kernel_rfl

theorem fm_range (f : Nat → Option Int) (n : Nat) : (List.range (n + 1)).filterMap f = (List.range n).filterMap f ++ (f n).toList := by
  rw [List.range_succ, List.filterMap_append]
  cases h : f n <;> simp [h]
theorem fm_range_len (f : Nat → Option Int) (n : Nat) : ((List.range n).filterMap f).length ≤ n := by
  have := List.length_filterMap_le f (List.range n)
  simpa using this

set_option maxRecDepth 100000 in
set_option maxHeartbeats 1000000 in
theorem average_at {g N : Nat} {k : Ck} {w : World} (x : CkAt w g k) (mb own : Int) (hN : k.nodes = N) (hN16 : N ≤ 16) (hmb : 0 ≤ mb ∧ mb < 65536) (hr : ∀ z ∈ readsF k mb own, -2305843009213693952 ≤ z ∧ z ≤ 2305843009213693952) :
    Calls Tryd.prog 68 #[.pointer (some ⟨g, 0, none⟩), .int .u16 mb, .int .i64 own] w fun e w' => e = .returned (.tuple #[.int .i64 (avg (readsF k mb own)), .bool (decide (0 < (readsF k mb own).length))]) ∧ Below w.heap.size w w' := by
  have hmade := cmade_at g w (x.cell 0 _ rfl)
  have hi3 := info_int3
  rcases hi : Tryd.prog.info? 3 with _ | i
  · rw [hi] at hi3; cases hi3
  rw [hi] at hi3
  simp only [Option.map_some, Option.some.injEq, Prod.mk.injEq] at hi3
  obtain ⟨hiz, his, hib⟩ := hi3
  have HI := hide hi; have HIZ := hide hiz; have HIS := hide his; have HIB := hide hib
  clear hi hiz his hib
  refine calls_of_wp_marks Tryd.func68 rfl ?_
  simp only [Tryd.ntmps68, List.size_toArray, List.length_cons, List.length_nil, Nat.reduceAdd, Nat.reduceSub, Array.replicate_succ, Array.replicate_zero, List.push_toArray, List.append_toArray, List.nil_append, List.cons_append]
  go_wp2_with fail
  refine hmade.mono ?_
  rintro e w' ⟨rfl, rfl⟩
  clear hmade
  go_wp2_with fail
  have hb1 := bal w (.cells #[.slice none 0 0] 22)
  have hr1 := heap_alloc_new w (.cells #[.slice none 0 0] 22)
  have hz1 : (w.alloc (.cells #[.slice none 0 0] 22)).heap.size = w.heap.size + 1 := by simp
  generalize w.alloc (.cells #[.slice none 0 0] 22) = wA at hb1 hr1 hz1 ⊢
  refine (readings_at g mb own wA).mono ?_
  rintro e w1 ⟨B1, B2, B3, rfl, hb2, l1, l2, l3, c1, c2, c3⟩
  go_wp2_with fail
  have hzA : w.heap.size < w1.heap.size := by have := hb2.size; omega
  have hbw1 : Below w.heap.size w w1 := hb1.trans (hb2.mono (by omega))
  have hv1 : w1.heap[w.heap.size]? = some (.cells #[.slice none 0 0] 22 (0, 0)) := (hb2.block _ (by omega)).trans hr1
  have x1 : CkAt w1 g k := x.below hbw1
  have hg := x.lt
  refine wp_range2 (g := .tmp 16) rfl (enters_of Tryd.func141 (by kernel_rfl) rfl) ?_
  rintro W0 rec hl hD hb0 hz0 hst hpe htm hps has hbo
  have I0 : RdI w w1 rec [] W0 := ⟨hl, hD, hbw1.trans (hb0.mono (by omega)), hz0, fun j hj _ => hb0.block j hj, .slice none 0 0, (hb0.block _ hzA).trans hv1, ⟨rfl, .inl ⟨rfl, rfl⟩⟩⟩
  refine reads1_all (g := g) (own := own) hN hN16 hmb 1 (w1.heap.size + 1) B1 B2 B3 W0 _ (fun n W => RdI w w1 rec ((List.range n).filterMap (valF k mb own)) W) (fun W' hb => I0.later hzA hb) ?hI ?hK ?hY ?hR
  case hI =>
    intro n W' I
    refine ⟨x.below I.bel, ?_, ?_, ?_⟩
    · rw [← c1]; simp only [World.cell?]; rw [I.pre B1 (by omega) (by omega)]
    · rw [← c2]; simp only [World.cell?]; rw [I.pre B2 (by omega) (by omega)]
    · rw [← c3]; simp only [World.cell?]; rw [I.pre B3 (by omega) (by omega)]
  case hK =>
    intro n W1 W2 hn hv I hb
    rw [fm_range, hv]
    simpa using I.later hzA hb
  case hY =>
    intro n v W1 W2 hn hv I hb
    have I2 := I.later hzA hb
    rw [fm_range, hv]
    have hlen : ((List.range n).filterMap (valF k mb own)).length ≤ 1000 := by have := fm_range_len (valF k mb own) n; omega
    show YieldAt _ _ _ _ _ _ fun e W' => e = .returned (.bool true) ∧ RdI w w1 rec ((List.range n).filterMap (valF k mb own) ++ [v]) W'
    generalize (List.range n).filterMap (valF k mb own) = xs at I2 hlen ⊢
    clear I hb c1 c2 c3 l1 l2 l3 x x1 hv1 hbw1 hb0 hb1 hb2 hr1 hz1 I0 hl hD hr hmb hv hn
    obtain ⟨h', hsb, hown⟩ := I2.row
    have hzs := I2.siz
    refine yield_at I2.lp (by rw [hps]; rfl) ?_
    rw [has, hps, htm]
    have HI2 := hide I2; have HOW := hide hown; have HST := hide hst; have HPE := hide hpe; have HBO := hide hbo; have HSB := hide hsb
    clear I2 hst hpe hbo htm hps has hown hsb
    gi_wp2
    refine ⟨rec, HI2.out.lp, HST.out, ?_⟩
    have hput : ∀ j, j ≠ w1.heap.size + 1 → (W2.putObj (w1.heap.size + 1) (.loop { rec with state := .busy })).heap[j]? = W2.heap[j]? := fun j h1 => World.putObj_heap_other h1
    have HL3 := hide (World.putObj_heap_same (w := W2) (r := w1.heap.size + 1) (o := .loop { rec with state := .busy }) (by omega))
    have hne : ∀ j, h'.ownBlock = some j → j ≠ w1.heap.size + 1 := fun j hj => by have := (iown_block HOW.out hj).2.1; omega
    have HOW3 := hide (iown_stands HOW.out (W' := W2.putObj (w1.heap.size + 1) (.loop { rec with state := .busy })) fun j hj => hput j (hne j hj))
    have HSB3 := hide ((hput w.heap.size (by omega)).trans HSB.out)
    have HBW3 := hide (cbelow_put (D := w1.heap.size + 1) HI2.out.bel (by omega) (by omega) (.loop { rec with state := .busy }))
    have HPRE3 := hide (show ∀ j, j < w1.heap.size + 1 → (W2.putObj (w1.heap.size + 1) (.loop { rec with state := .busy })).heap[j]? = W2.heap[j]? from fun j hj => hput j (by omega))
    have hz3 : w1.heap.size + 2 ≤ (W2.putObj (w1.heap.size + 1) (.loop { rec with state := .busy })).heap.size := by simp; omega
    clear hput hne
    generalize W2.putObj (w1.heap.size + 1) (.loop { rec with state := .busy }) = W3 at *
    have cs : W3.cell? ⟨w.heap.size, 0, none⟩ = some h' := by rw [cell_row HSB3.out]; rfl
    rw [HBO.out]
    clear HBO HSB HOW
    gi_wp2_with (first
      | (gi_at_builtin
         refine wpListIn_append_own _ rfl _ _ 22 rfl (w1.heap.size + 2) 3 i (.int .i64 0) 1 8 Tryd.underlying22 HI.out HIZ.out HIS.out HIB.out rfl (by decide) h' xs.length (xs.map (.int .i64)) rfl (HOW3.out.alloc _) ⟨W3.heap.size, 0, none⟩ 1 1 [.int .i64 v] rfl rfl (cell_one_new _ _ _) (by simp [Value.oneCell']) (by simp only [maxLen]; omega) (by omega) (by simp; omega) ?_
         intro v' w4 hown4 hgr4 _
         obtain ⟨A4, k4, c4, rfl⟩ := iown_slice hown4
         have hsb4 := (hgr4.block w.heap.size (by simp; omega) (by
           intro e
           obtain ⟨_, h2, cur, h3⟩ := iown_block HOW3.out e.symm
           omega)).trans ((heap_alloc_old W3 _ (by omega)).trans HSB3.out)
         have cs4 : w4.cell? ⟨w.heap.size, 0, none⟩ = some h' := by rw [cell_row hsb4]; rfl
         have fs4 : w4.frozen? ⟨w.heap.size, 0, none⟩ = false := by unfold World.frozen?; rw [hsb4]; rfl
         have HOWN4 := hide hown4; have HGR4 := hide hgr4; have HSB4 := hide hsb4
         clear hown4 hgr4 hsb4))
    have hrec : ({ { rec with state := .busy } with state := .ready, pending := none } : Loop) = rec := by
      have h1 := HST.out; have h2 := HPE.out
      cases rec
      simp only at h1 h2
      subst h1 h2
      rfl
    have key : ∀ j, j < w1.heap.size + 2 → j ≠ w.heap.size → (w4.setCell ⟨w.heap.size, 0, none⟩ (.slice A4 k4 c4)).heap[j]? = W3.heap[j]? := by
      intro j hj hn
      rw [set_other hn, HGR4.out.block j (by simp; omega) (fun e => by have := (iown_block HOW3.out e.symm).2.1; omega), heap_alloc_old W3 _ (by omega)]
    have hz4 := HGR4.out.size
    simp only [World.size_alloc] at hz4
    have hz5 : w1.heap.size + 2 ≤ (w4.setCell ⟨w.heap.size, 0, none⟩ (.slice A4 k4 c4)).heap.size := by rw [set_size]; omega
    refine ⟨none, { rec with state := .busy }, rfl, (key _ (by omega) (by omega)).trans HL3.out, rfl, ?_⟩
    simp only [Option.isNone_none, if_true]
    rw [hrec]
    refine ⟨World.putObj_heap_same (by omega), (World.putObj_heap_other (by omega)).trans ((key _ (by omega) (by omega)).trans ((HPRE3.out _ (by omega)).trans HI2.out.df)), cbelow_put (((HBW3.out.alloc (by omega) _).trans ((Below.refl _ _).grown HGR4.out (by simp; omega) (fun j hj => by have := (iown_block HOW3.out hj).2.1; omega))).setCell (p := ⟨w.heap.size, 0, none⟩) (Nat.le_refl _) _) (by omega) (by omega) _, by simp; omega, fun j hj hn => ?_, .slice A4 k4 c4, ?_, ?_⟩
    · rw [World.putObj_heap_other (by omega), key j (by omega) hn, HPRE3.out j (by omega)]
      exact HI2.out.pre j hj hn
    · rw [World.putObj_heap_other (by omega), set_row HSB4.out]
      rfl
    · have h9 : w4.ownsRow (w1.heap.size + 2) 3 1 (.slice A4 k4 c4) (xs ++ [v]).length ((xs ++ [v]).map (.int .i64)) := by simpa using HOWN4.out
      refine iown_stands h9 fun j hj => ?_
      have := (iown_block h9 hj).2.1
      rw [World.putObj_heap_other (by omega), set_other (by omega)]
  case hR =>
    intro W' v I
    obtain ⟨h', hsb, hown⟩ := I.row
    refine ⟨⟨v, rfl⟩, rec, I.lp, by rw [hst]; simp, ?_⟩
    rw [hpe]
    simp only []
    have hzw := I.siz
    have HRF : Hid ((List.range N).filterMap (valF k mb own) = readsF k mb own) := by show _ = _; unfold readsF; rw [hN]; rfl
    rw [HRF.out] at hown
    have hln : (readsF k mb own).length ≤ 16 := by rw [← HRF.out]; exact Nat.le_trans (fm_range_len _ _) hN16
    have hother : ∀ j, j ≠ w1.heap.size + 1 → (W'.putObj (w1.heap.size + 1) (.loop { state := .exhausted, pending := none, fn := rec.fn, tmps := rec.tmps, params := rec.params, assign := rec.assign, body := rec.body, defers := rec.defers })).heap[j]? = W'.heap[j]? := fun j hj => World.putObj_heap_other hj
    have HD4 := hide ((hother w1.heap.size (by omega)).trans I.df)
    have hsb4 := (hother w.heap.size (by omega)).trans hsb
    have HB4 := hide (cbelow_put (D := w1.heap.size + 1) I.bel (by omega) (by omega) (.loop { state := .exhausted, pending := none, fn := rec.fn, tmps := rec.tmps, params := rec.params, assign := rec.assign, body := rec.body, defers := rec.defers }))
    have HOW4 := hide (iown_stands hown (W' := W'.putObj (w1.heap.size + 1) (.loop { state := .exhausted, pending := none, fn := rec.fn, tmps := rec.tmps, params := rec.params, assign := rec.assign, body := rec.body, defers := rec.defers })) fun j hj => hother j (by have := (iown_block hown hj).2.1; omega))
    have hz4 : w1.heap.size + 2 ≤ (W'.putObj (w1.heap.size + 1) (.loop { state := .exhausted, pending := none, fn := rec.fn, tmps := rec.tmps, params := rec.params, assign := rec.assign, body := rec.body, defers := rec.defers })).heap.size := by simp; omega
    clear hother hsb hown I
    generalize W'.putObj (w1.heap.size + 1) (.loop { state := .exhausted, pending := none, fn := rec.fn, tmps := rec.tmps, params := rec.params, assign := rec.assign, body := rec.body, defers := rec.defers }) = W4 at *
    have cs : W4.cell? ⟨w.heap.size, 0, none⟩ = some h' := by rw [cell_row hsb4]; rfl
    have HA : Hid (Calls Tryd.prog 113 #[h'] W4 fun e w' => e = .returned (.tuple #[.int .i64 (avg (readsF k mb own)), .bool (decide (0 < (readsF k mb own).length))]) ∧ Below (w1.heap.size + 2) W4 w') := by
      show Calls _ _ _ _ _
      rcases HOW4.out.2 with ⟨rfl, h0⟩ | ⟨gB, cap, cur, rfl, hgB, hh, hnc, hcm, hcs, htk⟩
      · have hnil : readsF k mb own = [] := List.length_eq_zero_iff.1 h0
        rw [hnil]
        refine (average_none _ _ W4).mono ?_
        rintro e w' ⟨rfl, rfl⟩
        exact ⟨rfl, Below.refl _ _⟩
      · by_cases h0 : 0 < (readsF k mb own).length
        · refine (average_some (readsF k mb own) gB cap cur W4 hh (by simpa using htk) h0 (by omega) hnc hcm hr).mono ?_
          rintro e w' ⟨rfl, hb⟩
          exact ⟨by rw [decide_eq_true h0], hb.mono hgB⟩
        · have hnil : readsF k mb own = [] := List.length_eq_zero_iff.1 (by omega)
          rw [hnil]
          refine (average_none _ _ W4).mono ?_
          rintro e w' ⟨rfl, rfl⟩
          exact ⟨rfl, Below.refl _ _⟩
    clear hsb4 HOW4 hr HRF hln x x1 c1 c2 c3 l1 l2 l3 hmb hb1 hb2 hr1 hz1 hv1 hb0 hl hD I0 hst hpe htm hps has hbo
    obtain ⟨va, hva⟩ : ∃ va, avg (readsF k mb own) = va := ⟨_, rfl⟩
    obtain ⟨vb, hvb⟩ : ∃ vb, decide (0 < (readsF k mb own).length) = vb := ⟨_, rfl⟩
    rw [hva, hvb] at HA
    have HVA := hide hva; have HVB := hide hvb
    clear hva hvb
    go_wp2_with (go_at_call 113; refine HA.out.mono ?_; rintro e w5 ⟨rfl, hb5⟩; have HD5 := hide ((hb5.block _ (by omega)).trans HD4.out); have HB5 := hide (HB4.out.trans (hb5.mono (by omega))); clear hb5)
    refine leaves_marked [w1.heap.size] _ (by intro D hD; rw [List.mem_singleton.1 hD]; exact HD5.out) (by simp) ?_
    intro W6 o1 o2 o3 o4 o5
    refine ⟨.tuple #[.int .i64 va, .bool vb], ?_, by rw [HVA.out, HVB.out], ?_⟩
    · simp [results, Tryd.results68, go_sem]
    · refine HB5.out.trans ⟨o1, o2, o3, Nat.le_of_eq o4.symm, fun j hj => o5 j ?_⟩
      simp
      omega
end Go.Proofs.YtbeggdahbhfhpaaDoor
namespace Go.Proofs.YtbeggdahbhfhpaaDoor
open Go.RowKit Go.Deep Go.Sort
set_option linter.unusedVariables false
set_option linter.unusedSimpArgs false

theorem set_cells_row (g : Nat) (t : TypeId) (fr : Nat × Nat) (post : List Value) : ∀ (vs mid pre : List Value) (W : World), W.heap[g]? = some (.cells (pre ++ mid ++ post).toArray t fr) → mid.length = vs.length → (W.setCells g pre.length vs).heap[g]? = some (.cells (pre ++ vs ++ post).toArray t fr)
  | [], mid, pre, W, h, hl => by
    have : mid = [] := List.length_eq_zero_iff.1 (by simpa using hl)
    subst this
    exact h
  | v :: vs, m :: mid, pre, W, h, hl => by
    have h1 := set_row (k := pre.length) (v := v) h
    have e : ((pre ++ (m :: mid) ++ post).toArray.setIfInBounds pre.length v) = (pre ++ [v] ++ mid ++ post).toArray := by
      rw [List.setIfInBounds_toArray]
      congr 1
      rw [List.append_assoc, List.set_append_right _ _ (Nat.le_refl _)]
      simp
    rw [e] at h1
    have h2 := set_cells_row g t fr post vs mid (pre ++ [v]) _ h1 (by simpa using hl)
    simp only [List.length_append, List.length_cons, List.length_nil] at h2
    simp only [World.setCells]
    simpa using h2
theorem set_cells_other (g : Nat) : ∀ (vs : List Value) (o : Nat) (W : World) (j : Nat), j ≠ g → (W.setCells g o vs).heap[j]? = W.heap[j]?
  | [], o, W, j, h => rfl
  | v :: vs, o, W, j, h => by simp only [World.setCells]; rw [set_cells_other g vs _ _ j h, set_other h]
theorem set_cells_size (g : Nat) : ∀ (vs : List Value) (o : Nat) (W : World), (W.setCells g o vs).heap.size = W.heap.size
  | [], o, W => rfl
  | v :: vs, o, W => by simp only [World.setCells]; rw [set_cells_size g vs, set_size]
theorem set_cells_below (g : Nat) : ∀ (vs : List Value) (o : Nat) (W : World), Below g W (W.setCells g o vs)
  | [], o, W => Below.refl _ _
  | v :: vs, o, W => by simp only [World.setCells]; exact ((Below.refl g W).setCell (p := ⟨g, o, none⟩) (Nat.le_refl _) _).trans (set_cells_below g vs _ _)

def zero16 : List (Int × Bool) := List.replicate 16 (0, false)
theorem zero_one : (zero16.flatMap rdC).toArray.all (·.oneCell') = true := by simp [zero16, List.replicate, rdC, Value.oneCell']
theorem CkAt.forget {W : World} {g : Nat} {k : Ck} (x : CkAt W g k) : CkAt (W.setCells g 7 (zero16.flatMap rdC)) g { k with rd := zero16 } := by
  refine ⟨?_, by simp [zero16]⟩
  have h := x.row
  have e : (k.cells g).toArray = (([.pointer (some ⟨g, 0, none⟩), .int .i64 k.nodes, .int .i64 k.drift, .int .i64 k.reading, .int .i64 k.margin, .int .i64 k.bound, .int .i64 k.off] : List Value) ++ k.rd.flatMap rdC ++ []).toArray := by simp [Ck.cells]
  rw [e] at h
  have h2 := set_cells_row g _ _ [] (zero16.flatMap rdC) (k.rd.flatMap rdC) _ W h (by rw [rd_len, rd_len, x.len]; rfl)
  rw [show ([.pointer (some ⟨g, 0, none⟩), .int .i64 k.nodes, .int .i64 k.drift, .int .i64 k.reading, .int .i64 k.margin, .int .i64 k.bound, .int .i64 k.off] : List Value).length = 7 from rfl] at h2
  rw [h2]
  simp [Ck.cells]
theorem CkAt.thereRd {W : World} {g : Nat} {k : Ck} (x : CkAt W g k) : W.there g 7 32 := by
  intro j hj
  have hl : (k.cells g).length = 39 := by
    have := rd_len k.rd
    rw [x.len] at this
    simp only [Ck.cells, List.length_cons, this]
  constructor
  · rw [cell_row x.row, List.getElem?_toArray, List.getElem?_eq_getElem (by omega)]; rfl
  · exact x.free _

set_option maxRecDepth 100000 in
set_option maxHeartbeats 1000000 in
theorem round_at {g N : Nat} {k : Ck} {w : World} (x : CkAt w g k) (mb own : Int) (hN : k.nodes = N) (hN16 : N ≤ 16) (hmb : 0 ≤ mb ∧ mb < 65536) (hr : ∀ z ∈ readsF k mb own, -2305843009213693952 ≤ z ∧ z ≤ 2305843009213693952)
    (ho : -ckEnd ≤ k.off ∧ k.off ≤ ckEnd) (hd : 0 ≤ k.bound ∧ k.bound ≤ ckEnd) :
    Calls Tryd.prog 70 #[.pointer (some ⟨g, 0, none⟩), .int .u16 mb, .int .i64 own] w fun e w' => e = .returned (.tuple #[.int .i64 (cutF (avg (readsF k mb own)) (-k.bound) k.bound), .int .i64 0]) ∧ Upd g w w' ∧
      CkAt w' g { k with off := cutF (k.off + cutF (avg (readsF k mb own)) (-k.bound) k.bound) (-ckEnd) ckEnd, rd := zero16 } := by
  have hmade := cmade_at g w (x.cell 0 _ rfl)
  have HA := hide (average_at x mb own hN hN16 hmb hr)
  generalize avg (readsF k mb own) = v at HA ⊢
  generalize decide (0 < (readsF k mb own).length) = vb at HA
  have h0 : ckEnd = 1099511627776 := rfl
  have hn : IntKind.i64.wrap (-k.bound) = -k.bound := by rw [IntKind.wrap_i64]; omega
  have hr := cutF_range v (show -k.bound ≤ k.bound by omega)
  have HC := hide (fun W => cut_at v (-k.bound) k.bound W)
  generalize cutF v (-k.bound) k.bound = r at hr HC ⊢
  have HM := hide (fun W (X : CkAt W g k) => move_at X r ho (by omega))
  have X := hide x
  clear x hN hN16 hmb ho hd hr h0
  obtain ⟨nodes, drift, reading, margin, bound, off, rd⟩ := k
  dsimp only at *
  go_enter Tryd.func70, Tryd.ntmps70
  go_wp2_with fail
  refine hmade.mono ?_
  rintro e w' ⟨rfl, rfl⟩
  clear hmade
  go_wp2_with fail
  refine HA.out.mono ?_
  rintro e w1 ⟨rfl, hb1⟩
  have X1 := hide (X.out.below hb1)
  have U1 := hide (Upd.of_below hb1 X.out.lt)
  have c5 := X1.out.cell 5 _ rfl
  clear hb1 HA X
  go_wp2_with fail
  go_quiet ((go_at_call 111; refine Calls.quiet_of_same (HC.out _)))
  have X2 := hide (X1.out.below (cdrewN (Below.refl _ _) nq))
  have U2 := hide (U1.out.trans (Upd.of_below (cdrewN (Below.refl w1.heap.size w1) nq) X1.out.lt))
  generalize w1.drewN nq = w2 at *
  go_wp2_with fail
  refine (HM.out _ X2.out).mono ?_
  rintro e w3 ⟨rfl, hu, hx⟩
  have U3 := hide (U2.out.trans hu)
  have X3 := hide hx
  clear hu hx
  go_wp2_with (refine wpList_store_mid rfl 162 (.tmp 39) (.tmp 37) rfl g 7 (zero16.flatMap rdC).toArray rfl rfl X3.out.thereRd (by kernel_rfl) zero_one ?_)
  go_ret2
  exact ⟨rfl, U3.out.trans ⟨fun j _ hj => set_cells_other g _ _ _ j hj, Nat.le_of_eq (set_cells_size g _ _ _).symm, set_cells_below g _ _ _⟩, X3.out.forget⟩
end Go.Proofs.YtbeggdahbhfhpaaDoor
namespace Go.Proofs.YtbeggdahbhfhpaaDoor
open Go.RowKit Go.Deep
set_option linter.unusedVariables false
set_option linter.unusedSimpArgs false

theorem ck_zero {c : Conf} (h : checkF c = 0) : ∃ N : Nat, c.nodes = N ∧ 4 ≤ N ∧ N ≤ 16 ∧ (0 ≤ c.drift ∧ c.drift ≤ 1048576) ∧ (0 ≤ c.reading ∧ c.reading ≤ 1048576) ∧ (2 * precF c + c.reading ≤ c.margin ∧ c.margin ≤ 16777216) ∧ (2 * precF c + c.reading ≤ c.bound ∧ c.bound ≤ 16777216) := by
  unfold checkF checkW at h
  split at h
  · cases h
  rename_i h1
  split at h
  · cases h
  rename_i h2
  have hN := Decidable.not_not.1 h1
  have hC : ClockK c = true := by simpa using h2
  obtain ⟨n1, n2, _⟩ := hN
  obtain ⟨N, hn⟩ := Int.eq_ofNat_of_zero_le (show 0 ≤ c.nodes by omega)
  simp only [ClockK, inB, Bool.and_eq_true, decide_eq_true_eq] at hC
  obtain ⟨⟨⟨⟨⟨a1, a2⟩, a3⟩, a4⟩, _⟩, _⟩ := hC
  exact ⟨N, hn, by omega, by omega, a1, a2, a3, a4⟩
def ckOf (c : Conf) : Ck := ⟨c.nodes, c.drift, c.reading, c.margin, c.bound, 0, zero16⟩
/-- what New answers -/
def NewPost (c : Conf) (w : World) (e : Ending) (w' : World) : Prop :=
  Below w.heap.size w w' ∧ ((checkF c ≠ 0 ∧ e = .returned (.tuple #[.pointer none, .int .i64 (checkF c)])) ∨ (checkF c = 0 ∧ ∃ g, w.heap.size ≤ g ∧ e = .returned (.tuple #[.pointer (some ⟨g, 0, none⟩), .int .i64 0]) ∧ CkAt w' g (ckOf c)))

set_option maxRecDepth 100000 in
set_option maxHeartbeats 1000000 in
theorem new_at (c : Conf) (d : Ad) (w : World) (hg : Glo w) (h : ConfAt w c d) : Calls Tryd.prog 22 #[c.val d] w (NewPost c w) := by
  have hS := CfS.first 28 hg h
  have HC := hide (fun W (H : CfS w W c d) => check_any c d W H.g H.cf)
  have HP : Hid (∀ e w', NewPost c w e w' ↔ Below w.heap.size w w' ∧ ((checkF c ≠ 0 ∧ e = .returned (.tuple #[.pointer none, .int .i64 (checkF c)])) ∨ (checkF c = 0 ∧ ∃ g, w.heap.size ≤ g ∧ e = .returned (.tuple #[.pointer (some ⟨g, 0, none⟩), .int .i64 0]) ∧ CkAt w' g (ckOf c)))) := fun _ _ => Iff.rfl
  have HK : Hid (ckOf c = ⟨c.nodes, c.drift, c.reading, c.margin, c.bound, 0, zero16⟩) := rfl
  generalize ckOf c = kk at HP HK
  generalize NewPost c w = PP at HP ⊢
  generalize checkF c = f at HC HP
  clear hg h
  obtain ⟨oA, oC, pA, pC, wA, wC, qA, qC, lA, lC⟩ := d
  obtain ⟨nodes, owners, drift, reading, margin, bound, rejoin, quota, parts, windows, ports, links⟩ := c
  unfold Conf.val at HC ⊢
  unfold Conf.cells at hS
  dsimp only at hS HC HK ⊢
  obtain ⟨hb, ⟨hl, e0, e1, e2, e3, e4, e5, e6, e7, e8, e9, e10, e11⟩, _, _⟩ := id hS
  dsimp only at e0 e1 e2 e3 e4 e5 e6 e7 e8 e9 e10 e11
  have HS := hide hS
  clear hS hb
  go_enter Tryd.func22, Tryd.ntmps22
  by_cases hf : f = 0
  · subst hf
    go_wp2_with (go_at_call 12; refine (HC.out _ HS.out).mono ?_; rintro e w1 ⟨rfl, hb1⟩; have HT := hide (HS.out.below hb1); clear hb1 hl e0 e1 e2 e3 e4 e5 e6 e7 e8 e9 e10 e11; obtain ⟨_, ⟨hl, e0, e1, e2, e3, e4, e5, e6, e7, e8, e9, e10, e11⟩, _, _⟩ := HT.out; dsimp only at e0 e1 e2 e3 e4 e5 e6 e7 e8 e9 e10 e11)
    have hk := heap_alloc_new w1 (.cells (kk.cells w1.heap.size).toArray 164)
    rw [HK.out] at hk
    refine (HP.out _ _).2 ⟨HT.out.bel.trans ((bal w1 _).mono HT.out.bel.size), .inr ⟨by first | trivial | rfl, w1.heap.size, HT.out.bel.size, rfl, ?_⟩⟩
    rw [HK.out]
    exact ⟨hk, rfl⟩
  · have hne : (f != 0) = true := by simpa using hf
    go_wp2_with (go_at_call 12; refine (HC.out _ HS.out).mono ?_; rintro e w1 ⟨rfl, hb1⟩; have HT := hide (HS.out.below hb1); clear hb1 hl e0 e1 e2 e3 e4 e5 e6 e7 e8 e9 e10 e11)
    exact (HP.out _ _).2 ⟨HT.out.bel, .inl ⟨hf, rfl⟩⟩
end Go.Proofs.YtbeggdahbhfhpaaDoor
namespace Go.Proofs.YtbeggdahbhfhpaaDoor
open Go.RowKit Go.Deep
set_option linter.unusedVariables false
set_option linter.unusedSimpArgs false

theorem cutF_two (v n : Int) (h : 0 ≤ n) : cutF v (-n) n = if n < v then n else if v < -n then -n else v := by
  unfold cutF
  by_cases h1 : v < -n
  · rw [if_pos h1]
    split
    · omega
    · split <;> omega
  · rw [if_neg h1]
set_option maxRecDepth 100000 in
theorem rcut_at (v n : Int) (w : World) (h : 0 ≤ n ∧ n ≤ 9223372036854775807) : Calls Tryd.prog 109 #[.int .i64 v, .int .i64 n] w fun e w' => e = .returned (.int .i64 (cutF v (-n) n)) ∧ w' = w := by
  rw [cutF_two v n h.1]
  have hn : IntKind.i64.wrap (-n) = -n := by rw [IntKind.wrap_i64]; omega
  clear h
  go_enter Tryd.func109, Tryd.ntmps109
  go_wp2
  all_goals go_ret
  all_goals exact ⟨rfl, rfl⟩
theorem t_neg (n : Int) (h : n < 0) : n.tdiv 2 = -((-n) / 2) ∧ n.tmod 2 = -((-n) % 2) := by
  have e : n = -(-n) := by omega
  constructor
  · rw [e, Int.neg_tdiv, Int.tdiv_eq_ediv_of_nonneg (by omega)]; simp
  · rw [e, Int.neg_tmod, Int.tmod_eq_emod_of_nonneg (by omega)]; simp
theorem t_pos (n : Int) (h : 0 ≤ n) : n.tdiv 2 = n / 2 := Int.tdiv_eq_ediv_of_nonneg h
set_option maxRecDepth 100000 in
theorem half_at (n : Int) (w : World) (h : -4611686018427387904 ≤ n ∧ n ≤ 4611686018427387904) : Calls Tryd.prog 143 #[.int .i64 n] w fun e w' => e = .returned (.int .i64 (n / 2)) ∧ w' = w := by
  by_cases h1 : n < 0
  · obtain ⟨t1, t2⟩ := t_neg n h1
    by_cases h2 : n.tmod 2 = 0
    · have hb : (n.tmod 2 != 0) = false := by simpa using h2
      have hr : n / 2 = n.tdiv 2 := by omega
      have hq : IntKind.i64.wrap (n.tdiv 2) = n.tdiv 2 := by rw [IntKind.wrap_i64]; omega
      rw [hr]
      clear h2 hr h t1 t2
      go_enter Tryd.func143, Tryd.ntmps143
      go_wp2
      all_goals go_ret
      all_goals exact ⟨rfl, rfl⟩
    · have hb : (n.tmod 2 != 0) = true := by simpa using h2
      have hr : n / 2 = n.tdiv 2 - 1 := by omega
      have hq : IntKind.i64.wrap (n.tdiv 2) = n.tdiv 2 := by rw [IntKind.wrap_i64]; omega
      have hw : IntKind.i64.wrap (n.tdiv 2 - 1) = n.tdiv 2 - 1 := by rw [IntKind.wrap_i64]; omega
      rw [hr]
      clear h2 hr h t1 t2
      go_enter Tryd.func143, Tryd.ntmps143
      go_wp2
      all_goals go_ret
      all_goals exact ⟨rfl, rfl⟩
  · have t1 := t_pos n (by omega)
    have hr : n / 2 = n.tdiv 2 := by omega
    have hq : IntKind.i64.wrap (n.tdiv 2) = n.tdiv 2 := by rw [IntKind.wrap_i64]; omega
    rw [hr]
    clear hr h t1
    go_enter Tryd.func143, Tryd.ntmps143
    go_wp2
    all_goals go_ret
    all_goals exact ⟨rfl, rfl⟩
end Go.Proofs.YtbeggdahbhfhpaaDoor
namespace Go.Proofs.YtbeggdahbhfhpaaDoor
open Go.RowKit Go.Deep
set_option linter.unusedVariables false
set_option linter.unusedSimpArgs false

/-- some blocks alone were written -/
structure Ud (S : List Nat) (w w' : World) : Prop where
  blk : ∀ j, j < w.heap.size → j ∉ S → w'.heap[j]? = w.heap[j]?
  siz : w.heap.size ≤ w'.heap.size
  env : Below 0 w w'
theorem Ud.set {S : List Nat} (w : World) {b k : Nat} (hb : b ∈ S) (v : Value) : Ud S w (w.setCell ⟨b, k, none⟩ v) :=
  ⟨fun j _ hj => set_other (fun e => hj (e ▸ hb)), by rw [set_size]; exact Nat.le_refl _, (Below.refl 0 w).setCell (p := ⟨b, k, none⟩) (Nat.zero_le _) _⟩
theorem Ud.of_below {S : List Nat} {w w' : World} (h : Below w.heap.size w w') : Ud S w w' := ⟨fun j hj _ => h.block j hj, h.size, h.mono (Nat.zero_le _)⟩
theorem Ud.trans {S : List Nat} {w w1 w2 : World} (h : Ud S w w1) (h' : Ud S w1 w2) : Ud S w w2 :=
  ⟨fun j hj hn => (h'.blk j (Nat.lt_of_lt_of_le hj h.siz) hn).trans (h.blk j hj hn), Nat.le_trans h.siz h'.siz, h.env.trans h'.env⟩
theorem Ud.below {S : List Nat} {w w' : World} {B : Nat} (h : Ud S w w') (hS : ∀ x ∈ S, B ≤ x) (hB : B ≤ w.heap.size) : Below B w w' :=
  ⟨h.env.os, h.env.tape, h.env.output, h.siz, fun k hk => h.blk k (by omega) (fun hm => by have := hS k hm; omega)⟩

def bools (H : List Bool) : Array Value := (H.map Value.bool).toArray
def nums (R : List Int) : Array Value := (R.map (Value.int .i64)).toArray
structure Rk where
  nodes : Int
  drift : Int
  reading : Int
  margin : Int
  bound : Int
  off : Int
  R : List Int
  H : List Bool
structure RkAt (W : World) (wb rb hb : Nat) (k : Rk) : Prop where
  lt : wb < W.heap.size
  c0 : W.cell? ⟨wb, 0, none⟩ = some (.int .i64 k.nodes)
  c2 : W.cell? ⟨wb, 2, none⟩ = some (.int .i64 k.drift)
  c3 : W.cell? ⟨wb, 3, none⟩ = some (.int .i64 k.reading)
  c4 : W.cell? ⟨wb, 4, none⟩ = some (.int .i64 k.margin)
  c5 : W.cell? ⟨wb, 5, none⟩ = some (.int .i64 k.bound)
  c12 : W.cell? ⟨wb, 12, none⟩ = some (.int .i64 k.off)
  c13 : W.cell? ⟨wb, 13, none⟩ = some (.slice (some ⟨rb, 0, none⟩) k.R.length k.R.length)
  c14 : W.cell? ⟨wb, 14, none⟩ = some (.slice (some ⟨hb, 0, none⟩) k.H.length k.H.length)
  free : ∀ j, W.frozen? ⟨wb, j, none⟩ = false
  rr : W.heap[rb]? = some (.cells (nums k.R) 3 (0, 0))
  hr : W.heap[hb]? = some (.cells (bools k.H) 4 (0, 0))
  n1 : wb ≠ rb
  n2 : wb ≠ hb
  n3 : rb ≠ hb
section
variable {W W' : World} {wb rb hb : Nat} {k : Rk}
theorem cell_kept {w w' : World} {b o : Nat} (h : w'.heap[b]? = w.heap[b]?) : w'.cell? ⟨b, o, none⟩ = w.cell? ⟨b, o, none⟩ := by unfold World.cell?; rw [h]
theorem free_kept {w w' : World} {b o : Nat} (h : w'.heap[b]? = w.heap[b]?) : w'.frozen? ⟨b, o, none⟩ = w.frozen? ⟨b, o, none⟩ := by unfold World.frozen?; rw [h]
theorem RkAt.kept (x : RkAt W wb rb hb k) (h0 : W.heap.size ≤ W'.heap.size) (h1 : W'.heap[wb]? = W.heap[wb]?) (h2 : W'.heap[rb]? = W.heap[rb]?) (h3 : W'.heap[hb]? = W.heap[hb]?) : RkAt W' wb rb hb k :=
  ⟨Nat.lt_of_lt_of_le x.lt h0, (cell_kept h1).trans x.c0, (cell_kept h1).trans x.c2, (cell_kept h1).trans x.c3, (cell_kept h1).trans x.c4, (cell_kept h1).trans x.c5, (cell_kept h1).trans x.c12, (cell_kept h1).trans x.c13, (cell_kept h1).trans x.c14, fun j => (free_kept h1).trans (x.free j), h2.trans x.rr, h3.trans x.hr, x.n1, x.n2, x.n3⟩
theorem RkAt.rlt (x : RkAt W wb rb hb k) : rb < W.heap.size := (Array.getElem?_eq_some_iff.1 x.rr).1
theorem RkAt.hlt (x : RkAt W wb rb hb k) : hb < W.heap.size := (Array.getElem?_eq_some_iff.1 x.hr).1
theorem RkAt.ud {S : List Nat} (x : RkAt W wb rb hb k) (u : Ud S W W') (h1 : wb ∉ S) (h2 : rb ∉ S) (h3 : hb ∉ S) : RkAt W' wb rb hb k :=
  x.kept u.siz (u.blk _ x.lt h1) (u.blk _ x.rlt h2) (u.blk _ x.hlt h3)
theorem RkAt.below (x : RkAt W wb rb hb k) (h : Below W.heap.size W W') : RkAt W' wb rb hb k :=
  x.kept h.size (h.block _ x.lt) (h.block _ x.rlt) (h.block _ x.hlt)
theorem RkAt.rcell (x : RkAt W wb rb hb k) {n : Nat} (h : n < k.R.length) : W.cell? ⟨rb, n, none⟩ = some (.int .i64 (k.R.getD n 0)) := by
  rw [cell_row x.rr]
  simp [nums, List.getD_eq_getElem?_getD, List.getElem?_eq_getElem h]
theorem RkAt.hcell (x : RkAt W wb rb hb k) {n : Nat} (h : n < k.H.length) : W.cell? ⟨hb, n, none⟩ = some (.bool (k.H.getD n false)) := by
  rw [cell_row x.hr]
  simp [bools, List.getD_eq_getElem?_getD, List.getElem?_eq_getElem h]
theorem cell_at_other {w : World} {b j o : Nat} {v : Value} (h : o ≠ j) : (w.setCell ⟨b, j, none⟩ v).cell? ⟨b, o, none⟩ = w.cell? ⟨b, o, none⟩ := World.cell?_setCell_other _ _ _ _ (fun e => h (by injection e with _ e2 _; first | exact e2 | exact e2.symm))
theorem cell_at_far {w : World} {b b' j o : Nat} {v : Value} (h : b' ≠ b) : (w.setCell ⟨b, j, none⟩ v).cell? ⟨b', o, none⟩ = w.cell? ⟨b', o, none⟩ := cell_kept (set_other h)
theorem free_set {w : World} {b j b' o : Nat} {v : Value} (h : w.frozen? ⟨b', o, none⟩ = false) : (w.setCell ⟨b, j, none⟩ v).frozen? ⟨b', o, none⟩ = false := by
  rw [World.frozen?_setCell]; exact h
theorem RkAt.setOff (x : RkAt W wb rb hb k) (z : Int) : RkAt (W.setCell ⟨wb, 12, none⟩ (.int .i64 z)) wb rb hb { k with off := z } :=
  ⟨by rw [set_size]; exact x.lt, (cell_at_other (by omega)).trans x.c0, (cell_at_other (by omega)).trans x.c2, (cell_at_other (by omega)).trans x.c3, (cell_at_other (by omega)).trans x.c4, (cell_at_other (by omega)).trans x.c5,
    World.cell?_setCell_same _ _ _ x.c12, (cell_at_other (by omega)).trans x.c13, (cell_at_other (by omega)).trans x.c14, fun j => free_set (x.free j), (set_other x.n1.symm).trans x.rr, (set_other x.n2.symm).trans x.hr, x.n1, x.n2, x.n3⟩
theorem RkAt.setR (x : RkAt W wb rb hb k) (n : Nat) (z : Int) : RkAt (W.setCell ⟨rb, n, none⟩ (.int .i64 z)) wb rb hb { k with R := k.R.set n z } :=
  ⟨by rw [set_size]; exact x.lt, (cell_at_far x.n1).trans x.c0, (cell_at_far x.n1).trans x.c2, (cell_at_far x.n1).trans x.c3, (cell_at_far x.n1).trans x.c4, (cell_at_far x.n1).trans x.c5, (cell_at_far x.n1).trans x.c12,
    by rw [List.length_set]; exact (cell_at_far x.n1).trans x.c13, (cell_at_far x.n1).trans x.c14, fun j => free_set (x.free j), by rw [set_row x.rr]; simp [nums, List.map_set], (set_other x.n3.symm).trans x.hr, x.n1, x.n2, x.n3⟩
theorem RkAt.setH (x : RkAt W wb rb hb k) (n : Nat) (b : Bool) : RkAt (W.setCell ⟨hb, n, none⟩ (.bool b)) wb rb hb { k with H := k.H.set n b } :=
  ⟨by rw [set_size]; exact x.lt, (cell_at_far x.n2).trans x.c0, (cell_at_far x.n2).trans x.c2, (cell_at_far x.n2).trans x.c3, (cell_at_far x.n2).trans x.c4, (cell_at_far x.n2).trans x.c5, (cell_at_far x.n2).trans x.c12,
    (cell_at_far x.n2).trans x.c13, by rw [List.length_set]; exact (cell_at_far x.n2).trans x.c14, fun j => free_set (x.free j), (set_other x.n3).trans x.rr, by rw [set_row x.hr]; simp [bools, List.map_set], x.n1, x.n2, x.n3⟩
/-- a new list of truths -/
theorem RkAt.newH (x : RkAt W wb rb hb k) (H : List Bool) : RkAt ((W.alloc (.cells (bools H) 4)).setCell ⟨wb, 14, none⟩ (.slice (some ⟨W.heap.size, 0, none⟩) H.length H.length)) wb rb W.heap.size { k with H := H } := by
  have y := x.below ((Below.refl W.heap.size W).alloc (Nat.le_refl _) (.cells (bools H) 4))
  have hw := Nat.ne_of_lt x.lt
  have hr := Nat.ne_of_lt x.rlt
  exact ⟨by rw [set_size]; exact y.lt, (cell_at_other (by omega)).trans y.c0, (cell_at_other (by omega)).trans y.c2, (cell_at_other (by omega)).trans y.c3, (cell_at_other (by omega)).trans y.c4, (cell_at_other (by omega)).trans y.c5, (cell_at_other (by omega)).trans y.c12,
    (cell_at_other (by omega)).trans y.c13, World.cell?_setCell_same _ _ _ y.c14, fun j => free_set (y.free j), (set_other x.n1.symm).trans y.rr, (set_other (Ne.symm hw)).trans (heap_alloc_new W _), x.n1, hw, hr⟩
end

/-! ### The calls -/
set_option maxRecDepth 100000 in
theorem rset_at {wb rb hb : Nat} {k : Rk} {w : World} (x : RkAt w wb rb hb k) (z : Int) (h : -ckEnd ≤ z ∧ z ≤ ckEnd) : Calls Tryd.prog 59 #[.pointer (some ⟨wb, 0, none⟩), .int .i64 z] w fun e w' => e = .returned (.int .i64 0) ∧ Ud [wb] w w' ∧ RkAt w' wb rb hb { k with off := z } := by
  have hz : cutF z (-1099511627776) 1099511627776 = z := by unfold cutF; have h0 : ckEnd = 1099511627776 := rfl; split <;> (try split) <;> omega
  have HC := hide (fun W => rcut_at z 1099511627776 W (by omega))
  rw [hz] at HC
  have c12 := x.c12
  have f12 := x.free 12
  have X := hide x
  clear x h hz
  go_enter Tryd.func59, Tryd.ntmps59
  go_wp2_with fail
  refine (HC.out _).mono ?_
  rintro e w' ⟨rfl, rfl⟩
  go_wp2
  go_ret
  exact ⟨rfl, Ud.set _ (by simp) _, X.out.setOff z⟩
set_option maxRecDepth 100000 in
theorem rset_bad {wb : Nat} {w : World} (z : Int) (h : ¬(-ckEnd ≤ z ∧ z ≤ ckEnd)) : Calls Tryd.prog 59 #[.pointer (some ⟨wb, 0, none⟩), .int .i64 z] w fun e w' => e = .returned (.int .i64 2) ∧ w' = w := by
  have hz : (z != cutF z (-1099511627776) 1099511627776) = true := by
    unfold cutF; have h0 : ckEnd = 1099511627776 := rfl
    simp only [bne_iff_ne, ne_eq]
    split <;> (try split) <;> omega
  have HC := hide (fun W => rcut_at z 1099511627776 W (by omega))
  generalize cutF z (-1099511627776) 1099511627776 = r at hz HC
  clear h
  go_enter Tryd.func59, Tryd.ntmps59
  go_wp2_with fail
  refine (HC.out _).mono ?_
  rintro e w' ⟨rfl, rfl⟩
  go_wp2
  go_ret
  exact ⟨rfl, rfl⟩
set_option maxRecDepth 100000 in
theorem rdrift_at {wb rb hb : Nat} {k : Rk} {w : World} (x : RkAt w wb rb hb k) (z : Int) (h : -ckEnd ≤ k.off ∧ k.off ≤ ckEnd) (hd : 0 ≤ k.drift ∧ k.drift ≤ ckEnd) : Calls Tryd.prog 61 #[.pointer (some ⟨wb, 0, none⟩), .int .i64 z] w fun e w' => e = .returned (.tuple #[]) ∧ Ud [wb] w w' ∧ RkAt w' wb rb hb { k with off := cutF (k.off + cutF z (-k.drift) k.drift) (-ckEnd) ckEnd } := by
  have h0 : ckEnd = 1099511627776 := rfl
  have hr := cutF_range z (show -k.drift ≤ k.drift by omega)
  have HC1 := hide (fun W => rcut_at z k.drift W (by omega))
  have hx2 : RkAt { w with drawn := w.drawn + 1 } wb rb hb k := x.kept (Nat.le_refl _) rfl rfl rfl
  have hb2 : Ud [wb] w { w with drawn := w.drawn + 1 } := Ud.of_below (cdrewN (Below.refl _ _) 1)
  generalize cutF z (-k.drift) k.drift = r at hr HC1 ⊢
  have hw : IntKind.i64.wrap (k.off + r) = k.off + r := by rw [IntKind.wrap_i64]; omega
  have HC2 := hide (fun W => rcut_at (k.off + r) 1099511627776 W (by omega))
  have HE := hide (show cutF (k.off + r) (-1099511627776) 1099511627776 = cutF (k.off + r) (-ckEnd) ckEnd from rfl)
  rw [HE.out] at HC2
  generalize cutF (k.off + r) (-ckEnd) ckEnd = q at HC2 ⊢
  have c12 := hx2.c12
  have c2 := hx2.c2
  have f12 := hx2.free 12
  have HB2 := hide hb2; have HX2 := hide hx2
  clear x h hd hr hb2 hx2 h0 HE
  obtain ⟨nodes, drift, reading, margin, bound, off, R, H⟩ := k
  dsimp only at *
  go_enter Tryd.func61, Tryd.ntmps61
  refine wp_region_still_tail 16 (by kernel_rfl) (by kernel_rfl) ?_
  simp only [List.take_succ_cons, List.take_zero, List.drop_succ_cons, List.drop_zero]
  generalize ({ w with drawn := w.drawn + 1 } : World) = w2 at *
  repeat still_step
  still_call (HC1.out w2)
  repeat still_step
  still_call (HC2.out w2)
  repeat still_step
  refine wpStill_nil ?_
  go_wp2
  go_end0
  exact ⟨rfl, HB2.out.trans (Ud.set _ (by simp) _), HX2.out.setOff q⟩
end Go.Proofs.YtbeggdahbhfhpaaDoor
namespace Go.Proofs.YtbeggdahbhfhpaaDoor
open Go.RowKit Go.Deep
set_option linter.unusedVariables false
set_option linter.unusedSimpArgs false

theorem fit_eq (z m : Int) (h : 0 ≤ m) : (z == cutF z (-m) m) = (decide (-m ≤ z) && decide (z ≤ m)) := by
  rw [cutF_two z m h, Bool.eq_iff_iff]
  simp only [beq_iff_eq, Bool.and_eq_true, decide_eq_true_eq]
  split
  · constructor <;> intro <;> omega
  · split
    · constructor <;> intro <;> omega
    · constructor <;> intro <;> first | omega | trivial
set_option maxRecDepth 100000 in
set_option maxHeartbeats 1000000 in
theorem rread_at {wb rb hb : Nat} {k : Rk} {w : World} (x : RkAt w wb rb hb k) (z e : Int) (h : -ckEnd ≤ k.off ∧ k.off ≤ ckEnd) (hd : 0 ≤ k.reading ∧ k.reading ≤ ckEnd) : Calls Tryd.prog 63 #[.pointer (some ⟨wb, 0, none⟩), .int .i64 z, .int .i64 e] w fun v w' => v = .returned (.int .i64 (cutF z (-ckEnd) ckEnd - k.off + cutF e (-k.reading) k.reading)) ∧ ∃ m, w' = w.drewN m := by
  have h0 : ckEnd = 1099511627776 := rfl
  have hr := cutF_range e (show -k.reading ≤ k.reading by omega)
  have hr2 := cutF_range z (show -ckEnd ≤ ckEnd by omega)
  have c3 : w.cell? ⟨wb, 3, none⟩ = some (.int .i64 k.reading) := x.c3
  have c12 : w.cell? ⟨wb, 12, none⟩ = some (.int .i64 k.off) := x.c12
  have HE := hide (show ∀ x, cutF x (-ckEnd) ckEnd = cutF x (-1099511627776) 1099511627776 from fun _ => rfl)
  rw [HE.out] at hr2 ⊢
  have HC1 := hide (fun W => rcut_at z 1099511627776 W (by omega))
  have HC2 := hide (fun W => rcut_at e k.reading W (by omega))
  generalize cutF z (-1099511627776) 1099511627776 = F at hr2 HC1 ⊢
  generalize cutF e (-k.reading) k.reading = G at hr HC2 ⊢
  have hw1 : IntKind.i64.wrap (F - k.off) = F - k.off := by rw [IntKind.wrap_i64]; omega
  have hw2 : IntKind.i64.wrap (F - k.off + G) = F - k.off + G := by rw [IntKind.wrap_i64]; omega
  clear HE x h hd hr hr2 h0
  obtain ⟨nodes, drift, reading, margin, bound, off, R, H⟩ := k
  dsimp only at *
  go_enter Tryd.func63, Tryd.ntmps63
  go_upto_region 1 with fail
  refine wp_region_still_tail 15 (by kernel_rfl) (by kernel_rfl) ?_
  simp only [List.take_succ_cons, List.take_zero, List.drop_succ_cons, List.drop_zero]
  have HW : Hid (({ w with drawn := w.drawn + 1 } : World) = w.drewN 1) := rfl
  have c3' : ({ w with drawn := w.drawn + 1 } : World).cell? ⟨wb, 3, none⟩ = some (.int .i64 reading) := c3
  have c12' : ({ w with drawn := w.drawn + 1 } : World).cell? ⟨wb, 12, none⟩ = some (.int .i64 off) := c12
  clear c3 c12
  generalize ({ w with drawn := w.drawn + 1 } : World) = w2 at *
  repeat still_step
  still_call (HC1.out w2)
  repeat still_step
  still_call (HC2.out w2)
  repeat still_step
  refine wpStill_nil ?_
  go_wp2
  go_ret
  exact ⟨rfl, 1, HW.out⟩
set_option maxRecDepth 100000 in
theorem rfits_at {wb rb hb : Nat} {k : Rk} {w : World} (x : RkAt w wb rb hb k) (z : Int) (hd : 0 ≤ k.margin ∧ k.margin ≤ ckEnd) : Calls Tryd.prog 65 #[.pointer (some ⟨wb, 0, none⟩), .int .i64 z] w fun v w' => v = .returned (.bool (decide (-k.margin ≤ z) && decide (z ≤ k.margin))) ∧ w' = w := by
  have h0 : ckEnd = 1099511627776 := rfl
  rw [← fit_eq z k.margin hd.1]
  have c4 : w.cell? ⟨wb, 4, none⟩ = some (.int .i64 k.margin) := x.c4
  have HC := hide (fun W => rcut_at z k.margin W (by omega))
  clear x hd h0
  obtain ⟨nodes, drift, reading, margin, bound, off, R, H⟩ := k
  dsimp only at *
  generalize cutF z (-margin) margin = r at HC ⊢
  go_enter Tryd.func65, Tryd.ntmps65
  go_wp2_with fail
  refine (HC.out _).mono ?_
  rintro e w' ⟨rfl, rfl⟩
  go_wp2
  go_ret
  exact ⟨rfl, rfl⟩
set_option maxRecDepth 100000 in
set_option maxHeartbeats 1000000 in
theorem rhear_at {wb rb hb : Nat} {k : Rk} {w : World} (x : RkAt w wb rb hb k) (n : Nat) (z : Int) (hn : (n : Int) < k.nodes) (hR : k.nodes = k.R.length) (hH : k.nodes = k.H.length) (hz : -2199023255552 ≤ z ∧ z ≤ 2199023255552) :
    Calls Tryd.prog 67 #[.pointer (some ⟨wb, 0, none⟩), .int .i64 n, .int .i64 z] w fun v w' => v = .returned (.int .i64 0) ∧ Ud [rb, hb] w w' ∧ RkAt w' wb rb hb { k with R := k.R.set n z, H := k.H.set n true } := by
  have c0 : w.cell? ⟨wb, 0, none⟩ = some (.int .i64 k.nodes) := x.c0
  have c13 := x.c13
  have r1 := x.rcell (n := n) (by omega)
  have y := x.setR n z
  have hh := y.hcell (n := n) (show n < k.H.length by omega)
  have c14 : (w.setCell ⟨rb, n, none⟩ (.int .i64 z)).cell? ⟨wb, 14, none⟩ = some (.slice (some ⟨hb, 0, none⟩) k.H.length k.H.length) := y.c14
  have f1 : w.frozen? ⟨rb, n, none⟩ = false := by unfold World.frozen?; rw [x.rr]; simp
  have f2 : (w.setCell ⟨rb, n, none⟩ (.int .i64 z)).frozen? ⟨hb, n, none⟩ = false := by unfold World.frozen?; rw [y.hr]; simp
  have HX := hide (y.setH n true)
  have HU : Hid (Ud [rb, hb] w ((w.setCell ⟨rb, n, none⟩ (.int .i64 z)).setCell ⟨hb, n, none⟩ (.bool true))) := (Ud.set w (by simp) _).trans (Ud.set _ (by simp) _)
  have hzc : (z != cutF z (-2199023255552) 2199023255552) = false := by
    unfold cutF
    simp only [bne_eq_false_iff_eq]
    split <;> (try split) <;> omega
  have HC := hide (fun W => rcut_at z 2199023255552 W (by omega))
  generalize cutF z (-2199023255552) 2199023255552 = q at hzc HC
  have d1 : decide ((n : Int) < 0) = false := decide_eq_false (by omega)
  have d2 : decide (k.nodes ≤ (n : Int)) = false := decide_eq_false (by omega)
  have nR : n < k.R.length := by omega
  have nH : n < k.H.length := by omega
  generalize k.R.getD n 0 = o1 at r1
  generalize k.H.getD n false = o2 at hh
  clear x y hz hR hH
  obtain ⟨nodes, drift, reading, margin, bound, off, R, H⟩ := k
  dsimp only at *
  go_enter Tryd.func67, Tryd.ntmps67
  go_wp2_with fail
  refine (HC.out _).mono ?_
  rintro e w' ⟨rfl, rfl⟩
  go_upto_region 4 with fail
  generalize w'.setCell ⟨rb, n, none⟩ (.int .i64 z) = w2 at *
  go_wp2
  go_ret
  exact ⟨rfl, HU.out, HX.out⟩
set_option maxRecDepth 100000 in
set_option maxHeartbeats 1000000 in
theorem rhear_bad {wb rb hb : Nat} {k : Rk} {w : World} (x : RkAt w wb rb hb k) (m z : Int) (h : ¬(0 ≤ m ∧ m < k.nodes ∧ -2199023255552 ≤ z ∧ z ≤ 2199023255552)) :
    Calls Tryd.prog 67 #[.pointer (some ⟨wb, 0, none⟩), .int .i64 m, .int .i64 z] w fun v w' => v = .returned (.int .i64 2) ∧ w' = w := by
  have c0 : w.cell? ⟨wb, 0, none⟩ = some (.int .i64 k.nodes) := x.c0
  have HC := hide (fun W => rcut_at z 2199023255552 W (by omega))
  have hzc : ¬(-2199023255552 ≤ z ∧ z ≤ 2199023255552) → (z != cutF z (-2199023255552) 2199023255552) = true := fun hz => by
    unfold cutF
    simp only [bne_iff_ne, ne_eq]
    split <;> (try split) <;> omega
  clear x
  obtain ⟨nodes, drift, reading, margin, bound, off, R, H⟩ := k
  dsimp only at *
  by_cases h1 : m < 0
  · have d1 : decide (m < 0) = true := decide_eq_true h1
    clear h hzc HC
    go_enter Tryd.func67, Tryd.ntmps67
    go_wp2
    go_ret
    exact ⟨rfl, rfl⟩
  · have d1 : decide (m < 0) = false := decide_eq_false h1
    by_cases h2 : nodes ≤ m
    · have d2 : decide (nodes ≤ m) = true := decide_eq_true h2
      clear h hzc HC
      go_enter Tryd.func67, Tryd.ntmps67
      go_wp2
      go_ret
      exact ⟨rfl, rfl⟩
    · have d2 : decide (nodes ≤ m) = false := decide_eq_false h2
      have hz := hzc (fun g => h ⟨by omega, by omega, g⟩)
      generalize cutF z (-2199023255552) 2199023255552 = q at hz HC
      clear h hzc
      go_enter Tryd.func67, Tryd.ntmps67
      go_wp2_with fail
      refine (HC.out _).mono ?_
      rintro e w' ⟨rfl, rfl⟩
      go_wp2
      go_ret
      exact ⟨rfl, rfl⟩
theorem div_pow (mb : Int) (h : 0 ≤ mb) (k : Nat) : (mb / (2 : Int) ^ k).tdiv 2 = mb / (2 : Int) ^ (k + 1) := by
  have h1 : 0 ≤ mb / (2 : Int) ^ k := Int.ediv_nonneg h (by exact Int.le_of_lt (Int.pow_pos (by omega)))
  rw [Int.tdiv_eq_ediv_of_nonneg h1, Int.ediv_ediv_of_nonneg (Int.le_of_lt (Int.pow_pos (by omega))), Int.pow_succ]
set_option maxRecDepth 100000 in
theorem ris_at (mb : Int) (n : Nat) (w : World) (hmb : 0 ≤ mb ∧ mb < 65536) (hn : n ≤ 100) : Calls Tryd.prog 114 #[.int .u16 mb, .int .i64 n] w fun e w' => e = .returned (.bool (isM mb n)) ∧ w' = w := by
  have HR : Hid (∀ k : Nat, 0 ≤ mb / (2 : Int) ^ k ∧ mb / (2 : Int) ^ k < 65536) := fun k =>
    ⟨Int.ediv_nonneg hmb.1 (Int.le_of_lt (Int.pow_pos (by omega))), Int.lt_of_le_of_lt (Int.ediv_le_self _ hmb.1) hmb.2⟩
  have HD := hide (div_pow mb hmb.1)
  go_enter Tryd.func114, Tryd.ntmps114
  go_wp2
  go_loop [0, 5] (fun t i => ∃ k : Nat, k ≤ n ∧ i = .int .i64 k ∧ t = .int .u16 (mb / (2 : Int) ^ k)) (fun _ i => n - (intOf i).toNat)
  case atStart => exact ⟨0, by omega, rfl, by simp⟩
  case round =>
    obtain ⟨k, hk, rfl, rfl⟩ := hrel
    have hr := HR.out k
    have hr1 := HR.out (k + 1)
    by_cases hlt : k < n
    · have H1 : Hid (IntKind.u16.wrap ((mb / (2 : Int) ^ k).tdiv 2) = mb / (2 : Int) ^ (k + 1)) := by
        show _ = _
        rw [HD.out k]
        have e := IntKind.wrap_u16 (mb / (2 : Int) ^ (k + 1))
        omega
      obtain ⟨q1, hq1⟩ : ∃ q, mb / (2 : Int) ^ (k + 1) = q := ⟨_, rfl⟩
      rw [hq1] at H1 hr1
      have HQ := hide hq1
      clear hq1
      generalize mb / (2 : Int) ^ k = q at H1 hr
      have hq := H1.out
      go_wp2
      go_round
      case rel => exact ⟨k + 1, by omega, by go_num, by rw [HQ.out]⟩
      case measure => simp [intOf]; omega
    · obtain rfl : k = n := by omega
      have H1 : Hid ((decide ((mb / (2 : Int) ^ k).tmod 2 = 1)) = isM mb k) := by
        show _ = _
        unfold isM
        rw [Int.tmod_eq_emod_of_nonneg hr.1]
      have H2 : Hid (isM mb k = ((mb / (2 : Int) ^ k).tmod 2 == 1)) := by
        show _ = _
        rw [← H1.out]
        rw [Bool.eq_iff_iff]; simp
      clear H1 hr1
      generalize mb / (2 : Int) ^ k = q at hr H2
      have hq : IntKind.u16.wrap (q.tmod 2) = q.tmod 2 := by
        have e := IntKind.wrap_u16 (q.tmod 2)
        have := Int.tmod_eq_emod_of_nonneg (b := 2) hr.1
        omega
      go_wp2
      go_ret
      exact ⟨by rw [H2.out, Int.tmod_eq_emod_of_nonneg hr.1]; rfl, rfl⟩
end Go.Proofs.YtbeggdahbhfhpaaDoor
namespace Go.Proofs.YtbeggdahbhfhpaaDoor
open Go.RowKit Go.Deep
set_option linter.unusedVariables false
set_option linter.unusedSimpArgs false

theorem info_cki : (Tryd.prog.info? 3).map (fun i => (i.zero, i.size, i.bytes)) = some (some (.int .i64 0), 1, 8) := by kernel_rfl
theorem size_cki (w : World) : (sizeOf 3).run Tryd.prog w = .ok 1 w := by
  have hi := info_cki
  rcases hi' : Tryd.prog.info? 3 with _ | i
  · rw [hi'] at hi; cases hi
  rw [hi'] at hi
  simp only [Option.map_some, Option.some.injEq, Prod.mk.injEq] at hi
  simp [sizeOf, typeInfo, hi', hi.2.1]
def OwnI (W : World) (base : Nat) (v : Value) (l : List Int) : Prop := W.ownsRow base 3 1 v l.length (l.map (Value.int .i64))
theorem OwnI.nil (W : World) (base : Nat) : OwnI W base (.slice none 0 0) [] := ⟨rfl, .inl ⟨rfl, rfl⟩⟩
theorem OwnI.less {W : World} {base b : Nat} {v : Value} {l : List Int} (h : OwnI W base v l) (hb : b ≤ base) : OwnI W b v l := by
  refine ⟨h.1, ?_⟩
  rcases h.2 with h1 | ⟨g, cap, cur, e, h2, h3⟩
  · exact .inl h1
  · exact .inr ⟨g, cap, cur, e, by omega, h3⟩
theorem OwnI.below {W W' : World} {base B : Nat} {v : Value} {l : List Int} (h : OwnI W base v l) (hb : Below B W W') (hB : W.heap.size ≤ B) : OwnI W' base v l := by
  refine ⟨h.1, ?_⟩
  rcases h.2 with h1 | ⟨g, cap, cur, e, h2, h3, h4⟩
  · exact .inl h1
  · exact .inr ⟨g, cap, cur, e, h2, (hb.block g (Nat.lt_of_lt_of_le (Array.getElem?_eq_some_iff.1 h3).1 hB)).trans h3, h4⟩
theorem OwnI.opened {W : World} {base : Nat} {v : Value} {l : List Int} (h : OwnI W base v l) : ∃ A C, v = .slice A l.length C ∧ l.length ≤ C ∧ (A = none → l.length = 0 ∧ C = 0) ∧ (∀ b, A = some b → ∃ g, b = ⟨g, 0, none⟩ ∧ base ≤ g ∧ g < W.heap.size ∧ ∀ (j : Nat) (z : Int), l[j]? = some z → W.cell? ⟨g, j, none⟩ = some (.int .i64 z)) := by
  rcases h.2 with ⟨rfl, h0⟩ | ⟨g, cap, cur, rfl, h2, h3, h4, h5, h6, h7⟩
  · exact ⟨none, 0, by rw [h0], by omega, fun _ => ⟨h0, rfl⟩, fun b hb => (by cases hb)⟩
  · refine ⟨_, cap, rfl, h4, fun e => (by cases e), fun b hb => ?_⟩
    cases hb
    refine ⟨g, rfl, h2, (Array.getElem?_eq_some_iff.1 h3).1, fun j z hz => ?_⟩
    rw [cell_row h3]
    have h8 : (l.map (Value.int .i64))[j]? = some (.int .i64 z) := by rw [List.getElem?_map, hz]; rfl
    rw [← h7, List.getElem?_take] at h8
    split at h8
    · rw [← Array.getElem?_toList]; exact h8
    · cases h8
theorem OwnI.at {W : World} {base : Nat} {v : Value} {l : List Int} (h : OwnI W base v l) {j : Nat} (hj : j < l.length) : ∃ g C, v = .slice (some ⟨g, 0, none⟩) l.length C ∧ base ≤ g ∧ g < W.heap.size ∧ ∀ i, i < l.length → W.cell? ⟨g, i, none⟩ = some (.int .i64 (l.getD i 0)) := by
  obtain ⟨A, C, rfl, _, h1, h2⟩ := h.opened
  rcases A with _ | b
  · have := (h1 rfl).1; omega
  · obtain ⟨g, rfl, h3, h4, h5⟩ := h2 b rfl
    exact ⟨g, C, rfl, h3, h4, fun i hi => h5 i _ (by rw [List.getD_eq_getElem?_getD, List.getElem?_eq_getElem hi]; rfl)⟩
/-- a slice whose numbers lie so -/
def SrcI (W : World) (v : Value) (l : List Int) : Prop := ∃ A C, v = .slice A l.length C ∧ (A = none → l.length = 0) ∧ ∀ b, A = some b → l = [] ∨ ∃ g o, b = ⟨g, o, none⟩ ∧ ∀ (j : Nat) (z : Int), l[j]? = some z → W.cell? ⟨g, o + j, none⟩ = some (.int .i64 z)
theorem SrcI.one (W : World) (z : Int) : SrcI (W.alloc (.cells #[.int .i64 z] 3)) (.slice (some ⟨W.heap.size, 0, none⟩) 1 1) [z] :=
  ⟨_, 1, rfl, fun e => (by cases e), fun b hb => .inr ⟨W.heap.size, 0, (Option.some.inj hb).symm, fun j z' hz => by
    rw [cell_row (heap_alloc_new W _), Nat.zero_add]
    cases j with
    | zero => cases hz; rfl
    | succ j => cases hz⟩⟩
theorem run_lo (W : World) (A : Option Addr) (n C p : Nat) (hp : p ≤ C) (hA : ∀ b, A = some b → ∃ g, b = ⟨g, 0, none⟩) : (Instr.sliceAt 22 (.slice A n C) none (some (.int .i64 (p : Int))) none).run Tryd.prog W = .ok (.slice A p C) W := by
  have he : Tryd.prog.elem 22 = 3 := by kernel_rfl
  have ht : Tryd.prog.underlying 22 = some (.slice (Tryd.prog.elem 22)) := by rw [he]; exact Tryd.underlying22
  rw [run_sliceAt_slice (h := ht), run_slice_h (ht := ht) (h0 := by omega) (h2 := by omega), he, size_cki]
  simp only [Result.andThen_ok, sliced]
  rcases A with _ | b
  · simp
  · obtain ⟨g, rfl⟩ := hA b rfl
    simp [Addr.add]
theorem run_hi (W : World) (A : Option Addr) (n C p : Nat) (hp : p ≤ n) (hn : n ≤ C) : (Instr.sliceAt 22 (.slice A n C) (some (.int .i64 (p : Int))) none none).run Tryd.prog W = .ok (.slice (if C = p then A else A.map (·.add p)) (n - p) (C - p)) W := by
  have he : Tryd.prog.elem 22 = 3 := by kernel_rfl
  have ht : Tryd.prog.underlying 22 = some (.slice (Tryd.prog.elem 22)) := by rw [he]; exact Tryd.underlying22
  rw [run_sliceAt_slice (h := ht), run_slice_l (ht := ht) (h0 := by omega) (h1 := by omega), he, size_cki]
  simp only [Result.andThen_ok, sliced, Int.toNat_natCast, Nat.mul_one]
section
variable {ops : Array Oper} {rest : List Oper} {o : Oper} {a : Act} {w : World} {Q : Exit → Act → World → Prop}
theorem wpList_lo (hgd : o.guard = none) (x h : Operand) (ho : o.op = .slice 22 x none (some h) none) (v : Value) (base p : Nat) (l : List Int) (hx : a.eval x = v) (hh : a.eval h = .int .i64 (p : Int)) (hO : OwnI w base v l) (hp : p ≤ l.length)
    (hn : ∀ v1, SrcI w v1 (l.take p) → wpList Tryd.prog ops Q rest (a.put o.dst v1) w) : wpList Tryd.prog ops Q (o :: rest) a w := by
  obtain ⟨A, C, rfl, hC, h1, h2⟩ := hO.opened
  have hk := hn (.slice A p C) ⟨A, C, by rw [List.length_take]; congr 1; omega, fun e => by rw [List.length_take, (h1 e).1]; omega, fun b hb => .inr (by
    obtain ⟨g, e, _, _, h5⟩ := h2 b hb
    exact ⟨g, 0, e, fun j z hz => by
      rw [List.getElem?_take] at hz
      split at hz
      · rw [Nat.zero_add]; exact h5 j z hz
      · cases hz⟩)⟩
  refine wpList_plain hgd fun K hK => ?_
  have hr := run_lo w A l.length C p (by omega) (fun b hb => by obtain ⟨g, e, _⟩ := h2 b hb; exact ⟨g, e⟩)
  unfold Oper.wp execOp
  simp only [ho, hx, Option.map_some, Option.map_none, hh, Sem.run_bind, hr, Result.andThen_ok, Sem.run_pure, Oper.upon]
  exact hK _ _ hk
theorem wpList_hi (hgd : o.guard = none) (x h : Operand) (ho : o.op = .slice 22 x (some h) none none) (v : Value) (base p : Nat) (l : List Int) (hx : a.eval x = v) (hh : a.eval h = .int .i64 (p : Int)) (hO : OwnI w base v l) (hp : p ≤ l.length)
    (hn : ∀ v1, SrcI w v1 (l.drop p) → wpList Tryd.prog ops Q rest (a.put o.dst v1) w) : wpList Tryd.prog ops Q (o :: rest) a w := by
  obtain ⟨A, C, rfl, hC, h1, h2⟩ := hO.opened
  have hS : SrcI w (.slice (if C = p then A else A.map (·.add p)) (l.length - p) (C - p)) (l.drop p) := by
    refine ⟨_, C - p, by rw [List.length_drop], fun e => ?_, fun b hb => ?_⟩
    · rcases A with _ | b
      · rw [List.length_drop, (h1 rfl).1]; omega
      · split at e
        · cases e
        · cases e
    · rcases A with _ | b'
      · split at hb
        · cases hb
        · cases hb
      · obtain ⟨g, rfl, _, _, h5⟩ := h2 b' rfl
        split at hb
        · left
          apply List.eq_nil_of_length_eq_zero
          rw [List.length_drop]; omega
        · right
          cases hb
          refine ⟨g, p, by show (⟨g, 0, none⟩ : Addr).add p = _; rw [plain_add, Nat.zero_add], fun j z hz => ?_⟩
          rw [List.getElem?_drop] at hz
          exact h5 _ z hz
  have hk := hn _ hS
  refine wpList_plain hgd fun K hK => ?_
  have hr := run_hi w A l.length C p hp hC
  unfold Oper.wp execOp
  simp only [ho, hx, Option.map_some, Option.map_none, hh, Sem.run_bind, hr, Result.andThen_ok, Sem.run_pure, Oper.upon]
  exact hK _ _ hk
theorem append_none2 (w : World) (ty : TypeId) (A : Option Addr) (n cap c : Nat) (hn : n ≤ cap) (hA : A = none → n = 0 ∧ cap = 0) :
    (Builtin.append_ #[22, 22] ty #[.slice A n cap, .slice none 0 c]).run Tryd.prog w = .ok (.slice A n cap) w := by
  have hi := info_cki
  rcases hi' : Tryd.prog.info? 3 with _ | i
  · rw [hi'] at hi; cases hi
  rcases A with _ | b
  · obtain ⟨rfl, rfl⟩ := hA rfl
    simp [Builtin.append_, run_underlying Tryd.underlying22, sizeOf, typeInfo, hi', Builtin.lenOf, Builtin.firstCells, storeCells]
  · have : ¬ cap < n := by omega
    simp [Builtin.append_, run_underlying Tryd.underlying22, sizeOf, typeInfo, hi', Builtin.lenOf, Builtin.firstCells, storeCells, this]
theorem wpList_ontoI (hgd : o.guard = none) (s x : Operand) (ho : o.op = .call { callee := .builtin .append, args := #[s, x], argTypes := #[22, 22] })
    (base : Nat) (v v1 : Value) (l m : List Int) (hs : a.eval s = v) (hx : a.eval x = v1) (hO : OwnI w base v l) (hS : SrcI w v1 m) (hlen : l.length + m.length ≤ 100000) (hbase : base ≤ w.heap.size)
    (hn : ∀ v' w', OwnI w' base v' (l ++ m) → Below base w w' → wpList Tryd.prog ops Q rest (a.put o.dst v') w') : wpList Tryd.prog ops Q (o :: rest) a w := by
  have hi := info_cki
  rcases hi' : Tryd.prog.info? 3 with _ | i
  · rw [hi'] at hi; cases hi
  rw [hi'] at hi
  simp only [Option.map_some, Option.some.injEq, Prod.mk.injEq] at hi
  obtain ⟨hz, hs1, hb⟩ := hi
  obtain ⟨A, C, rfl, hA, hA2⟩ := hS
  rcases A with _ | b
  · have hm := List.eq_nil_of_length_eq_zero (hA rfl)
    subst hm
    obtain ⟨A', C', rfl, hC', h1, _⟩ := hO.opened
    have hr := append_none2 w o.type A' l.length C' C hC' h1
    refine wpList_plain hgd fun K hK => ?_
    unfold Oper.wp execOp
    simp only [ho, resolve, invoke, builtin, Sem.run_bind, Sem.run_pure, Result.andThen_ok, List.map_toArray, List.map_cons, List.map_nil, hs, hx, List.length_nil, hr]
    exact hK _ _ (hn _ w (by rw [List.append_nil]; exact hO) (Below.refl _ _))
  · refine wpList_append_own w hgd s x _ ho base 3 i _ 1 8 Tryd.underlying22 hi' hz hs1 hb rfl (by omega) v l.length (l.map (Value.int .i64)) hs hO b m.length C (m.map (Value.int .i64)) hx (by rw [List.length_map, Nat.mul_one]) ?_
      (fun u hu => by obtain ⟨z, _, rfl⟩ := List.mem_map.1 hu; rfl) (by simp only [maxLen]; omega) (by omega) hbase ?_
    · intro j u hu
      rw [List.getElem?_map] at hu
      rcases hz' : m[j]? with _ | z
      · rw [hz'] at hu; cases hu
      · rw [hz'] at hu
        cases hu
        rcases hA2 b rfl with rfl | ⟨g, off, rfl, hc⟩
        · cases hz'
        · rw [plain_add]; exact hc j z hz'
    · intro v' w' how hgr _
      have hbel : Below base w w' := (Below.refl _ _).grown hgr hbase (fun g e => by
        rcases hO.2 with ⟨rfl, _⟩ | ⟨g', cap, cur, rfl, h2, _⟩
        · cases e
        · cases e; exact h2)
      refine hn v' w' ?_ hbel
      unfold OwnI
      rw [List.length_append, List.map_append]
      exact how
end
end Go.Proofs.YtbeggdahbhfhpaaDoor
