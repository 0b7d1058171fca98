/-
  A clock's readings, told one by one.
-/
import Derived.Test.YtdfpeilflinmhaaDoorClkB
import Derived.Test.YtdfpeilflinmhaaDoorRng
import Derived.Sort.BigQuietIn
import Derived.Laws.BitsAllLaws
namespace Go.Proofs.YtdfpeilflinmhaaDoor
open Go.RowKit Go.Deep Go.Sort
attribute [local go_sem] Oper.semAt_some
set_option linter.unusedVariables false
set_option linter.unusedSimpArgs false

/-- is a node among members? -/
def isM (mb : Int) (n : Nat) : Bool := decide (mb / (2 : Int) ^ n % 2 = 1)
/-- what counts of a node's reading -/
def valF (k : Ck) (mb own : Int) (n : Nat) : Option Int :=
  if isM mb n then (if (n : Int) = own then some 0 else if (k.rd.getD n default).2 then some (k.rd.getD n default).1 else none) else none
theorem and_one_u16 {mb : Int} (h : 0 ≤ mb ∧ mb < 65536) (n : Nat) : bits .and .u16 (mb / (2 : Int) ^ n) 1 = mb / (2 : Int) ^ n % 2 := by
  obtain ⟨m, rfl⟩ := Int.eq_ofNat_of_zero_le h.1
  have e : ((m : Int) / (2 : Int) ^ n) = ((m / 2 ^ n : Nat) : Int) := by rw [Int.natCast_ediv]; congr 1
  rw [e]
  have h1 : m / 2 ^ n < 65536 := Nat.lt_of_le_of_lt (Nat.div_le_self _ _) (by omega)
  rw [show (1 : Int) = ((1 : Nat) : Int) from rfl, u16_and_nat _ _ h1 (by omega), Nat.and_one_is_mod]
  rfl
def readsF (k : Ck) (mb own : Int) : List Int := (List.range k.nodes.toNat).filterMap (valF k mb own)

set_option maxRecDepth 100000 in
set_option maxHeartbeats 1000000 in
theorem reads1_all {g N : Nat} {k : Ck} {mb own : Int} (hN : k.nodes = N) (hN16 : N ≤ 16) (hmb : 0 ≤ mb ∧ mb < 65536) (d l B1 B2 B3 : Nat) (W : World) (R : Ending → World → Prop) (I : Nat → World → Prop) (h0 : ∀ W', Below W.heap.size W W' → I 0 W')
    (hI : ∀ n W', I n W' → CkAt W' g k ∧ W'.cell? ⟨B1, 0, none⟩ = some (.pointer (some ⟨g, 0, none⟩)) ∧ W'.cell? ⟨B2, 0, none⟩ = some (.int .i64 own) ∧ W'.cell? ⟨B3, 0, none⟩ = some (.int .u16 mb))
    (hK : ∀ n W1 W2, n < N → valF k mb own n = none → I n W1 → Below W1.heap.size W1 W2 → I (n + 1) W2)
    (hY : ∀ n v W1 W2, n < N → valF k mb own n = some v → I n W1 → Below W1.heap.size W1 W2 → YieldAt Fence.wide (d - 1) Tryd.prog l #[.int .i64 v] W2 fun e W' => e = .returned (.bool true) ∧ I (n + 1) W')
    (hR : ∀ W' v, I N W' → R (.returned v) W') :
    CallsIn Fence.wide d Tryd.prog 97 (#[.func (.yield l) #[] #[]] ++ #[.pointer (some ⟨B1, 0, none⟩), .pointer (some ⟨B2, 0, none⟩), .pointer (some ⟨B3, 0, none⟩)]) W R := by
  obtain ⟨x0, b1, b2, b3⟩ := hI 0 W (h0 W (Below.refl _ _))
  have c1 : W.cell? ⟨g, 1, none⟩ = some (.int .i64 N) := by rw [← hN]; exact x0.cell 1 _ rfl
  have H0 := hide h0; have HY := hide hY; have HK := hide hK; have HI := hide hI
  have hsl : ∀ W : World, (Instr.sliceAt 157 (.pointer (some ⟨g, 7, none⟩)) none (some (.int .i64 N)) none).run Tryd.prog W = .ok (.slice (some ⟨g, 7, none⟩) N 16) W := by
    intro W
    rw [run_sliceAt_array_h W 157 ⟨g, 7, none⟩ (by kernel_rfl) .i64 N (by omega) (by rw [show Tryd.prog.arrayLen 157 = 16 by kernel_rfl]; omega)]
    simp [slicedAt, show Tryd.prog.arrayLen 157 = 16 by kernel_rfl, show Tryd.prog.elem 157 = 156 by kernel_rfl, Tryd.sizeOf156]
    rfl
  clear x0 h0 hY hK hI
  refine callsIn_of_wp Tryd.func97 rfl trivial ?_ rfl
  simp only [Tryd.ntmps97, List.size_toArray, List.length_cons, List.length_nil, Nat.reduceAdd, Nat.reduceSub, Array.replicate_succ, Array.replicate_zero, List.push_toArray, List.append_toArray, List.nil_append, List.cons_append]
  gi_wp2
  refine wpIn_region_quiet_lit (F := Fence.wide) rfl (by kernel_rfl) (by kernel_rfl) ?_
  repeat (gi_big_quiet_step (fail))
  refine wpQuietIn_nil ?_
  rintro _ ⟨nq, rfl⟩
  gi_wp2
  gi_loopw [17] (fun i wr => ∃ n : Nat, n ≤ N ∧ i = .int .i64 n ∧ I n wr) (fun i _ => N - (intOf i).toNat)
  case atStart => exact ⟨0, by omega, rfl, H0.out _ (cdrewN (Below.refl _ _) _)⟩
  case round =>
    obtain ⟨n, hn, rfl, hi⟩ := hrel
    have HIn := hide hi
    clear hi H0 b1 b2 b3 c1
    by_cases hlt : n < N
    · obtain ⟨x, b1, b2, b3⟩ := HI.out n wr HIn.out
      obtain ⟨v1, v2⟩ := x.rdv (n := n) (by omega)
      clear x
      have hl2 := World.block_lt_of_cell? wr _ b2
      have hl3 := World.block_lt_of_cell? wr _ b3
      have a2 : ∀ o, (wr.alloc o).cell? ⟨B2, 0, none⟩ = some (.int .i64 own) := fun o => by rw [bcl (bal wr o) hl2]; exact b2
      have a3 : ∀ o, (wr.alloc o).cell? ⟨B3, 0, none⟩ = some (.int .u16 mb) := fun o => by rw [bcl (bal wr o) hl3]; exact b3
      have HV : Hid (valF k mb own n = if isM mb n then (if (n : Int) = own then some 0 else if (k.rd.getD n default).2 then some (k.rd.getD n default).1 else none) else none) := rfl
      generalize (k.rd.getD n default).1 = r1 at *
      generalize (k.rd.getD n default).2 = r2 at *
      have hand := and_one_u16 hmb n
      have hW3 : ∀ o, Below wr.heap.size wr (wr.alloc o) := fun o => bal wr o
      have HW3 := hide hW3
      clear hW3
      by_cases hM : mb / (2 : Int) ^ n % 2 = 1
      · have HM : Hid (isM mb n = true) := by show _ = _; unfold isM; rw [decide_eq_true hM]
        rw [hM] at hand
        clear hM
        by_cases ho : (n : Int) = own
        · have HV2 : Hid (valF k mb own n = some 0) := by show _ = _; rw [HV.out, HM.out, if_pos rfl, if_pos ho]
          clear HV HM
          obtain ⟨fn, tmps, assign, body, hy, hRR⟩ := HY.out n 0 wr _ hlt HV2.out HIn.out (HW3.out (.cells #[.int .i64 0, .bool true] 156))
          subst ho
          gi_wp2
          refine ⟨(fun h => by cases h), hRR.mono ?_⟩
          rintro e W3 ⟨rfl, hi'⟩
          have HI' := hide hi'
          clear hi' hy hRR
          gi_wp2
          go_roundw
          case rel => exact ⟨n + 1, by omega, by go_num, HI'.out⟩
          case measure => simp [intOf]; omega
        · cases r2 with
          | true =>
            have HV2 : Hid (valF k mb own n = some r1) := by show _ = _; rw [HV.out, HM.out, if_pos rfl, if_neg ho, if_pos rfl]
            clear HV HM
            obtain ⟨fn, tmps, assign, body, hy, hRR⟩ := HY.out n r1 wr _ hlt HV2.out HIn.out (HW3.out (.cells #[.int .i64 r1, .bool true] 156))
            gi_wp2
            refine ⟨(fun h => by cases h), hRR.mono ?_⟩
            rintro e W3 ⟨rfl, hi'⟩
            have HI' := hide hi'
            clear hi' hy hRR
            gi_wp2
            go_roundw
            case rel => exact ⟨n + 1, by omega, by go_num, HI'.out⟩
            case measure => simp [intOf]; omega
          | false =>
            have HV2 : Hid (valF k mb own n = none) := by show _ = _; rw [HV.out, HM.out, if_pos rfl, if_neg ho, if_neg (by decide)]
            clear HV HM
            gi_wp2
            refine ⟨(fun f h => by cases h), ?_⟩
            gi_wp2
            go_roundw
            case rel => exact ⟨n + 1, by omega, by go_num, HK.out n wr _ hlt HV2.out HIn.out (HW3.out _)⟩
            case measure => simp [intOf]; omega
      · have HM : Hid (isM mb n = false) := by show _ = _; unfold isM; rw [decide_eq_false hM]
        have hM0 : mb / (2 : Int) ^ n % 2 = 0 := by omega
        rw [hM0] at hand
        clear hM hM0
        have HV2 : Hid (valF k mb own n = none) := by show _ = _; rw [HV.out, HM.out, if_neg (by decide)]
        clear HV HM
        by_cases ho : (n : Int) = own
        · subst ho
          gi_wp2
          refine ⟨(fun f h => by cases h), ?_⟩
          gi_wp2
          go_roundw
          case rel => exact ⟨n + 1, by omega, by go_num, HK.out n wr _ hlt HV2.out HIn.out (HW3.out _)⟩
          case measure => simp [intOf]; omega
        · gi_wp2
          refine ⟨(fun f h => by cases h), ?_⟩
          gi_wp2
          go_roundw
          case rel => exact ⟨n + 1, by omega, by go_num, HK.out n wr _ hlt HV2.out HIn.out (HW3.out _)⟩
          case measure => simp [intOf]; omega
    · obtain rfl : n = N := by omega
      gi_wp2
      go_end0
      exact hR _ _ HIn.out
end Go.Proofs.YtdfpeilflinmhaaDoor
