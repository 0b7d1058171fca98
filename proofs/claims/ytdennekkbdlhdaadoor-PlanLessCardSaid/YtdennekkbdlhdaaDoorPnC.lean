/-
  Whether a demand may be: its tasks, its streams, and whole.
-/
import Derived.Test.YtdennekkbdlhdaaDoorPnB
namespace Go.Proofs.YtdennekkbdlhdaaDoor
open Go.RowKit Go.Shelf
attribute [local go_sem] Oper.semAt_some
set_option linter.unusedVariables false
set_option linter.unusedSimpArgs false
set_option maxRecDepth 100000

theorem all_next {α : Type} {p : α → Bool} {l : List α} {d : α} {k : Nat} (h : k < l.length) : (l.take (k + 1)).all p = ((l.take k).all p && p (l.getD k d)) := by
  rw [take_more l d k h, List.all_append]; simp
theorem all_not {α : Type} {p : α → Bool} {l : List α} {d : α} {k : Nat} (h : k < l.length) (hp : p (l.getD k d) = false) : l.all p = false := by
  rw [Bool.eq_false_iff]
  intro h2
  rw [List.all_eq_true] at h2
  have := h2 (l.getD k d) (by rw [List.getD_eq_getElem?_getD, List.getElem?_eq_getElem h]; exact List.getElem_mem _)
  rw [this] at hp; cases hp

set_option maxHeartbeats 1000000 in
theorem tasksMay_at (d : Dm) (a : Da) (w : World) (h : DmAt w d a) : Calls Tryd.prog 19 #[d.val a] w fun e w' => e = .returned (.bool (tasksB d)) ∧ Below w.heap.size w w' := by
  have HD := hide (fun W (hb : Below w.heap.size w W) => h.tasks.of_below hb (Nat.le_refl _))
  have HBx := hide (fun t => dm_box w d a t)
  have HB := hide (fun t => bal w (.cells (d.cells a) t))
  unfold Dm.cells at HB HBx
  have HT0 := hide (fun (h : 32 < d.tasks.length) => show tasksB d = false by unfold tasksB; rw [decide_eq_false (by omega)]; rfl)
  have HT1 := hide (fun (h1 : d.tasks.length ≤ 32) (h : (d.tasks.take d.tasks.length).all (tkB d.nodes) = true) => show tasksB d = true by rw [List.take_length] at h; unfold tasksB; rw [h, decide_eq_true h1]; rfl)
  have HT2 := hide (fun (h1 : d.tasks.length ≤ 32) k (hk : k < d.tasks.length) (h : tkB d.nodes (d.tasks.getD k default) = false) => show tasksB d = false by unfold tasksB; rw [all_not hk h]; simp)
  have HNx := hide (fun k (hk : k < d.tasks.length) => all_next (p := tkB d.nodes) (d := default) hk)
  unfold Dm.val
  obtain ⟨N, hN⟩ : ∃ N, N = d.tasks.length := ⟨_, rfl⟩
  have HN := hide hN
  rw [← hN] at HT0 HT1 HT2 HNx HBx HB ⊢
  have hNm : N ≤ 281474976710656 := by rw [hN]; exact h.sz.tasks
  clear hN h
  go_enter Tryd.func19, Tryd.ntmps19
  by_cases hl : N ≤ 32
  · go_wp2_with fail
    have HB0 := hide (HB.out 25)
    have HX0 := hide (HBx.out 25)
    clear HB HBx HT0
    generalize w.alloc (.cells #[.int .i64 d.nodes, .int .i64 d.drift, .int .i64 d.reading, .int .i64 d.rejoin, .int .i64 d.quota, .slice a.tA N a.tC, .slice a.sA d.streams.length a.sC] 25) = W0 at *
    go_loopw [12] (fun kv wr => ∃ k : Nat, k ≤ N ∧ kv = .int .i64 k ∧ (d.tasks.take k).all (tkB d.nodes) = true ∧ Below w.heap.size w wr ∧ DmB wr w.heap.size d a) (fun kv _ => N - (intOf kv).toNat)
    case atStart => exact ⟨0, Nat.zero_le _, rfl, rfl, HB0.out, HX0.out⟩
    case round =>
      obtain ⟨k, hk, rfl, hall, hb, hx⟩ := hrel
      have HA := hide hall
      have HBr := hide hb
      have HXr := hide hx
      clear hall
      by_cases hlt : k < N
      · have hkl : k < d.tasks.length := by rw [← HN.out]; exact hlt
        obtain ⟨b, off, hA, hbl, c0, c1, c2⟩ := (HD.out _ hb).at hkl
        rw [hA]
        have HTn := hide (HNx.out k hlt)
        rw [HA.out] at HTn
        have HTf := hide (HT2.out hl k hlt)
        generalize d.tasks.getD k default = t at *
        have HBn := hide (bal wr (.cells #[.int .i64 t.node, .int .i64 t.mem, .int .i64 t.share] 43))
        have n0 := hx.c0
        have xl := hx.lt
        have HK := hide (show tkB d.nodes t = (oneZ t.node d.nodes && (inD t.mem 0 256 && inD t.share 0 d.nodes)) from rfl)
        have H1 := hide (isOne_at t.node d.nodes)
        have H2 := hide (within_at t.mem 0 256)
        have H3 := hide (within_at t.share 0 d.nodes)
        generalize oneZ t.node d.nodes = x1 at *
        generalize inD t.mem 0 256 = x2 at *
        generalize inD t.share 0 d.nodes = x3 at *
        clear hx hb hkl
        cases x1 with
        | false =>
          have HV := hide (HTf.out HK.out)
          go_wp2_with fail
          refine (H1.out _).mono ?_
          rintro e w1 ⟨rfl, rfl⟩
          go_wp2_with fail
          go_ret
          exact ⟨by rw [HV.out]; rfl, HBr.out.trans (HBn.out.mono HBr.out.size)⟩
        | true =>
          cases x2 with
          | false =>
            have HV := hide (HTf.out HK.out)
            go_wp2_with fail
            refine (H1.out _).mono ?_
            rintro e w1 ⟨rfl, rfl⟩
            go_wp2_with fail
            refine (H2.out _).mono ?_
            rintro e w1 ⟨rfl, rfl⟩
            go_wp2_with fail
            go_ret
            exact ⟨by rw [HV.out]; rfl, HBr.out.trans (HBn.out.mono HBr.out.size)⟩
          | true =>
            cases x3 with
            | false =>
              have HV := hide (HTf.out HK.out)
              go_wp2_with fail
              refine (H1.out _).mono ?_
              rintro e w1 ⟨rfl, rfl⟩
              go_wp2_with fail
              refine (H2.out _).mono ?_
              rintro e w1 ⟨rfl, rfl⟩
              go_wp2_with fail
              refine (H3.out _).mono ?_
              rintro e w1 ⟨rfl, rfl⟩
              go_wp2_with fail
              go_ret
              exact ⟨by rw [HV.out]; rfl, HBr.out.trans (HBn.out.mono HBr.out.size)⟩
            | true =>
              have HV := hide (show (d.tasks.take (k + 1)).all (tkB d.nodes) = true by rw [HTn.out, HK.out]; rfl)
              go_wp2_with fail
              refine (H1.out _).mono ?_
              rintro e w1 ⟨rfl, rfl⟩
              go_wp2_with fail
              refine (H2.out _).mono ?_
              rintro e w1 ⟨rfl, rfl⟩
              go_wp2_with fail
              refine (H3.out _).mono ?_
              rintro e w1 ⟨rfl, rfl⟩
              go_wp2_with fail
              go_roundw
              case rel => exact ⟨k + 1, hlt, by go_num, HV.out, HBr.out.trans (HBn.out.mono HBr.out.size), HXr.out.below HBn.out HXr.out.lt⟩
              case measure => simp [intOf]; omega
      · obtain rfl : k = N := by omega
        rw [HN.out] at HA
        have HV := hide (HT1.out hl (by rw [HN.out]; exact HA.out))
        clear hb hx
        go_wp2_with fail
        go_ret
        exact ⟨by rw [HV.out]; rfl, HBr.out⟩
  · have HV := hide (HT0.out (by omega))
    go_wp2_with fail
    go_ret
    exact ⟨by rw [HV.out]; rfl, HB.out _⟩
theorem portN_next (l : List Sm) (k : Nat) (h : k < l.length) : portN (l.take (k + 1)) = portN (l.take k) + (1 + (l.getD k default).dests.length) := by
  rw [take_more l default k h, portN_snoc]
set_option maxHeartbeats 1000000 in
theorem streamsMay_at (d : Dm) (a : Da) (w : World) (h : DmAt w d a) : Calls Tryd.prog 20 #[d.val a] w fun e w' => e = .returned (.bool (streamsB d)) ∧ Below w.heap.size w w' := by
  have HD := hide (fun W (hb : Below w.heap.size w W) => h.streams.of_below hb (Nat.le_refl _))
  have HBx := hide (fun t => dm_box w d a t)
  have HB := hide (fun t => bal w (.cells (d.cells a) t))
  unfold Dm.cells at HB HBx
  have HT0 := hide (fun (h : 64 < d.streams.length) => show streamsB d = false by unfold streamsB; rw [decide_eq_false (by omega)]; rfl)
  have HT1 := hide (fun (h1 : d.streams.length ≤ 64) (h : (d.streams.take d.streams.length).all (smB d.tasks.length) = true) => show streamsB d = decide (portN (d.streams.take d.streams.length) ≤ 64) by rw [List.take_length] at h ⊢; unfold streamsB; rw [h, decide_eq_true h1]; rfl)
  have HT2 := hide (fun (h1 : d.streams.length ≤ 64) k (hk : k < d.streams.length) (h : smB d.tasks.length (d.streams.getD k default) = false) => show streamsB d = false by unfold streamsB; rw [all_not hk h]; simp)
  have HNx := hide (fun k (hk : k < d.streams.length) => all_next (p := smB d.tasks.length) (d := default) hk)
  have HPx := hide (fun k (hk : k < d.streams.length) => portN_next d.streams k hk)
  unfold Dm.val
  obtain ⟨N, hN⟩ : ∃ N, N = d.streams.length := ⟨_, rfl⟩
  have HN := hide hN
  rw [← hN] at HT0 HT1 HT2 HNx HPx HBx HB ⊢
  have hNm : N ≤ 281474976710656 := by rw [hN]; exact h.sz.streams
  have HDs := hide h.sz.dests
  have hTm : d.tasks.length ≤ 281474976710656 := h.sz.tasks
  clear hN h
  go_enter Tryd.func20, Tryd.ntmps20
  by_cases hl : N ≤ 64
  · go_wp2_with fail
    have HB0 := hide (HB.out 25)
    have HX0 := hide (HBx.out 25)
    clear HB HBx HT0
    generalize w.alloc (.cells #[.int .i64 d.nodes, .int .i64 d.drift, .int .i64 d.reading, .int .i64 d.rejoin, .int .i64 d.quota, .slice a.tA d.tasks.length a.tC, .slice a.sA N a.sC] 25) = W0 at *
    go_loopw [3, 13] (fun pv kv wr => ∃ k : Nat, k ≤ N ∧ kv = .int .i64 k ∧ (∃ p : Nat, p = portN (d.streams.take k) ∧ pv = .int .i64 p ∧ p ≤ k * 281474976710657) ∧ (d.streams.take k).all (smB d.tasks.length) = true ∧ Below w.heap.size w wr ∧ DmB wr w.heap.size d a) (fun _ kv _ => N - (intOf kv).toNat)
    case atStart => exact ⟨0, Nat.zero_le _, rfl, ⟨0, rfl, rfl, by omega⟩, rfl, HB0.out, HX0.out⟩
    case round =>
      obtain ⟨k, hk, rfl, ⟨p, hp, rfl, hpl⟩, hall, hb, hx⟩ := hrel
      have HA := hide hall
      have HBr := hide hb
      have HXr := hide hx
      have HP := hide hp
      clear hall hp
      by_cases hlt : k < N
      · have hkl : k < d.streams.length := by rw [← HN.out]; exact hlt
        obtain ⟨b, off, Ai, ci, hA, hbl, c0, c1, c2, c3, c4, c5, hci, hcm, hI⟩ := (HD.out _ hb).at hkl
        rw [hA]
        have HTn := hide (HNx.out k hlt)
        rw [HA.out] at HTn
        have HTf := hide (HT2.out hl k hlt)
        have HPn := hide (HPx.out k hlt)
        have hds := HDs.out k hkl
        rw [← HP.out] at HPn
        generalize d.streams.getD k default = t at *
        have hb1 := bal wr (.cells #[.int .i64 t.src, .slice Ai t.dests.length ci, .int .i64 t.kind, .int .i64 t.size, .int .i64 t.depth, .int .i64 t.fresh] 53)
        have HBn := hide hb1
        have HM := hide (streamMay_at t Ai ci d.tasks.length _ (hI.of_below hb1 (Nat.le_refl _)) (by omega))
        unfold Sm.v at HM
        have hx1 := hx.below hb1 hx.lt
        have HX1 := hide hx1
        obtain ⟨xl, _, _, _, _, _, n5, _⟩ := hx1
        have HSb := hide (show SmB (wr.alloc (.cells #[.int .i64 t.src, .slice Ai t.dests.length ci, .int .i64 t.kind, .int .i64 t.size, .int .i64 t.depth, .int .i64 t.fresh] 53)) wr.heap.size t Ai ci from SmB.of (heap_alloc_new wr _))
        generalize smB d.tasks.length t = x1 at *
        obtain ⟨m, hm⟩ : ∃ m, m = t.dests.length := ⟨_, rfl⟩
        have HMm := hide hm
        rw [← hm] at HBn HX1 HM HPn HSb xl n5 c1 hci hds
        clear hm
        clear hx hb hkl hI hb1 hcm
        cases x1 with
        | false =>
          have HV := hide (HTf.out rfl)
          have hsl : wr.heap.size < (wr.alloc (.cells #[.int .i64 t.src, .slice Ai m ci, .int .i64 t.kind, .int .i64 t.size, .int .i64 t.depth, .int .i64 t.fresh] 53)).heap.size := by simp
          go_wp2_with fail
          refine HM.out.mono ?_
          rintro e w1 ⟨rfl, hb2⟩
          have HB2 := hide (HBr.out.trans ((HBn.out.trans (hb2.mono (by simp))).mono HBr.out.size))
          clear hb2
          go_wp2_with fail
          go_ret
          exact ⟨by rw [HV.out]; rfl, HB2.out⟩
        | true =>
          have HV := hide (show (d.streams.take (k + 1)).all (smB d.tasks.length) = true by rw [HTn.out]; rfl)
          go_wp2_with fail
          refine HM.out.mono ?_
          rintro e w1 ⟨rfl, hb2⟩
          have HB2 := hide (HBr.out.trans ((HBn.out.trans (hb2.mono (by simp))).mono HBr.out.size))
          have HX2 := hide (HX1.out.below hb2 HX1.out.lt)
          have hs2 := HSb.out.below hb2 HSb.out.lt
          obtain ⟨sl, _, s1, _⟩ := hs2
          rw [← HMm.out] at s1
          clear hb2 n5 c0 c1 c2 c3 c4 c5
          go_wp2_with fail
          go_roundw
          case rel => exact ⟨k + 1, hlt, by go_num, ⟨p + (1 + m), HPn.out.symm, by go_num, by omega⟩, HV.out, HB2.out, HX2.out⟩
          case measure => simp [intOf]; omega
      · obtain rfl : k = N := by omega
        rw [HN.out] at HA HP
        have HV0 := hide (HT1.out hl (by rw [HN.out]; exact HA.out))
        rw [HN.out, ← HP.out] at HV0
        clear hb hx
        have HV := hide (show ∀ v : Bool, v = decide (p ≤ 64) → Ending.returned (.bool v) = .returned (.bool (streamsB d)) from fun v h => by rw [h, HV0.out])
        go_wp2_with fail
        go_ret
        exact ⟨HV.out _ (by first | rfl | (congr 1; apply propext; omega)), HBr.out⟩
  · have HV := hide (HT0.out (by omega))
    go_wp2_with fail
    go_ret
    exact ⟨by rw [HV.out]; rfl, HB.out _⟩
theorem may_at (d : Dm) (a : Da) (w : World) (h : DmAt w d a) : Calls Tryd.prog 9 #[d.val a] w fun e w' => e = .returned (.bool (mayD d)) ∧ Below w.heap.size w w' := by
  have HB0 := hide (bal w (.cells (d.cells a) 25))
  have HX0 := hide (dm_box w d a 25)
  have HN := hide (show mayD d = (numB d && (tasksB d && streamsB d)) from rfl)
  have H1 := hide (numbers_at d a)
  have H2 := hide (fun W (hb : Below w.heap.size w W) => tasksMay_at d a W (h.of_below hb (Nat.le_refl _)))
  have H3 := hide (fun W (hb : Below w.heap.size w W) => streamsMay_at d a W (h.of_below hb (Nat.le_refl _)))
  generalize numB d = x1 at *
  generalize tasksB d = x2 at *
  generalize streamsB d = x3 at *
  unfold Dm.cells at HB0 HX0
  unfold Dm.val at *
  clear h
  go_enter Tryd.func9, Tryd.ntmps9
  have hsl : w.heap.size < (w.alloc (.cells #[.int .i64 d.nodes, .int .i64 d.drift, .int .i64 d.reading, .int .i64 d.rejoin, .int .i64 d.quota, .slice a.tA d.tasks.length a.tC, .slice a.sA d.streams.length a.sC] 25)).heap.size := by simp
  cases x1 with
  | false =>
    go_wp2_with fail
    refine (H1.out _).mono ?_
    rintro e w1 ⟨rfl, hb1⟩
    have HB1 := hide (HB0.out.trans (hb1.mono (by simp)))
    clear hb1
    go_wp2_with fail
    go_ret
    exact ⟨by rw [HN.out]; rfl, HB1.out⟩
  | true =>
    go_wp2_with fail
    refine (H1.out _).mono ?_
    rintro e w1 ⟨rfl, hb1⟩
    have HB1 := hide (HB0.out.trans (hb1.mono (by simp)))
    have hx1 := HX0.out.below hb1 HX0.out.lt
    have HX1 := hide hx1
    obtain ⟨l1, a0, a1, a2, a3, a4, a5, a6⟩ := hx1
    clear hb1 hsl
    cases x2 with
    | false =>
      go_wp2_with fail
      refine (H2.out _ HB1.out).mono ?_
      rintro e w2 ⟨rfl, hb2⟩
      have HB2 := hide (HB1.out.trans (hb2.mono HB1.out.size))
      clear hb2
      go_wp2_with fail
      go_ret
      exact ⟨by rw [HN.out]; rfl, HB2.out⟩
    | true =>
      go_wp2_with fail
      refine (H2.out _ HB1.out).mono ?_
      rintro e w2 ⟨rfl, hb2⟩
      have HB2 := hide (HB1.out.trans (hb2.mono HB1.out.size))
      have hx2 := HX1.out.below hb2 HX1.out.lt
      clear l1 a0 a1 a2 a3 a4 a5 a6 hb2
      obtain ⟨l1, a0, a1, a2, a3, a4, a5, a6⟩ := hx2
      go_wp2_with fail
      refine (H3.out _ HB2.out).mono ?_
      rintro e w3 ⟨rfl, hb3⟩
      have HB3 := hide (HB2.out.trans (hb3.mono HB2.out.size))
      clear hb3
      go_wp2_with fail
      go_ret
      exact ⟨by rw [HN.out]; rfl, HB3.out⟩
end Go.Proofs.YtdennekkbdlhdaaDoor
