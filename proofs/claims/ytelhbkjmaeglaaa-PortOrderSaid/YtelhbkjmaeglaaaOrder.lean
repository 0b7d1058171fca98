/-
  The walk of PortOrder.
-/
import Derived.Test.YtelhbkjmaeglaaaTwo
import Derived.Deep.LoopGhost
import Derived.Deep.DeepCutAuto
import Derived.Deep.CutBlock
namespace Go.Proofs.Ytelhbkjmaeglaaa
open Go.RowKit Go.Shelf Go.ChangeShapes
set_option linter.unusedVariables false

theorem xor_u8' {c : Nat} (h : c < 256) : bits .xor .u8 IntKind.u8.max (c : Int) = ((255 - c : Nat) : Int) := by
  have : ∀ c : Fin 256, bits .xor .u8 IntKind.u8.max ((c.val : Nat) : Int) = ((255 - c.val : Nat) : Int) := by decide +kernel
  exact this ⟨c, h⟩
theorem xor_u8 {c : Nat} (h : c < 256) : bits .xor .u8 (if IntKind.u8.signed = true then -1 else IntKind.u8.max) (c : Int) = ((255 - c : Nat) : Int) := xor_u8' h
theorem most_at (a m : Nat) (w : World) (ha : a < 256) (hm : 0 < m ∧ m ≤ 1000) : Calls Try.prog 23 #[.int .u8 a, .int .i64 m] w fun e w' => e = .returned (.int .i64 (1 + (a % m : Nat) : Nat)) ∧ w = w' := by
  have v1 : IntKind.i64.wrap (a : Int) = (a : Int) := i64_id (by omega) (by omega)
  have v2 : (a : Int).tmod m = ((a % m : Nat) : Int) := by rw [Int.tmod_eq_emod_of_nonneg (by omega)]; rfl
  have hlt : a % m < m := Nat.mod_lt _ (by omega)
  have i0 : ((m : Int) = 0) = False := by simp; omega
  obtain ⟨q, hq⟩ : ∃ q, a % m = q := ⟨_, rfl⟩
  rw [hq] at v2 hlt ⊢
  have v3 : IntKind.i64.wrap (q : Int) = (q : Int) := i64_id (by omega) (by omega)
  have v4 : IntKind.i64.wrap (1 + (q : Int)) = 1 + (q : Int) := i64_id (by omega) (by omega)
  go_enter Try.func23, Try.ntmps23
  go_wp2
  go_ret
  exact ⟨by simp, rfl⟩

set_option maxRecDepth 100000 in
set_option maxHeartbeats 1000000 in
theorem take_queue_none {base b : Nat} {P : Prm} {h : Value} {lost : Bool} {w : World} (x : BoxW w base b P h [] lost) (hd : P.d = 1) (hg : P.g = .func (.func 43) #[] #[]) :
    Calls Try.prog 19 #[.pointer (some ⟨b, 0, none⟩)] w fun e w' => e = .returned (.tuple #[.slice none 0 0, .bool false]) ∧ Below w.heap.size w w' := by
  have c0 := x.cell 0 _ rfl
  have c3 : w.cell? ⟨b, 3, none⟩ = some (.int .i64 1) := by rw [← hd]; exact x.cell 3 _ rfl
  have c12 : w.cell? ⟨b, 12, none⟩ = some (.func (.func 43) #[] #[]) := by rw [← hg]; exact x.cell 12 _ rfl
  have hmade := isMade_at b w c0
  have hl := leave_none x 0
  clear c0
  go_enter Try.func19, Try.ntmps19
  go_wp2_with fail
  refine hmade.mono ?_
  rintro e w' ⟨rfl, rfl⟩
  clear hmade
  go_wp2_with fail
  refine hl.mono ?_
  rintro e w2 ⟨rfl, h1⟩
  have H1 := hide h1
  clear h1 hl x
  go_wp2
  go_ret2
  exact ⟨rfl, H1.out⟩

set_option maxRecDepth 100000 in
set_option maxHeartbeats 4000000 in
theorem order_any (a : Nat) (l : List Nat) (N : Nat) (A : Option Addr) (cap : Nat) (t : List Bool) (M : Nat) (T : Option Addr) (capt : Nat) (w : World) (ha : a < 256) (hN : l.length = N) (hcap : N ≤ cap) (hmax : cap ≤ maxLen) (hB : Bytes w A l) (hM : t.length = M) (hcapt : M ≤ capt) (hmaxt : capt ≤ maxLen) (hT : Bools w T t) :
    Calls Try.prog 5 #[.int .u8 a, .slice A N cap, .slice T M capt] w fun e w' => e = .returned (.bool true) ∧ Below w.heap.size w w' := by
  unfold maxLen at hmax hmaxt
  have HL := hide hB; have HN := hide hN; have HT := hide hT; have HM := hide hM
  clear hB hN hT hM
  go_enter Try.func5, Try.ntmps5
  go_wp2_with fail
  refine (alive_any w).mono ?_
  rintro e w1 ⟨rfl, hb1⟩
  have B1 := hide hb1
  have hz1 := hb1.size
  clear hb1
  by_cases hlen : 1000 < N
  · go_wp2
    go_ret
    exact ⟨rfl, B1.out⟩
  go_wp2_with fail
  refine (most_at a 8 w1 ha (by omega)).mono ?_
  rintro e w1' ⟨rfl, rfl⟩
  obtain ⟨n, hn⟩ : ∃ n : Nat, 1 + a % 8 = n := ⟨_, rfl⟩
  have hn8 : 1 ≤ n ∧ n ≤ 8 := by omega
  rw [hn]
  go_wp2_with fail
  refine (queue_port 1 2 n w1).mono ?_
  rintro e w2 ⟨rfl, hb2⟩
  have B2 := hide (B1.out.trans (hb2.mono hz1))
  have hz2 := hb2.size
  clear hb2
  go_wp2_with fail
  refine (new_queue 2 n w2 (by omega) (by omega)).mono ?_
  rintro e w3 ⟨⟨bs, rfl, x0⟩, hb3⟩
  have B3 := hide (B2.out.trans (hb3.mono (by omega)))
  have hz3 := hb3.size
  have X3 := hide x0
  clear hb3 x0
  go_wp2_with fail
  refine (queue_port 2 2 n w3).mono ?_
  rintro e w4 ⟨rfl, hb4⟩
  have B4 := hide (B3.out.trans (hb4.mono (by omega)))
  have X4 := hide (X3.out.later hb4)
  have hz4 := hb4.size
  clear hb4 X3
  go_wp2_with fail
  refine (new_dest 2 n w4 (by omega) (by omega)).mono ?_
  rintro e w5 ⟨⟨bd, rfl, y0⟩, hb5⟩
  have B5 := hide (B4.out.trans (hb5.mono (by omega)))
  have X5 := hide (X4.out.later hb5)
  have Y5 := hide (y0.from (base' := w2.heap.size) (by omega))
  have hne : bs ≠ bd := by have := X4.out.lt; have := y0.lo; omega
  have hz5 := hb5.size
  clear hb5 X4 y0
  go_wp2_with fail
  go_loopg [13, 14, 15] N (fun r v lo i wr => ∃ (k : Nat) (lost : Bool) (q : List Nat) (hs hd : Value) (ms md : List Msg), k + r = N ∧ i = .int .i64 k ∧ lo = .bool lost ∧ q.length ≤ n ∧ Two w w2.heap.size bs bd n wr v lost q hs hd ms md)
  case atStart => exact ⟨0, false, [], _, _, [], [], by omega, rfl, rfl, by simp, ⟨X5.out, Y5.out, rfl, rfl, hne, by intro k hk; simp [Value.ownBlock] at hk, CutB.nil _ _, by simp, by simp, B5.out, by omega⟩⟩
  case round =>
    obtain ⟨k, lost, q, hs, hd, ms, md, hk, rfl, rfl, hq, tw⟩ := hrel
    have TW := hide tw
    clear tw X5 Y5 B5
    by_cases hlt : k ≤ N
    · go_upto_block 2 with fail
      go_cut [13, 14] (fun v lo wc => ∃ (lost : Bool) (q : List Nat) (hs hd : Value) (ms md : List Msg), lo = .bool lost ∧ q.length ≤ n ∧ Two w w2.heap.size bs bd n wc v lost q hs hd ms md ∧ (k = N → q = [] ∧ lost = false))
      case first =>
        go_wp2_with fail
        go_loopg [13, 14] q.length (fun r v lo wr => ∃ (lost : Bool) (q : List Nat) (hs hd : Value) (ms md : List Msg), q.length = r ∧ lo = .bool lost ∧ q.length ≤ n ∧ Two w w2.heap.size bs bd n wr v lost q hs hd ms md)
        case atStart => exact ⟨lost, q, hs, hd, ms, md, rfl, rfl, hq, TW.out⟩
        case round =>
          clear TW hq
          obtain ⟨lost, q, hs, hd, ms, md, rfl, rfl, hq, tw⟩ := hrel
          rcases q with _ | ⟨c, q⟩
          · obtain ⟨A', c', hv, hc1, hc2⟩ := tw.cut.len
            simp only [List.length_nil] at hv
            obtain ⟨hml, hdl⟩ := tw.lens
            obtain rfl : ms = [] := List.eq_nil_of_length_eq_zero (by simpa using hml)
            obtain rfl : md = [] := List.eq_nil_of_length_eq_zero (by simpa using hdl)
            clear hml hdl
            have TW := hide tw
            have hzw : w2.heap.size ≤ wr.heap.size := by have := tw.xs.lt; have := tw.xs.lo; omega
            clear tw
            subst hv
            go_upto_region 12 with fail
            go_cut [78] (fun c wc => ∃ g : Bool, c = .bool g ∧ wc = wr ∧ (g = false → k = N → lost = false))
            case first =>
              as_aux_lemma =>
                by_cases hkM : k < M
                · obtain ⟨bT, offT, hTe, hbT, hcT⟩ := (HT.out.of_below TW.out.bel (Nat.le_refl _)).at (k := k) (by rw [HM.out]; exact hkM)
                  subst hTe
                  obtain ⟨g, hg⟩ : ∃ g, t.getD k false = g := ⟨_, rfl⟩
                  rw [hg] at hcT
                  cases g
                  · by_cases hkN : k = N
                    · subst hkN
                      cases lost <;>
                      · go_wp2
                        go_meet
                        case rel => exact ⟨_, rfl, rfl, by simp⟩
                    · have hkN2 : ¬ ((k : Int) = (N : Int)) := by omega
                      go_wp2
                      go_meet
                      case rel => exact ⟨_, rfl, rfl, fun _ h => absurd h hkN⟩
                  · go_wp2
                    go_meet
                    case rel => exact ⟨_, rfl, rfl, by simp⟩
                · by_cases hkN : k = N
                  · subst hkN
                    cases lost <;>
                    · go_wp2
                      go_meet
                      case rel => exact ⟨_, rfl, rfl, by simp⟩
                  · have hkN2 : ¬ ((k : Int) = (N : Int)) := by omega
                    go_wp2
                    go_meet
                    case rel => exact ⟨_, rfl, rfl, fun _ h => absurd h hkN⟩
            case rest =>
              obtain ⟨g, rfl, rfl, hg⟩ := hcut
              have HG := hide hg
              clear hg
              cases g
              · go_wp2_with fail
                go_meet
                case rel => exact ⟨lost, [], hs, hd, [], [], rfl, by simp, TW.out, fun e => ⟨rfl, HG.out (by trivial) e⟩⟩
              · as_aux_lemma =>
                  clear HG
                  go_wp2_with fail
                  refine (take_queue_none TW.out.xs rfl rfl).mono ?_
                  rintro e wt ⟨rfl, hbt⟩
                  have T2 := hide (TW.out.later hbt hzw)
                  have hzt := hbt.size
                  clear hbt TW
                  cases lost
                  · go_wp2_with fail
                    refine (recv_none T2.out.xd rfl rfl k (by omega)).mono ?_
                    rintro e wv ⟨rfl, hbv⟩
                    have T9 := hide (T2.out.later hbv (by omega))
                    have st0 := str_of wv none 0 0 [] (Bytes.empty wv _) rfl
                    clear hbv T2
                    go_wp2_with fail
                    go_meet
                    case rel => exact ⟨false, [], hs, hd, [], [], rfl, by simp, T9.out, fun _ => ⟨rfl, rfl⟩⟩
                  · go_wp2_with fail
                    refine (recv_lost T2.out.xd rfl rfl k (by omega)).mono ?_
                    rintro e wu ⟨rfl, xu, ku⟩
                    obtain ⟨y1, y2, y3, y4⟩ := dst_beside T2.out.xs T2.out.xd T2.out.nb T2.out.nh T2.out.cut T2.out.bel T2.out.hw ku.same
                    have T3 := hide (show Two w w2.heap.size bs bd n wu (.slice A' 0 c') false [] hs hd [] [] from ⟨y1, xu, T2.out.ts, T2.out.td, T2.out.nb, y3, y2, T2.out.ns, T2.out.nd, y4, T2.out.hw⟩)
                    have hzu := ku.siz
                    clear xu ku y1 y2 y3 y4 T2
                    go_wp2_with fail
                    refine (recv_none T3.out.xd rfl rfl k (by omega)).mono ?_
                    rintro e wv ⟨rfl, hbv⟩
                    have T9 := hide (T3.out.later hbv (by omega))
                    have st0 := str_of wv none 0 0 [] (Bytes.empty wv _) rfl
                    clear hbv T3
                    go_wp2_with fail
                    go_meet
                    case rel => exact ⟨false, [], hs, hd, [], [], rfl, by simp, T9.out, fun _ => ⟨rfl, rfl⟩⟩
          · obtain ⟨hml, hdl⟩ := tw.lens
            rcases ms with _ | ⟨m, ms⟩
            · simp at hml
            rcases md with _ | ⟨m2, md⟩
            · simp at hdl
            have hts := tw.ts; have htd := tw.td
            simp only [List.map_cons, List.cons.injEq] at hts htd
            obtain ⟨A', c', hv, hc1, hc2⟩ := tw.cut.len
            simp only [List.length_cons] at hv hml hdl hq
            have TW := hide tw
            have HTS := hide hts; have HTD := hide htd
            have hzw : w2.heap.size ≤ wr.heap.size := by have := tw.xs.lt; have := tw.xs.lo; omega
            clear tw hts htd hml hdl
            subst hv
            go_upto_region 12 with fail
            go_cut [78] (fun c wc => ∃ g : Bool, c = .bool g ∧ wc = wr ∧ (g = false → k = N → False))
            case first =>
              as_aux_lemma =>
                by_cases hkM : k < M
                · obtain ⟨bT, offT, hTe, hbT, hcT⟩ := (HT.out.of_below TW.out.bel (Nat.le_refl _)).at (k := k) (by rw [HM.out]; exact hkM)
                  subst hTe
                  obtain ⟨g, hg⟩ : ∃ g, t.getD k false = g := ⟨_, rfl⟩
                  rw [hg] at hcT
                  cases g
                  · by_cases hkN : k = N
                    · subst hkN
                      cases lost <;>
                      · go_wp2
                        go_meet
                        case rel => exact ⟨_, rfl, rfl, by simp⟩
                    · have hkN2 : ¬ ((k : Int) = (N : Int)) := by omega
                      go_wp2
                      go_meet
                      case rel => exact ⟨_, rfl, rfl, fun _ h => absurd h hkN⟩
                  · go_wp2
                    go_meet
                    case rel => exact ⟨_, rfl, rfl, by simp⟩
                · by_cases hkN : k = N
                  · subst hkN
                    cases lost <;>
                    · go_wp2
                      go_meet
                      case rel => exact ⟨_, rfl, rfl, by simp⟩
                  · have hkN2 : ¬ ((k : Int) = (N : Int)) := by omega
                    go_wp2
                    go_meet
                    case rel => exact ⟨_, rfl, rfl, fun _ h => absurd h hkN⟩
            case rest =>
              obtain ⟨g, rfl, rfl, hg⟩ := hcut
              have HG := hide hg
              clear hg
              cases g
              · go_wp2_with fail
                go_meet
                case rel => exact ⟨lost, c :: q, hs, hd, m :: ms, m2 :: md, rfl, by simpa using hq, TW.out, fun e => (HG.out (by trivial) e).elim⟩
              · as_aux_lemma =>
                  clear HG
                  have htk := take_queue TW.out.xs rfl rfl (by rw [HTS.out.1]; simp [two])
                  rw [HTS.out.1] at htk
                  simp only [two, List.length_cons, List.length_nil, Nat.zero_add, Nat.reduceAdd] at htk
                  go_wp2_with fail
                  refine htk.mono ?_
                  rintro e wt ⟨g1, c1, hs', rfl, o1, xt, kt⟩
                  clear htk
                  obtain ⟨y1, y2, y3, y4⟩ := TW.out.src kt xt (fun m' hm' => TW.out.ns m' (List.mem_cons_of_mem _ hm'))
                  have O1 := hide o1
                  have hzt := kt.siz
                  have T2 := hide (show BoxW wt w2.heap.size bs (qs 2 n) hs' ms false ∧ BoxW wt w2.heap.size bd (qd 2 n) hd (m2 :: md) lost ∧ CutB wt w2.heap.size (.slice A' (q.length + 1) c') (c :: q) ∧ (∀ k, hs'.ownBlock = some k → hd.ownBlock ≠ some k) ∧ Below w.heap.size w wt from ⟨xt, y1, y2, y3, y4⟩)
                  clear o1 xt kt y1 y2 y3 y4
                  cases lost
                  · have htr := recv_queue T2.out.2.1 rfl rfl (by rw [HTD.out.1]; simp [two]) k (by omega)
                    rw [HTD.out.1] at htr
                    simp only [two, List.length_cons, List.length_nil, Nat.zero_add, Nat.reduceAdd] at htr
                    go_wp2_with fail
                    refine htr.mono ?_
                    rintro e wv ⟨g2, c2, hd', rfl, o2, xv, kv⟩
                    clear htr
                    obtain ⟨y1, y2, y3, y4⟩ := dst_beside T2.out.1 T2.out.2.1 TW.out.nb T2.out.2.2.2.1 T2.out.2.2.1 T2.out.2.2.2.2 TW.out.hw kv
                    have hzv := kv.siz
                    have O9 := hide (O1.out.beside T2.out.2.1 kv.toKeep)
                    have st1 := str_of wv (some ⟨g1, 0, none⟩) 2 c1 [c, 255 - c] O9.out.bytes rfl
                    have st2 := str_of wv (some ⟨g2, 0, none⟩) 2 c2 [c, 255 - c] o2.bytes rfl
                    obtain ⟨gv, off, cv, hv, hv1, hv2, hv3, hv4, hv5⟩ := y2.uncons
                    simp only [Value.slice.injEq] at hv
                    obtain ⟨rfl, _, rfl⟩ := hv
                    have p0 : wv.cell? ⟨g1, 0, none⟩ = some (.int .u8 (c : Int)) := (O9.out.cell 0 (by omega)).1
                    have p1 : wv.cell? ⟨g1, 1, none⟩ = some (.int .u8 ((255 - c : Nat) : Int)) := (O9.out.cell 1 (by omega)).1
                    have ex := xor_u8 hv3
                    have ex' := xor_u8' hv3
                    have hns : ∀ m' ∈ ms, some gv ≠ some m'.blk := fun m' hm' => TW.out.ns m' (List.mem_cons_of_mem _ hm')
                    have hnd : ∀ m' ∈ md, some gv ≠ some m'.blk := fun m' hm' => TW.out.nd m' (List.mem_cons_of_mem _ hm')
                    have T9 := hide (show Two w w2.heap.size bs bd n wv (.slice (if c' = 1 then some ⟨gv, off, none⟩ else some ⟨gv, off + 1, none⟩) q.length (c' - 1)) false q hs' hd' ms md from
                      ⟨y1, xv, HTS.out.2, HTD.out.2, TW.out.nb, y3, hv5, by split <;> simpa [Value.ownBlock] using hns, by split <;> simpa [Value.ownBlock] using hnd, y4, TW.out.hw⟩)
                    clear o2 xv kv y1 y2 y3 y4 hv5 O9 O1 T2 hns hnd
                    go_wp2_with fail
                    go_quiet (fail)
                    have TA := hide (T9.out.later (W' := wv.drewN nq) (below_drewN (Below.refl _ _) nq) (by omega))
                    clear T9 st1 st2
                    go_upto_region 26 with fail
                    generalize (if c' = 1 then (some ⟨gv, off, none⟩ : Option Addr) else some ⟨gv, off + 1, none⟩) = A2 at TA ⊢
                    by_cases hkN : k < N
                    · have hkI : (k : Int) < (N : Int) := by omega
                      go_wp2_with fail
                      go_meet
                      case rel => exact ⟨false, q, hs', hd', ms, md, rfl, by omega, TA.out, fun e => by omega⟩
                    · have hkI : ¬ (k : Int) < (N : Int) := by omega
                      go_wp2_with fail
                      go_roundg q.length
                      case measure => simp
                      case rel => exact ⟨false, q, hs', hd', ms, md, rfl, rfl, by omega, TA.out⟩
                  · go_wp2_with fail
                    refine (recv_lost T2.out.2.1 rfl rfl k (by omega)).mono ?_
                    rintro e wu ⟨rfl, xu, ku⟩
                    obtain ⟨y1, y2, y3, y4⟩ := dst_beside T2.out.1 T2.out.2.1 TW.out.nb T2.out.2.2.2.1 T2.out.2.2.1 T2.out.2.2.2.2 TW.out.hw ku.same
                    have O2 := hide (O1.out.beside T2.out.2.1 ku)
                    have T3 := hide (show BoxW wu w2.heap.size bs (qs 2 n) hs' ms false ∧ BoxW wu w2.heap.size bd (qd 2 n) hd (m2 :: md) false ∧ CutB wu w2.heap.size (.slice A' (q.length + 1) c') (c :: q) ∧ (∀ k, hs'.ownBlock = some k → hd.ownBlock ≠ some k) ∧ Below w.heap.size w wu from ⟨y1, xu, y2, y3, y4⟩)
                    have hzu := ku.siz
                    clear xu ku y1 y2 y3 y4 T2 O1
                    have htr := recv_queue T3.out.2.1 rfl rfl (by rw [HTD.out.1]; simp [two]) k (by omega)
                    rw [HTD.out.1] at htr
                    simp only [two, List.length_cons, List.length_nil, Nat.zero_add, Nat.reduceAdd] at htr
                    go_wp2_with fail
                    refine htr.mono ?_
                    rintro e wv ⟨g2, c2, hd', rfl, o2, xv, kv⟩
                    clear htr
                    obtain ⟨y1, y2, y3, y4⟩ := dst_beside T3.out.1 T3.out.2.1 TW.out.nb T3.out.2.2.2.1 T3.out.2.2.1 T3.out.2.2.2.2 TW.out.hw kv
                    have hzv := kv.siz
                    have O9 := hide (O2.out.beside T3.out.2.1 kv.toKeep)
                    have st1 := str_of wv (some ⟨g1, 0, none⟩) 2 c1 [c, 255 - c] O9.out.bytes rfl
                    have st2 := str_of wv (some ⟨g2, 0, none⟩) 2 c2 [c, 255 - c] o2.bytes rfl
                    obtain ⟨gv, off, cv, hv, hv1, hv2, hv3, hv4, hv5⟩ := y2.uncons
                    simp only [Value.slice.injEq] at hv
                    obtain ⟨rfl, _, rfl⟩ := hv
                    have p0 : wv.cell? ⟨g1, 0, none⟩ = some (.int .u8 (c : Int)) := (O9.out.cell 0 (by omega)).1
                    have p1 : wv.cell? ⟨g1, 1, none⟩ = some (.int .u8 ((255 - c : Nat) : Int)) := (O9.out.cell 1 (by omega)).1
                    have ex := xor_u8 hv3
                    have ex' := xor_u8' hv3
                    have hns : ∀ m' ∈ ms, some gv ≠ some m'.blk := fun m' hm' => TW.out.ns m' (List.mem_cons_of_mem _ hm')
                    have hnd : ∀ m' ∈ md, some gv ≠ some m'.blk := fun m' hm' => TW.out.nd m' (List.mem_cons_of_mem _ hm')
                    have T9 := hide (show Two w w2.heap.size bs bd n wv (.slice (if c' = 1 then some ⟨gv, off, none⟩ else some ⟨gv, off + 1, none⟩) q.length (c' - 1)) false q hs' hd' ms md from
                      ⟨y1, xv, HTS.out.2, HTD.out.2, TW.out.nb, y3, hv5, by split <;> simpa [Value.ownBlock] using hns, by split <;> simpa [Value.ownBlock] using hnd, y4, TW.out.hw⟩)
                    clear o2 xv kv y1 y2 y3 y4 hv5 O9 O2 T3 hns hnd
                    go_wp2_with fail
                    go_quiet (fail)
                    have TA := hide (T9.out.later (W' := wv.drewN nq) (below_drewN (Below.refl _ _) nq) (by omega))
                    clear T9 st1 st2
                    go_upto_region 26 with fail
                    generalize (if c' = 1 then (some ⟨gv, off, none⟩ : Option Addr) else some ⟨gv, off + 1, none⟩) = A2 at TA ⊢
                    by_cases hkN : k < N
                    · have hkI : (k : Int) < (N : Int) := by omega
                      go_wp2_with fail
                      go_meet
                      case rel => exact ⟨false, q, hs', hd', ms, md, rfl, by omega, TA.out, fun e => by omega⟩
                    · have hkI : ¬ (k : Int) < (N : Int) := by omega
                      go_wp2_with fail
                      go_roundg q.length
                      case measure => simp
                      case rel => exact ⟨false, q, hs', hd', ms, md, rfl, rfl, by omega, TA.out⟩
      case rest =>
        as_aux_lemma =>
          obtain ⟨lost, q, hs, hd, ms, md, rfl, hq, tw, hend⟩ := hcut
          obtain ⟨A', c', hv, hc1, hc2⟩ := tw.cut.len
          obtain ⟨hml, hdl⟩ := tw.lens
          have TW := hide tw; have HEND := hide hend
          have hzw : w2.heap.size ≤ wc.heap.size := by have := tw.xs.lt; have := tw.xs.lo; omega
          clear tw hend
          subst hv
          by_cases hkN : k = N
          · obtain ⟨rfl, rfl⟩ := HEND.out hkN
            obtain rfl : ms = [] := List.eq_nil_of_length_eq_zero (by simpa using hml)
            obtain rfl : md = [] := List.eq_nil_of_length_eq_zero (by simpa using hdl)
            clear hml hdl
            subst hkN
            go_wp2_with fail
            refine (len_at TW.out.xs).mono ?_
            rintro e w' ⟨rfl, rfl⟩
            go_wp2_with fail
            refine (len_at TW.out.xd).mono ?_
            rintro e w' ⟨rfl, rfl⟩
            go_wp2
            go_ret
            exact ⟨rfl, TW.out.bel⟩
          · have hkI : ¬ ((k : Int) = (N : Int)) := by omega
            obtain ⟨bA, off, hAe, hbA, hcl⟩ := HL.out.at (k := k) (by rw [HN.out]; omega)
            subst hAe
            have hcell := hcl k (by rw [HN.out]; omega)
            obtain ⟨c, hc⟩ : ∃ c, l.getD k 0 = c := ⟨_, rfl⟩
            have hclt : c < 256 := by rw [← hc]; exact HL.out.byte k
            rw [hc] at hcell
            have HCELL := hide hcell
            clear hcl hcell hc
            obtain ⟨d, hd0⟩ : ∃ d, 255 - c = d := ⟨_, rfl⟩
            have ex := xor_u8 hclt
            have ex' := xor_u8' hclt
            rw [hd0] at ex ex'
            have HC := hide (show ∀ x ∈ [c, d], x < 256 by intro x hx; simp at hx; omega)
            have HT2 := hide (show two c = [c, d] by rw [two, hd0])
            have hcx : ({ wc with drawn := wc.drawn + 1 } : World).cell? ⟨bA, off + k, none⟩ = some (.int .u8 (c : Int)) := ((bcl TW.out.bel hbA).trans HCELL.out)
            have TX := hide (TW.out.later (W' := { wc with drawn := wc.drawn + 1 }) (below_drewN (Below.refl _ _) 1) hzw)
            have hk0 : (0 : Int) ≤ (k : Int) := by omega
            have hk1 : (k : Int) < (N : Int) := by omega
            clear TW hd0
            go_wp2_with fail
            refine wp_region_still_tail 9 (by kernel_rfl) (by kernel_rfl) ?_
            simp only [List.take_succ_cons, List.take_zero, List.drop_succ_cons, List.drop_zero]
            generalize ({ wc with drawn := wc.drawn + 1 } : World) = wx at hcx TX ⊢
            have hzx : w2.heap.size ≤ wx.heap.size := by have := TX.out.xs.lt; have := TX.out.xs.lo; omega
            repeat still_step
            refine wpStill_nil ?_
            go_wp2_with fail
            have HO := hide (OwnS.made (w := wx) (base := wx.heap.size) [c, d] HC.out (by simp [maxLen]) (Nat.le_refl _))
            have TY := hide (TX.out.later (bal wx (.cells #[.int .u8 c, .int .u8 d] 5)) hzx)
            have hzy : wx.heap.size < (wx.alloc (.cells #[.int .u8 c, .int .u8 d] 5)).heap.size := by simp
            have hO : OwnS (wx.alloc (.cells #[.int .u8 c, .int .u8 d] 5)) wx.heap.size wx.heap.size 2 2 [c, d] := HO.out
            have HO2 := hide hO
            clear hO HO TX
            generalize (wx.alloc (.cells #[.int .u8 c, .int .u8 d] 5)) = wy at TY hzy HO2 ⊢
            refine (send_queue TY.out.xs rfl rfl [c, d] 2 ⟨wx.heap.size, 0, none⟩ 2 rfl (by omega) rfl HO2.out.bytes (by omega) (by show (0 : Int) ≤ (n : Int) ∧ (n : Int) ≤ 1000; omega)).mono ?_
            rintro e w6 (⟨h1, rfl, hs', m, t1, s1, b1, x6, k6⟩ | ⟨h1, rfl, x6, k6⟩)
            · have h1' : (ms.length : Int) < (n : Int) := h1
              obtain ⟨y1, y2, y3, y4⟩ := TY.out.src k6 x6 (by
                intro m' hm' e
                rcases List.mem_append.1 hm' with hm' | hm'
                · exact TY.out.ns m' hm' e
                · rw [List.mem_singleton.1 hm'] at e
                  have := (TY.out.cut.blk e).1; omega)
              have HO6 := hide (HO2.out.beside TY.out.xs k6.toKeep)
              have hz6 := k6.siz
              have hns : ∀ m' ∈ ms ++ [m], Value.ownBlock (.slice A' q.length c') ≠ some m'.blk := by
                intro m' hm' e
                rcases List.mem_append.1 hm' with hm' | hm'
                · exact TY.out.ns m' hm' e
                · rw [List.mem_singleton.1 hm'] at e
                  have := (TY.out.cut.blk e).1; omega
              have Y6 := hide (And.intro x6 (And.intro y1 (And.intro y2 (And.intro y3 (And.intro y4 (And.intro hns (show (ms ++ [m]).map Msg.txt = (q ++ [c]).map two by rw [List.map_append, List.map_append, TY.out.ts]; simp [t1, HT2.out])))))))
              clear x6 y1 y2 y3 y4 k6 HO2 hns t1 s1 b1 h1
              go_wp2_with fail
              refine (arrive_queue Y6.out.2.1 rfl rfl [c, d] 2 ⟨wx.heap.size, 0, none⟩ 2 k hk0 rfl (by omega) rfl HO6.out.bytes (by omega) (by show (0 : Int) ≤ (n : Int) ∧ (n : Int) ≤ 1000; omega)).mono ?_
              rintro e w7 (⟨h1, rfl, hd', m2, t1, s1, b1, x7, k7⟩ | ⟨h1, rfl, x7, k7⟩)
              · obtain ⟨y1, y2, y3, y4⟩ := dst_beside Y6.out.1 Y6.out.2.1 TY.out.nb Y6.out.2.2.2.1 Y6.out.2.2.1 Y6.out.2.2.2.2.1 TY.out.hw k7
                have hz7 := k7.siz
                have hnd : ∀ m' ∈ md ++ [m2], Value.ownBlock (.slice A' q.length c') ≠ some m'.blk := by
                  intro m' hm' e
                  rcases List.mem_append.1 hm' with hm' | hm'
                  · exact TY.out.nd m' hm' e
                  · rw [List.mem_singleton.1 hm'] at e
                    have := (TY.out.cut.blk e).1; omega
                have Y7 := hide (And.intro y1 (And.intro x7 (And.intro y2 (And.intro y3 (And.intro y4 (And.intro hnd (show (md ++ [m2]).map Msg.txt = (q ++ [c]).map two by rw [List.map_append, List.map_append, TY.out.td]; simp [t1, HT2.out])))))))
                have hc7 : w7.cell? ⟨bA, off + k, none⟩ = some (.int .u8 (c : Int)) := (bcl y4 hbA).trans HCELL.out
                clear x7 y1 y2 y3 y4 k7 hnd t1 s1 b1 h1
                have hqn : ¬ ((q.length : Int) = (n : Int)) := by omega
                go_upto_region 33 with fail
                cases lost
                · go_wp2_with (first
                    | (at_builtin
                       refine wpList_cut_append rfl (.tmp 213) (.tmp 218) rfl w2.heap.size (.slice A' q.length c') q rfl (Y7.out.2.2.1.later (bal w7 (.cells #[.int .u8 c] 5))) w7.heap.size 1 c rfl hclt (by rw [cell_of_row _ _ _ _ _ _ (heap_alloc_new w7 _)]; rfl) (by omega) (by simp; omega) ?_
                       intro v' w8 hcut8 hgr8 hwh8))
                  have T8 := hide (show Two w w2.heap.size bs bd n w8 v' false (q ++ [c]) hs' hd' (ms ++ [m]) (md ++ [m2]) from by
                    have hb8 := bal w7 (.cells #[.int .u8 c] 5)
                    have hcut7 := Y7.out.2.2.1.later hb8
                    refine ⟨(Y7.out.1.later hb8).wrote hcut7 hgr8 Y6.out.2.2.2.2.2.1, (Y7.out.2.1.later hb8).wrote hcut7 hgr8 Y7.out.2.2.2.2.2.1, Y6.out.2.2.2.2.2.2, Y7.out.2.2.2.2.2.2, TY.out.nb, Y7.out.2.2.2.1, hcut8, ?_, ?_, (Y7.out.2.2.2.2.1.trans (hb8.mono (by have := TY.out.hw; omega))).trans ?_, TY.out.hw⟩
                    · intro m' hm' e
                      rcases hwh8 with h | h
                      · exact Y6.out.2.2.2.2.2.1 m' hm' (h ▸ e)
                      · have h2 := h _ e
                        have h3 := OwnS.blk (Y7.out.1.each m' hm')
                        simp only [World.size_alloc] at h2
                        omega
                    · intro m' hm' e
                      rcases hwh8 with h | h
                      · exact Y7.out.2.2.2.2.2.1 m' hm' (h ▸ e)
                      · have h2 := h _ e
                        have h3 := OwnS.blk (Y7.out.2.1.each m' hm')
                        simp only [World.size_alloc] at h2
                        omega
                    · exact (Below.refl _ _).grown hgr8 (by simp; have := TY.out.hw; omega) (fun k hk => by have := (hcut7.blk hk).2.1; have := TY.out.hw; omega))
                  clear Y7 Y6 hcut8 hgr8 hwh8
                  go_wp2_with fail
                  go_roundg (N - k - 1)
                  case measure => omega
                  case rel => exact ⟨k + 1, false, q ++ [c], hs', hd', ms ++ [m], md ++ [m2], by omega, by go_num, rfl, by simp; omega, T8.out⟩
                · go_wp2_with (first
                    | (at_builtin
                       refine wpList_cut_append rfl (.tmp 213) (.tmp 218) rfl w2.heap.size (.slice A' q.length c') q rfl (Y7.out.2.2.1.later (bal w7 (.cells #[.int .u8 c] 5))) w7.heap.size 1 c rfl hclt (by rw [cell_of_row _ _ _ _ _ _ (heap_alloc_new w7 _)]; rfl) (by omega) (by simp; omega) ?_
                       intro v' w8 hcut8 hgr8 hwh8))
                  have T8 := hide (show Two w w2.heap.size bs bd n w8 v' true (q ++ [c]) hs' hd' (ms ++ [m]) (md ++ [m2]) from by
                    have hb8 := bal w7 (.cells #[.int .u8 c] 5)
                    have hcut7 := Y7.out.2.2.1.later hb8
                    refine ⟨(Y7.out.1.later hb8).wrote hcut7 hgr8 Y6.out.2.2.2.2.2.1, (Y7.out.2.1.later hb8).wrote hcut7 hgr8 Y7.out.2.2.2.2.2.1, Y6.out.2.2.2.2.2.2, Y7.out.2.2.2.2.2.2, TY.out.nb, Y7.out.2.2.2.1, hcut8, ?_, ?_, (Y7.out.2.2.2.2.1.trans (hb8.mono (by have := TY.out.hw; omega))).trans ?_, TY.out.hw⟩
                    · intro m' hm' e
                      rcases hwh8 with h | h
                      · exact Y6.out.2.2.2.2.2.1 m' hm' (h ▸ e)
                      · have h2 := h _ e
                        have h3 := OwnS.blk (Y7.out.1.each m' hm')
                        simp only [World.size_alloc] at h2
                        omega
                    · intro m' hm' e
                      rcases hwh8 with h | h
                      · exact Y7.out.2.2.2.2.2.1 m' hm' (h ▸ e)
                      · have h2 := h _ e
                        have h3 := OwnS.blk (Y7.out.2.1.each m' hm')
                        simp only [World.size_alloc] at h2
                        omega
                    · exact (Below.refl _ _).grown hgr8 (by simp; have := TY.out.hw; omega) (fun k hk => by have := (hcut7.blk hk).2.1; have := TY.out.hw; omega))
                  clear Y7 Y6 hcut8 hgr8 hwh8
                  go_wp2_with fail
                  go_roundg (N - k - 1)
                  case measure => omega
                  case rel => exact ⟨k + 1, true, q ++ [c], hs', hd', ms ++ [m], md ++ [m2], by omega, by go_num, rfl, by simp; omega, T8.out⟩
              · have h1' : (n : Int) ≤ (md.length : Int) := h1
                omega
            · have h1' : (n : Int) ≤ (ms.length : Int) := h1
              obtain ⟨y1, y2, y3, y4⟩ := TY.out.src k6.same x6 TY.out.ns
              have HO6 := hide (HO2.out.beside TY.out.xs k6)
              have hz6 := k6.siz
              have Y6 := hide (And.intro x6 (And.intro y1 (And.intro y2 (And.intro y3 y4))))
              clear x6 y1 y2 y3 y4 k6 HO2 h1
              go_wp2_with fail
              refine (arrive_queue Y6.out.2.1 rfl rfl [c, d] 2 ⟨wx.heap.size, 0, none⟩ 2 k hk0 rfl (by omega) rfl HO6.out.bytes (by omega) (by show (0 : Int) ≤ (n : Int) ∧ (n : Int) ≤ 1000; omega)).mono ?_
              rintro e w7 (⟨h1, rfl, hd', m2, t1, s1, b1, x7, k7⟩ | ⟨h1, rfl, x7, k7⟩)
              · have h1'' : (md.length : Int) < (n : Int) := h1
                omega
              · obtain ⟨y1, y2, y3, y4⟩ := dst_beside Y6.out.1 Y6.out.2.1 TY.out.nb Y6.out.2.2.2.1 Y6.out.2.2.1 Y6.out.2.2.2.2 TY.out.hw k7.same
                have T8 := hide (show Two w w2.heap.size bs bd n w7 (.slice A' q.length c') true q hs hd ms md from ⟨y1, x7, TY.out.ts, TY.out.td, TY.out.nb, y3, y2, TY.out.ns, TY.out.nd, y4, TY.out.hw⟩)
                clear x7 y1 y2 y3 y4 k7 h1
                have hqn : (q.length : Int) = (n : Int) := by omega
                go_upto_region 33 with fail
                cases lost
                · go_wp2_with fail
                  go_roundg (N - k - 1)
                  case measure => omega
                  case rel => exact ⟨k + 1, true, q, hs, hd, ms, md, by omega, by go_num, rfl, by omega, T8.out⟩
                · go_wp2_with fail
                  go_roundg (N - k - 1)
                  case measure => omega
                  case rel => exact ⟨k + 1, true, q, hs, hd, ms, md, by omega, by go_num, rfl, by omega, T8.out⟩
    · omega
end Go.Proofs.Ytelhbkjmaeglaaa
