/-
  What a plan says of nodes and clocks; a stream's ports; how many bytes it takes.
-/
import Derived.Test.YtdennekkbdlhdaaDoorPnG
namespace Go.Proofs.YtdennekkbdlhdaaDoor
open Go.RowKit Go.Shelf
attribute [local go_sem] Oper.semAt_some
set_option linter.unusedVariables false
set_option linter.unusedSimpArgs false
set_option maxRecDepth 100000

theorem taken_at (s : Sm) (A : Option Addr) (c : Nat) (w : World) (h0 : 1 ≤ s.size) (h1 : s.size ≤ 32) :
    Calls Tryd.prog 17 #[s.v A c] w fun e w' => e = .returned (.int .i64 (1 + s.size)) ∧ Below w.heap.size w w' := by
  have HB := hide (fun t => bal w (.cells #[.int .i64 s.src, .slice A s.dests.length c, .int .i64 s.kind, .int .i64 s.size, .int .i64 s.depth, .int .i64 s.fresh] t))
  unfold Sm.v
  go_enter Tryd.func17, Tryd.ntmps17
  go_wp2_with fail
  go_ret
  exact ⟨by first | rfl | (congr 2; omega), HB.out _⟩
theorem precision_at (n dr re m bd rj qu : Int) (A : Option Addr) (k c : Nat) (w : World) (h1 : 0 ≤ dr) (h2 : dr ≤ 1048576) (h3 : 0 ≤ re) (h4 : re ≤ 1048576) :
    Calls Tryd.prog 26 #[.agg #[.int .i64 n, .slice A k c, .int .i64 dr, .int .i64 re, .int .i64 m, .int .i64 bd, .int .i64 rj, .int .i64 qu, .slice none 0 0, .slice none 0 0, .slice none 0 0, .slice none 0 0]] w fun e w' => e = .returned (.int .i64 (2 * (dr + re) + 1)) ∧ Below w.heap.size w w' := by
  go_enter Tryd.func26, Tryd.ntmps26
  go_wp2_with fail
  go_ret
  exact ⟨rfl, bal _ _⟩
theorem own_base {W : World} {B B' : Nat} {t : TypeId} {sz : Nat} {h : Value} {n : Nat} {xs : List Value} (x : W.ownsRow B t sz h n xs) (hB : B' ≤ B) : W.ownsRow B' t sz h n xs := by
  refine ⟨x.1, ?_⟩
  rcases x.2 with h1 | ⟨g, cap, cur, rfl, h2, h3⟩
  · exact .inl h1
  · exact .inr ⟨g, cap, cur, rfl, by omega, h3⟩
theorem own_block1 {W : World} {B g : Nat} {e : TypeId} {sz : Nat} {us : List Value} (h : W.heap[g]? = some (.cells us.toArray e (0, 0))) (hB : B ≤ g) (hu : us.length = sz) : W.ownsRow B e sz (.slice (some ⟨g, 0, none⟩) 1 1) 1 us :=
  ⟨by omega, .inr ⟨g, 1, us.toArray, rfl, hB, h, Nat.le_refl _, by simp [maxLen], by simp; omega, by
    rw [List.take_of_length_le (by simp; omega)]⟩⟩
set_option maxHeartbeats 1000000 in
theorem portsOf_at (s : Sm) (A : Option Addr) (c : Nat) (w : World) (hI : Ints w A s.dests) (hl : s.dests.length ≤ 100) :
    Calls Tryd.prog 25 #[s.v A c] w fun e w' => Below w.heap.size w w' ∧ ∃ v, e = .returned v ∧ w'.ownsRow w.heap.size 49 6 v (portsOf s).length ((portsOf s).flatMap poC) := by
  have HI := hide (fun W (hb : Below w.heap.size w W) => hI.of_below hb (Nat.le_refl _))
  have HB := hide (fun t => bal w (.cells #[.int .i64 s.src, .slice A s.dests.length c, .int .i64 s.kind, .int .i64 s.size, .int .i64 s.depth, .int .i64 s.fresh] t))
  unfold Sm.v
  obtain ⟨M, hM⟩ : ∃ M, M = s.dests.length := ⟨_, rfl⟩
  have HM := hide hM
  rw [← hM] at HB hl ⊢
  have HSx := hide (fun t => SmB.of (s := s) (A := A) (c := c) (t := t) (f := (0, 0)) (W := w.alloc (.cells #[.int .i64 s.src, .slice A s.dests.length c, .int .i64 s.kind, .int .i64 s.size, .int .i64 s.depth, .int .i64 s.fresh] t)) (b := w.heap.size) (heap_alloc_new w _))
  rw [← hM] at HSx
  clear hI hM
  have HPo := hide (show portsOf s = ⟨s.src, s.kind, 1, s.size, s.depth, 0⟩ :: s.dests.map fun t => ⟨t, s.kind, 2, s.size, s.depth, s.fresh⟩ from rfl)
  go_enter Tryd.func25, Tryd.ntmps25
  go_wp2_with fail
  have HB0 := hide (HB.out 53)
  have HX0 := hide (HSx.out 53)
  clear HB HSx
  generalize hW0 : w.alloc (.cells #[.int .i64 s.src, .slice A M c, .int .i64 s.kind, .int .i64 s.size, .int .i64 s.depth, .int .i64 s.fresh] 53) = W0 at *
  have hs0 : W0.heap.size = w.heap.size + 1 := by rw [← hW0]; simp
  clear hW0
  have hb1 := bal W0 (.cells #[.int .i64 s.src, .int .i64 s.kind, .int .i64 1, .int .i64 s.size, .int .i64 s.depth, .int .i64 0] 49)
  have HX1 := hide (HX0.out.below hb1 HX0.out.lt)
  have HB1 := hide (HB0.out.trans (hb1.mono (by omega)))
  have HO1 := hide (own_block1 (B := w.heap.size + 1) (sz := 6) (us := [.int .i64 s.src, .int .i64 s.kind, .int .i64 1, .int .i64 s.size, .int .i64 s.depth, .int .i64 0]) (heap_alloc_new W0 (.cells #[.int .i64 s.src, .int .i64 s.kind, .int .i64 1, .int .i64 s.size, .int .i64 s.depth, .int .i64 0] 49)) (by omega) rfl)
  rw [hs0] at HO1
  generalize W0.alloc (.cells #[.int .i64 s.src, .int .i64 s.kind, .int .i64 1, .int .i64 s.size, .int .i64 s.depth, .int .i64 0] 49) = W1 at *
  clear hb1 HX0 HB0
  go_loopw [3, 19] (fun v kv wr => ∃ k : Nat, k ≤ M ∧ kv = .int .i64 k ∧ wr.ownsRow (w.heap.size + 1) 49 6 v (1 + k) (poC ⟨s.src, s.kind, 1, s.size, s.depth, 0⟩ ++ ((s.dests.take k).map fun t => (⟨t, s.kind, 2, s.size, s.depth, s.fresh⟩ : Po)).flatMap poC) ∧ SmB wr w.heap.size s A c ∧ Below w.heap.size w wr) (fun _ kv _ => M - (intOf kv).toNat)
  case atStart => exact ⟨0, Nat.zero_le _, rfl, by simpa [poC] using HO1.out, HX1.out, HB1.out⟩
  case round =>
    clear hs0 HX1 HB1 HO1
    obtain ⟨k, hk, rfl, hO, hX, hb⟩ := hrel
    have hsz : w.heap.size + 1 ≤ wr.heap.size := hX.lt
    have HO := hide hO
    have HX := hide hX
    have HBr := hide hb
    by_cases hlt : k < M
    · have hkl : k < s.dests.length := by rw [← HM.out]; exact hlt
      obtain ⟨b, off, rfl, hbl, d0⟩ := (HI.out _ hb).at hkl
      have HSn := hide (show ((s.dests.take (k + 1)).map fun t => (⟨t, s.kind, 2, s.size, s.depth, s.fresh⟩ : Po)).flatMap poC = ((s.dests.take k).map fun t => (⟨t, s.kind, 2, s.size, s.depth, s.fresh⟩ : Po)).flatMap poC ++ [.int .i64 (s.dests.getD k 0), .int .i64 s.kind, .int .i64 2, .int .i64 s.size, .int .i64 s.depth, .int .i64 s.fresh] from by
        rw [take_more s.dests 0 k hkl]; simp [poC])
      generalize s.dests.getD k 0 = z at *
      obtain ⟨xl, c0, c1, c2, c3, c4, c5⟩ := hX
      obtain ⟨Av, cv, rfl⟩ := own_slice hO
      have hb8 := bal wr (.cells #[.int .i64 z, .int .i64 s.kind, .int .i64 2, .int .i64 s.size, .int .i64 s.depth, .int .i64 s.fresh] 49)
      have E := hide (fun w5 (hg : (wr.alloc (.cells #[.int .i64 z, .int .i64 s.kind, .int .i64 2, .int .i64 s.size, .int .i64 s.depth, .int .i64 s.fresh] 49)).grownBy w5 (Value.slice Av (1 + k) cv).ownBlock) =>
        show Below w.heap.size w w5 ∧ SmB w5 w.heap.size s (some ⟨b, off, none⟩) c from ⟨below_own (HBr.out.trans (hb8.mono HBr.out.size)) (own_below HO.out hb8 (Nat.le_refl _)) hg (by omega) (by simp; omega), (HX.out.below hb8 HX.out.lt).on (hg.block w.heap.size (by simp; omega) fun e => by
            have := (own_block HO.out e.symm).2.1
            omega)⟩)
      clear hb8 hO hb
      go_wp2_with (at_builtin; refine wpList_one _ rfl _ _ 31 rfl 49 (.agg #[.int .i64 0, .int .i64 0, .int .i64 0, .int .i64 0, .int .i64 0, .int .i64 0]) 6 48 Tryd.underlying31 info_po rfl (by decide) (by decide) (w.heap.size + 1) _ _ _ rfl (own_below HO.out (bal wr _) (Nat.le_refl _)) _ _ [.int .i64 z, .int .i64 s.kind, .int .i64 2, .int .i64 s.size, .int .i64 s.depth, .int .i64 s.fresh] rfl (heap_alloc_new wr _) rfl (by simp [Value.oneCell']) (by omega) (by simp; omega) ?_; intro v5 w5 hown5 hgr5 hwh; obtain ⟨x1, x2⟩ := E.out w5 hgr5; have HO5 := hide hown5; have HX1 := hide x1; have HX2 := hide x2; clear hown5 hgr5 hwh x1 x2)
      go_roundw
      case rel => exact ⟨k + 1, hlt, by go_num, by rw [HSn.out, ← List.append_assoc, ← Nat.add_assoc]; exact HO5.out, HX2.out, HX1.out⟩
      case measure => simp [intOf]; omega
    · obtain rfl : k = M := by omega
      have HV := hide (show (portsOf s).length = 1 + k ∧ (portsOf s).flatMap poC = poC ⟨s.src, s.kind, 1, s.size, s.depth, 0⟩ ++ ((s.dests.take k).map fun t => (⟨t, s.kind, 2, s.size, s.depth, s.fresh⟩ : Po)).flatMap poC from by
        rw [HM.out, List.take_length]; exact ⟨portsOf_len s, by rw [HPo.out, List.flatMap_cons]⟩)
      clear hO hX hb
      go_wp2_with fail
      go_ret
      exact ⟨HBr.out, _, rfl, by rw [HV.out.1, HV.out.2]; exact own_base HO.out (Nat.le_succ _)⟩
end Go.Proofs.YtdennekkbdlhdaaDoor
