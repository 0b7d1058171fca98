/-
  The program's greatest free span.
-/
import Derived.Test.YtpnpbnfjhnmhjaaPcK
namespace Go.Proofs.Ytpnpbnfjhnmhjaa
open Go.RowKit Go.Shelf
attribute [local go_sem] Oper.semAt_some
set_option linter.unusedVariables false
set_option linter.unusedSimpArgs false
set_option maxRecDepth 100000

def wide (G : List (Nat × Nat)) : Nat := G.foldl (fun m g => max m (g.2 - g.1)) 0
theorem wide_snoc (G : List (Nat × Nat)) (g : Nat × Nat) : wide (G ++ [g]) = max (wide G) (g.2 - g.1) := by simp [wide]
theorem wide_iff : ∀ (G : List (Nat × Nat)) (m s : Nat), s ≤ G.foldl (fun m g => max m (g.2 - g.1)) m ↔ (s ≤ m ∨ ∃ g ∈ G, s ≤ g.2 - g.1)
  | [], m, s => by simp
  | g :: G, m, s => by
    rw [List.foldl_cons, wide_iff G (max m (g.2 - g.1)) s]
    constructor
    · rintro (h | ⟨x, hx, h⟩)
      · rcases Nat.le_total m (g.2 - g.1) with h1 | h1
        · exact .inr ⟨g, List.mem_cons_self .., by omega⟩
        · exact .inl (by omega)
      · exact .inr ⟨x, List.mem_cons_of_mem _ hx, h⟩
    · rintro (h | ⟨x, hx, h⟩)
      · exact .inl (by omega)
      · rcases List.mem_cons.1 hx with rfl | hx
        · exact .inl (by omega)
        · exact .inr ⟨x, hx, h⟩
def mostV (l : List Ai) (limit : Int) : Int := if sizeB limit then (wide (freeTo (tkn l) limit.toNat) : Nat) else 0
/-- what stands while the greatest is looked for -/
structure Mb (w : World) (pre : List PG) (W : World) : Prop where
  bel : Below w.heap.size w W
  sz : w.heap.size + 3 ≤ W.heap.size
  c0 : W.heap[w.heap.size]? = some (.cells #[.int .i64 (wide (pg pre) : Nat)] 3 (0, 0))
theorem Mb.from {w A B : World} {pre : List PG} {C : Nat} {row : Option Nat} (hs : Mb w pre A) (hg : A.grownBy B row) (hr : ∀ r, row = some r → C ≤ r ∧ ∃ o : Obj, A.heap[r]? = some o ∧ o.isCells = false) (hC : w.heap.size + 3 ≤ C) : Mb w pre B := by
  have := hs.sz
  exact ⟨hs.bel.grown hg (by omega) (fun k e => by have := (hr k e).1; omega), Nat.le_trans hs.sz hg.size, row_kept hs.c0 hg hr⟩
theorem wide_le : ∀ (G : List (Nat × Nat)) (m n : Nat), m ≤ n → (∀ g ∈ G, g.2 ≤ n) → G.foldl (fun m g => max m (g.2 - g.1)) m ≤ n
  | [], m, n, h, _ => h
  | g :: G, m, n, h, h2 => by
    rw [List.foldl_cons]
    exact wide_le G _ n (by have := h2 g (by simp); omega) fun x hx => h2 x (by simp [hx])
theorem wide_pg (pre : List PG) : wide (pg pre) ≤ 1048576 := by
  refine wide_le _ _ _ (Nat.zero_le _) fun g hg => ?_
  obtain ⟨y, _, rfl⟩ := List.mem_map.1 hg
  exact y.2.2

theorem three_boxes (w : World) (a0 a1 a2 : Value) (t0 t1 t2 : TypeId) (W0 : World) (h : W0 = ((w.alloc (.cells #[a0] t0)).alloc (.cells #[a1] t1)).alloc (.cells #[a2] t2)) :
    Below w.heap.size w W0 ∧ W0.heap.size = w.heap.size + 3 ∧ W0.heap[w.heap.size]? = some (.cells #[a0] t0 (0, 0)) ∧ W0.heap[w.heap.size + 1]? = some (.cells #[a1] t1 (0, 0)) ∧ W0.heap[w.heap.size + 1 + 1]? = some (.cells #[a2] t2 (0, 0)) := by
  subst h
  have n0 := heap_alloc_new w (.cells #[a0] t0)
  have n1 := heap_alloc_new (w.alloc (.cells #[a0] t0)) (.cells #[a1] t1)
  have n2 := heap_alloc_new ((w.alloc (.cells #[a0] t0)).alloc (.cells #[a1] t1)) (.cells #[a2] t2)
  simp only [World.size_alloc] at n1 n2
  refine ⟨((bal w _).alloc (by simp) _).alloc (by simp; omega) _, by simp, ?_, ?_, n2⟩
  · exact (heap_alloc_old _ _ (by simp only [World.size_alloc]; omega)).trans ((heap_alloc_old _ _ (by simp only [World.size_alloc]; omega)).trans n0)
  · exact (heap_alloc_old _ _ (by simp only [World.size_alloc]; omega)).trans n1
set_option maxHeartbeats 4000000 in
theorem Most_at (l : List Ai) (A : Option Addr) (c : Nat) (limit : Int) (w : World) (hI : Sps w A l) (hl : l.length ≤ 1000) :
    Calls Try.prog 18 #[.slice A l.length c, .int .i64 limit] w fun e w' => e = .returned (.int .i64 (mostV l limit)) ∧ Below w.heap.size w w' := by
  have HL := hide (isSize_at limit w)
  have HI := hide hI
  have HLe := hide hl
  obtain ⟨N, hN⟩ : ∃ N, N = l.length := ⟨_, rfl⟩
  have HN := hide hN
  rw [← hN] at hl ⊢
  clear hI hN
  cases h3 : sizeB limit with
  | false =>
    have HV := hide (show mostV l limit = 0 from if_neg (by rw [h3]; decide))
    rw [h3] at HL
    clear h3
    go_enter Try.func18, Try.ntmps18
    go_wp2_with fail
    refine HL.out.mono ?_
    rintro e w1 ⟨rfl, rfl⟩
    go_wp2_with fail
    go_ret
    exact ⟨by rw [HV.out]; rfl, Below.refl _ _⟩
  | true =>
    have h3' := of_decide_eq_true h3
    obtain ⟨L, rfl⟩ := Int.eq_ofNat_of_zero_le h3'.1
    have HV := hide (show mostV l L = (wide (freeTo (tkn l) L) : Nat) from if_pos h3)
    have hL2 : L ≤ 1048576 := by omega
    rw [h3] at HL
    clear h3 h3'
    refine calls_of_wp_marks Try.func18 rfl ?_
    simp only [Try.ntmps18, List.size_toArray, List.length_cons, List.length_nil, Nat.reduceAdd, Nat.reduceSub, Array.replicate_succ, Array.replicate_zero, List.push_toArray, List.append_toArray, List.nil_append, List.cons_append]
    go_wp2_with fail
    refine HL.out.mono ?_
    rintro e w1 ⟨rfl, rfl⟩
    have HW0 := hide (three_boxes w (.int .i64 0) (.slice A N c) (.int .i64 (L : Nat)) 3 22 3 _ rfl)
    go_wp2_with fail
    refine (free_mk A N c (L : Nat) _).mono ?_
    rintro e w1 ⟨rfl, rfl⟩
    go_wp2_with fail
    generalize ((w.alloc (.cells #[.int .i64 0] 3)).alloc (.cells #[.slice A N c] 22)).alloc (.cells #[.int .i64 (L : Nat)] 3) = W5 at *
    obtain ⟨hB0, hS0, b0, b1, b2⟩ := HW0.out
    have HF0 := hide (show Mb w [] W5 from ⟨hB0, by omega, b0⟩)
    have hlq : lbQ (w.heap.size + 1 + 1) 0 W5 = none := lbQ_int (z := L) (k := .i64) (by rw [cell_of_row _ _ _ _ _ _ b2]; rfl)
    have HLb := hide (show Lb w.heap.size 1 (w.heap.size + 1 + 1) 0 W5 from ⟨by omega, by omega, fun x h => by rw [hlq] at h; cases h⟩)
    have HAp := hide (show Ap w.heap.size 1 (w.heap.size + 1 + 1) 0 (w.heap.size + 1 + 1) W5 from ⟨by omega, by rw [hlq]; intro h; cases h⟩)
    have HI5 := hide (HI.out.of_below HF0.out.bel (Nat.le_refl _))
    have HT5 := hide b1
    have HL5 := hide b2
    have hw5 : w.heap.size + 3 ≤ W5.heap.size := by omega
    clear hB0 hS0 b0 b1 b2 hlq HW0 HL HI
    refine (wpIn_wide (n := 2)).1 ?_
    refine wpIn_rangeFunc_ownH rfl (by omega) rfl trivial (enters_of Try.func31 (by kernel_rfl) rfl) (free_stops (2 - 1) w.heap.size 1 (w.heap.size + 1 + 1) 0 (w.heap.size + 1) (w.heap.size + 1 + 1) l A c L HLe.out (by omega) W5 HLb.out (by rw [← HN.out]; exact HT5.out) HL5.out HAp.out HI5.out)
      (fun h k => h.trans k) (fun W l o o' hl hlo ho _ => Kz.put (by omega) hlo ho) (Below.refl _ _) (fun _ => rfl) (Mb w) (fun _ _ _ => False) (fun p A B row hs hg hr => hs.from hg hr hw5) (fun c p A B row hs hg hr => hs) HF0.out
      (AxS (w.heap.size + 3) (fun p v => #[.slice A N c, .int .i64 (L : Nat), undef, undef, .int .i64 0, .pointer (some ⟨w.heap.size, 0, none⟩), p, .int .i64 (L : Nat), .bool true, .bool false, .slice A N c, .int .i64 (L : Nat),
        .func (.func 31) #[] #[.pointer (some ⟨w.heap.size + 1, 0, none⟩), .pointer (some ⟨w.heap.size + 1 + 1, 0, none⟩)], v, undef, undef, undef, undef, undef, undef, undef, undef])) (fun x a' u A B row hs hg hr => ?ax) ?assign ?body ?done ?stop
    case ax =>
      obtain ⟨Bx, h1, h3, h4⟩ := hs
      exact ⟨Bx, h1, row_kept h3 hg hr, h4⟩
    case assign =>
      intro ly pre x W K hT hK
      have HT := hide hT
      have HK := hide hK
      have hWs := hT.sz
      clear hT hK
      obtain ⟨⟨f, g⟩, hx⟩ := x
      simp only [pgEnc]
      gi_wp2
      refine HK.out _ _ ((KeepsOthers.alloc _ _).from _) (Kq.new (bal W _) (by omega)).toZ (HT.out.from (World.grownBy_alloc W _ none) (C := w.heap.size + 3) (fun r e => by cases e) (Nat.le_refl _)) ⟨W.heap.size, by omega, heap_alloc_new W _, rfl⟩
    case body =>
      rintro ly pre x a' W hl ⟨r, hr⟩ hT ⟨Bx, hB, hrow, rfl⟩ hlen
      obtain ⟨⟨f, g⟩, hx⟩ := x
      have HSn := hide (show wide (pg (pre ++ [⟨(f, g), hx⟩])) = max (wide (pg pre)) (g - f) from by rw [pg_snoc, wide_snoc])
      dsimp only at hx hrow ⊢
      have d0 : W.cell? ⟨Bx, 0, none⟩ = some (.int .i64 (f : Nat)) := by rw [cell_of_row _ _ _ _ _ _ hrow]; rfl
      have d1 : W.cell? ⟨Bx, 1, none⟩ = some (.int .i64 (g : Nat)) := by rw [cell_of_row _ _ _ _ _ _ hrow]; rfl
      have hBl : Bx < W.heap.size := (Array.getElem?_eq_some_iff.1 hrow).1
      have HT := hide hT
      have k0 : W.cell? ⟨w.heap.size, 0, none⟩ = some (.int .i64 (wide (pg pre) : Nat)) := by rw [cell_of_row _ _ _ _ _ _ hT.c0]; rfl
      have f0 : W.frozen? ⟨w.heap.size, 0, none⟩ = false := by simp [World.frozen?, hT.c0]
      have hs7 := hT.sz
      have s0 : w.heap.size < W.heap.size := by omega
      have hwp := wide_pg pre
      generalize hm0 : wide (pg pre) = mm at *
      have Hm0 := hide hm0
      obtain ⟨mx, hmx⟩ : ∃ mx, mx = max mm (g - f) := ⟨_, rfl⟩
      rw [← hmx] at HSn
      have hmx1 : ∀ (ts : Array TypeId) (ty : TypeId) (W : World), (Builtin.max_ ts ty #[.int .i64 (mm : Nat), .int .i64 ((g : Int) - (f : Int))]).run Try.prog W = .ok (.int .i64 (mx : Nat)) W := fun ts ty W => by
        rw [run_max_int2]
        have : (if (g : Int) - (f : Int) > (mm : Int) then (g : Int) - (f : Int) else (mm : Int)) = (mx : Int) := by split <;> omega
        rw [this]
      clear hT hrow hr hl hlen hm0 hmx
      gi_wp2
      refine ⟨(KeepsOthers.setCell _ _ _).from _, (Kq.set (by omega) (by omega)).toZ, ⟨HT.out.bel.setCell (p := ⟨w.heap.size, 0, none⟩) (Nat.le_refl _) _, by simpa using HT.out.sz, ?_⟩⟩
      rw [HSn.out]
      exact st_hit HT.out.c0
    case done =>
      rintro D xs W hD hxs hT hK
      have HT := hide hT
      have HX := hide hxs
      have k0 : W.cell? ⟨w.heap.size, 0, none⟩ = some (.int .i64 (wide (pg xs) : Nat)) := by rw [cell_of_row _ _ _ _ _ _ hT.c0]; rfl
      have hs7 := hT.sz
      have s0 : w.heap.size < W.heap.size := by omega
      have HMk := hide ((Mk.nil (w.heap.size + 3) W).more (D := D) (by omega) hK (by simp))
      have HW2 := hide (show wide (pg xs) = wide (freeTo (tkn l) L) by rw [hxs])
      generalize wide (pg xs) = mm at *
      clear hT hxs hK
      go_wp2_with fail
      refine leave_ret (Ds := [D]) HMk.out fun W' hb' hk' => ⟨.int .i64 (mm : Nat), by simp [results, Try.results18, go_sem], by rw [HV.out, ← HW2.out], HT.out.bel.trans (hb'.mono (by omega))⟩
    case stop => exact fun _ _ _ _ _ _ h _ => h.elim
end Go.Proofs.Ytpnpbnfjhnmhjaa
