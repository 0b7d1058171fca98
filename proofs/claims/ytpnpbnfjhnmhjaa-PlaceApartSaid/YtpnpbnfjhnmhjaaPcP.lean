/-
  The rooms, as they are at first.
-/
import Derived.Test.YtpnpbnfjhnmhjaaPcQ
import Derived.Test.YtpnpbnfjhnmhjaaFcD
namespace Go.Proofs.Ytpnpbnfjhnmhjaa
open Go.RowKit Go.Shelf
attribute [local go_sem] Oper.semAt_some
set_option linter.unusedVariables false
set_option linter.unusedSimpArgs false
set_option maxRecDepth 100000

theorem NxM.below {W W' : World} {r : Nat} {f : Int → Int} (h : NxM W r f) (hb : Below W.heap.size W W') : NxM W' r f := by
  obtain ⟨l, c, h1, h2⟩ := h
  exact ⟨l, c, (hb.block _ (Array.getElem?_eq_some_iff.1 h1).1).trans h1, h2⟩
theorem NxM.same {W W' : World} {r : Nat} {f : Int → Int} (h : NxM W r f) (hb : W'.heap[r]? = W.heap[r]?) : NxM W' r f := by
  obtain ⟨l, c, h1, h2⟩ := h
  exact ⟨l, c, hb.trans h1, h2⟩
theorem NxM.kept {W W' : World} {r C : Nat} {f : Int → Int} (h : NxM W r f) {row : Option Nat} (hg : W.grownBy W' row) (hr : ∀ k, row = some k → C ≤ k) (hC : r < C) : NxM W' r f := by
  obtain ⟨l, c, h1, h2⟩ := h
  exact ⟨l, c, (hg.block _ (Array.getElem?_eq_some_iff.1 h1).1 fun e => by have := hr r e.symm; omega).trans h1, h2⟩
/-- what stands while rooms are made -/
structure Rb (w : World) (a : Nat) (pre : List PG) (W : World) : Prop where
  bel : Below w.heap.size w W
  sz : w.heap.size + 6 ≤ W.heap.size
  c0 : W.heap[w.heap.size]? = some (.cells #[.int .i64 (a : Nat)] 3 (0, 0))
  mp : NxM W (w.heap.size + 1) (fun _ => 0)
  c3 : W.heap[w.heap.size + 1 + 1 + 1]? = some (.cells #[.pointer (some ⟨w.heap.size + 1 + 1, 0, none⟩)] 52 (0, 0))
  st : ∃ v, W.heap[w.heap.size + 1 + 1]? = some (.cells #[.int .i64 (a : Nat), v, .map (some (w.heap.size + 1))] 59 (0, 0)) ∧ OwnA W (w.heap.size + 6) v (toI (roomsOf a (pg pre)))
theorem Rb.from {w A B : World} {a : Nat} {pre : List PG} {C : Nat} {row : Option Nat} (hs : Rb w a pre A) (hg : A.grownBy B row) (hr : ∀ r, row = some r → C ≤ r ∧ ∃ o : Obj, A.heap[r]? = some o ∧ o.isCells = false) (hC : w.heap.size + 6 ≤ C) : Rb w a pre B := by
  have := hs.sz
  obtain ⟨v, h1, h2⟩ := hs.st
  exact ⟨hs.bel.grown hg (by omega) (fun k e => by have := (hr k e).1; omega), Nat.le_trans hs.sz hg.size, row_kept hs.c0 hg hr, hs.mp.kept hg (fun k e => (hr k e).1) (by omega), row_kept hs.c3 hg hr, v, row_kept h1 hg hr, own_kept h2 hg fun r e => ⟨Nat.le_trans hC (hr r e).1, (hr r e).2⟩⟩
/-- the loop's own variable, in a box that is no list -/
def AxR (B gl ol : Nat) (tm : Value → Value → Array Value) (x : PG) (a : Act) (W : World) : Prop :=
  ∃ Bx, B ≤ Bx ∧ gl < W.heap.size ∧ lbQ gl ol W ≠ some Bx ∧ W.heap[Bx]? = some (.cells #[.int .i64 (x.1.1 : Nat), .int .i64 (x.1.2 : Nat)] 37 (0, 0)) ∧ a = { tmps := tm (.pointer (some ⟨Bx, 0, none⟩)) (.agg #[.int .i64 (x.1.1 : Nat), .int .i64 (x.1.2 : Nat)]), defers := [] }
/-- what an append has made -/
structure App (W1 : World) (E : Obj) (v : Value) (B n : Nat) (ys : List Value) (v4 : Value) (w4 : World) : Prop where
  gr : (W1.alloc E).grownBy w4 v.ownBlock
  ow : w4.ownsRow B 37 2 v4 (n + 1) ys
  wh : v4.ownBlock = v.ownBlock ∨ v4.ownBlock = some (W1.alloc E).heap.size
/-- one fact for each operation of the region that lays one more room -/
def rmF (W1 : World) (gl gp Bx : Nat) (av mv v : Value) (u g : Int) (B n : Nat) (ys : List Value) (j : Nat) (vals : Nat → Value) (W : World) : Prop :=
  match j with
  | 0 => vals 0 = .pointer (some ⟨gl, 0, none⟩)
  | 1 => vals 1 = .pointer (some ⟨gl, 0, none⟩)
  | 2 => vals 2 = .pointer (some ⟨gl, 0, none⟩)
  | 3 => vals 3 = .pointer (some ⟨gl, 1, none⟩)
  | 4 => vals 4 = v
  | 5 => vals 5 = .agg #[.int .i64 u, .int .i64 g]
  | 6 => W = W1.alloc (.cells #[.int .i64 u, .int .i64 g] 37) ∧ vals 6 = .slice (some ⟨W1.heap.size, 0, none⟩) 1 1
  | 7 => App W1 (.cells #[.int .i64 u, .int .i64 g] 37) v B n ys (vals 7) W
  | 8 => vals 8 = .pointer (some ⟨gl, 0, none⟩)
  | 9 => vals 9 = .pointer (some ⟨gl, 1, none⟩)
  | 10 => ∃ v4 w4, App W1 (.cells #[.int .i64 u, .int .i64 g] 37) v B n ys v4 w4 ∧ W = w4.setCell ⟨gl, 1, none⟩ v4
  | 11 => W = W1
  | 12 => W.heap[gl]? = some (.cells #[av, v, mv] 59 (0, 0))
  | _ => True
def rmT (j : Nat) : Nat := if j = 6 then 7 else if j = 7 then 10 else if j = 11 then 6 else if j = 12 then 10 else 100
def rmM (j : Nat) : List Nat := if 11 ≤ j then [] else [j]
theorem rm_mb {B : Nat → Nat → Bool} : ∀ j k, k ∈ rmM j → k ≠ j → B j k = true := by
  intro j i hi hij
  unfold rmM at hi
  split at hi
  · cases hi
  · exact absurd (List.mem_singleton.1 hi) hij
theorem rm_sup {W1 : World} {gl gp Bx : Nat} {av mv v : Value} {u g : Int} {B n : Nat} {ys : List Value} : ∀ j vals vals' W, (∀ i ∈ rmM j, vals i = vals' i) → rmF W1 gl gp Bx av mv v u g B n ys j vals W → rmF W1 gl gp Bx av mv v u g B n ys j vals' W := by
  intro j vals vals' W h hF
  by_cases hj : 11 ≤ j
  · have : rmF W1 gl gp Bx av mv v u g B n ys j vals W = rmF W1 gl gp Bx av mv v u g B n ys j vals' W := by
      match j, hj with
      | 11, _ => rfl
      | 12, _ => rfl
      | n + 13, _ => rfl
    rw [← this]; exact hF
  · have e : vals j = vals' j := h j (by unfold rmM; rw [if_neg hj]; simp)
    match j, hj with
    | 0, _ => (dsimp only [rmF] at hF ⊢; rw [← e]; exact hF)
    | 1, _ => (dsimp only [rmF] at hF ⊢; rw [← e]; exact hF)
    | 2, _ => (dsimp only [rmF] at hF ⊢; rw [← e]; exact hF)
    | 3, _ => (dsimp only [rmF] at hF ⊢; rw [← e]; exact hF)
    | 4, _ => (dsimp only [rmF] at hF ⊢; rw [← e]; exact hF)
    | 5, _ => (dsimp only [rmF] at hF ⊢; rw [← e]; exact hF)
    | 6, _ => exact ⟨hF.1, e ▸ hF.2⟩
    | 7, _ => (dsimp only [rmF] at hF ⊢; rw [← e]; exact hF)
    | 8, _ => (dsimp only [rmF] at hF ⊢; rw [← e]; exact hF)
    | 9, _ => (dsimp only [rmF] at hF ⊢; rw [← e]; exact hF)
    | 10, _ => exact hF
    | n + 11, hj => omega
/-- what holds all along -/
structure RmC (gl gp Bx : Nat) (u g : Int) (W : World) : Prop where
  p : W.heap[gp]? = some (.cells #[.pointer (some ⟨gl, 0, none⟩)] 52 (0, 0))
  x : W.heap[Bx]? = some (.cells #[.int .i64 u, .int .i64 g] 37 (0, 0))
  l : gl < W.heap.size
/-- a turn of one's own span's first number -/
theorem Kz.first {b0 m gl ol : Nat} {W : World} {Bx : Nat} {x0 x1 : Value} {v : Value} (hx : W.heap[Bx]? = some (.cells #[x0, x1] 37 (0, 0))) (hgl : gl ≠ Bx) : Kz b0 m gl ol W (W.setCell ⟨Bx, 0, none⟩ v) := by
  have hc : (W.setCell ⟨Bx, 0, none⟩ v).heap[gl]? = W.heap[gl]? := setCell_other hgl
  refine ⟨by simp, fun a ha => .inl ?_, fun k cs t fr hk hb _ => ?_⟩
  · rw [lbQ_same hc] at ha; exact ha
  · by_cases e : k = Bx
    · subst e
      rw [hx] at hk
      cases hk
      refine ⟨#[v, x1], by rw [set_cells hx]; rfl, fun h => absurd rfl h, fun j hj => ?_⟩
      rcases j with _ | _ | j
      · omega
      · rfl
      · simp
    · exact ⟨cs, by rw [setCell_other e]; exact hk, fun _ => rfl, fun _ _ => rfl⟩

theorem rm_still {W1 W W' : World} {gl gp Bx : Nat} {av mv v : Value} {u g : Int} {B n : Nat} {ys : List Value} {j : Nat} {vals : Nat → Value} (hj : j < 6 ∨ j = 8 ∨ j = 9 ∨ 13 ≤ j) (h : rmF W1 gl gp Bx av mv v u g B n ys j vals W) : rmF W1 gl gp Bx av mv v u g B n ys j vals W' := by
  match j, hj with
  | 0, _ => exact h
  | 1, _ => exact h
  | 2, _ => exact h
  | 3, _ => exact h
  | 4, _ => exact h
  | 5, _ => exact h
  | 6, hj => omega
  | 7, hj => omega
  | 8, _ => exact h
  | 9, _ => exact h
  | 10, hj => omega
  | 11, hj => omega
  | 12, hj => omega
  | k + 13, _ => exact h
/-- what newRooms answers: rooms in blocks of one's own -/
structure RmS (w W : World) (a : Nat) (R : List (Nat × Nat)) (f : Int → Int) : Prop where
  bel : Below w.heap.size w W
  mp : NxM W (w.heap.size + 1) f
  st : ∃ v, W.heap[w.heap.size + 1 + 1]? = some (.cells #[.int .i64 (a : Nat), v, .map (some (w.heap.size + 1))] 59 (0, 0)) ∧ OwnA W (w.heap.size + 6) v (toI R)
theorem roomsOf_snoc (a : Nat) (L : List (Nat × Nat)) (s : Nat × Nat) : roomsOf a (L ++ [s]) = roomsOf a L ++ [(upF s.1 a, s.2)] := by simp [roomsOf]
theorem roomsOf_len (a : Nat) (L : List (Nat × Nat)) : (roomsOf a L).length = L.length := by simp [roomsOf]

theorem six_objs (w : World) (o0 o1 o2 o3 o4 o5 : Obj) (W0 : World) (h : W0 = (((((w.alloc o0).alloc o1).alloc o2).alloc o3).alloc o4).alloc o5) :
    Below w.heap.size w W0 ∧ W0.heap.size = w.heap.size + 6 ∧ W0.heap[w.heap.size]? = some o0 ∧ W0.heap[w.heap.size + 1]? = some o1 ∧ W0.heap[w.heap.size + 1 + 1]? = some o2 ∧
      W0.heap[w.heap.size + 1 + 1 + 1]? = some o3 ∧ W0.heap[w.heap.size + 1 + 1 + 1 + 1]? = some o4 ∧ W0.heap[w.heap.size + 1 + 1 + 1 + 1 + 1]? = some o5 := by
  subst h
  have n0 := heap_alloc_new w o0
  have n1 := heap_alloc_new (w.alloc o0) o1
  have n2 := heap_alloc_new ((w.alloc o0).alloc o1) o2
  have n3 := heap_alloc_new (((w.alloc o0).alloc o1).alloc o2) o3
  have n4 := heap_alloc_new ((((w.alloc o0).alloc o1).alloc o2).alloc o3) o4
  have n5 := heap_alloc_new (((((w.alloc o0).alloc o1).alloc o2).alloc o3).alloc o4) o5
  simp only [World.size_alloc] at n1 n2 n3 n4 n5
  refine ⟨(((((bal w _).alloc (by simp) _).alloc (by simp; omega) _).alloc (by simp; omega) _).alloc (by simp; omega) _).alloc (by simp; omega) _, by simp, ?_, ?_, ?_, ?_, ?_, n5⟩
  · exact (heap_alloc_old _ _ (by simp only [World.size_alloc]; omega)).trans ((heap_alloc_old _ _ (by simp only [World.size_alloc]; omega)).trans ((heap_alloc_old _ _ (by simp only [World.size_alloc]; omega)).trans ((heap_alloc_old _ _ (by simp only [World.size_alloc]; omega)).trans ((heap_alloc_old _ _ (by simp only [World.size_alloc]; omega)).trans n0))))
  · exact (heap_alloc_old _ _ (by simp only [World.size_alloc]; omega)).trans ((heap_alloc_old _ _ (by simp only [World.size_alloc]; omega)).trans ((heap_alloc_old _ _ (by simp only [World.size_alloc]; omega)).trans ((heap_alloc_old _ _ (by simp only [World.size_alloc]; omega)).trans n1)))
  · exact (heap_alloc_old _ _ (by simp only [World.size_alloc]; omega)).trans ((heap_alloc_old _ _ (by simp only [World.size_alloc]; omega)).trans ((heap_alloc_old _ _ (by simp only [World.size_alloc]; omega)).trans n2))
  · exact (heap_alloc_old _ _ (by simp only [World.size_alloc]; omega)).trans ((heap_alloc_old _ _ (by simp only [World.size_alloc]; omega)).trans n3)
  · exact (heap_alloc_old _ _ (by simp only [World.size_alloc]; omega)).trans n4

set_option maxHeartbeats 8000000 in
theorem rooms_at (l : List Ai) (A : Option Addr) (c a L : Nat) (w : World) (hI : Sps w A l) (hl : l.length ≤ 1000) (ha0 : 0 < a) (ha : a ≤ 1048576) (hL : L ≤ 1048576) (hf : (freeTo (tkn l) L).length ≤ 100000) :
    Calls Try.prog 28 #[.slice A l.length c, .int .i64 (a : Nat), .int .i64 (L : Nat)] w fun e w' => e = .returned (.pointer (some ⟨w.heap.size + 1 + 1, 0, none⟩)) ∧ RmS w w' a (roomsOf a (freeTo (tkn l) L)) (fun _ => 0) := by
  have HI := hide hI
  have HLe := hide hl
  have HFl := hide hf
  obtain ⟨N, hN⟩ : ∃ N, N = l.length := ⟨_, rfl⟩
  have HN := hide hN
  rw [← hN] at hl ⊢
  clear hI hN hf
  have hmk : ∀ W : World, (Instr.makeMap 57 none).run Try.prog W = .ok (.map (some W.heap.size)) (W.alloc (.map #[] 0)) := fun W => rfl
  refine calls_of_wp_marks Try.func28 rfl ?_
  simp only [Try.ntmps28, List.size_toArray, List.length_cons, List.length_nil, Nat.reduceAdd, Nat.reduceSub, Array.replicate_succ, Array.replicate_zero, List.push_toArray, List.append_toArray, List.nil_append, List.cons_append]
  have HW0 := hide (six_objs w (.cells #[.int .i64 (a : Nat)] 3) (.map #[] 0) (.cells #[.int .i64 (a : Nat), .slice none 0 0, .map (some (w.heap.size + 1))] 59) (.cells #[.pointer (some ⟨w.heap.size + 1 + 1, 0, none⟩)] 52) (.cells #[.slice A N c] 22) (.cells #[.int .i64 (L : Nat)] 3) _ rfl)
  go_wp2_with fail
  refine (free_mk A N c (L : Nat) _).mono ?_
  rintro e w1 ⟨rfl, rfl⟩
  go_wp2_with fail
  generalize (((((w.alloc (.cells #[.int .i64 (a : Nat)] 3)).alloc (.map #[] 0)).alloc (.cells #[.int .i64 (a : Nat), .slice none 0 0, .map (some (w.heap.size + 1))] 59)).alloc (.cells #[.pointer (some ⟨w.heap.size + 1 + 1, 0, none⟩)] 52)).alloc (.cells #[.slice A N c] 22)).alloc (.cells #[.int .i64 (L : Nat)] 3) = W5 at *
  obtain ⟨hB0, hS0, b0, b1, b2, b3, b4, b5⟩ := HW0.out
  have HF0 := hide (show Rb w a [] W5 from ⟨hB0, by omega, b0, ⟨[], 0, b1, fun k => rfl⟩, b3, _, b2, World.ownsRow_nil _ _ _ _⟩)
  have hlq : lbQ (w.heap.size + 1 + 1) 1 W5 = none := by unfold lbQ; rw [cell_of_row _ _ _ _ _ _ b2]; rfl
  have HLb := hide (show Lb w.heap.size 4 (w.heap.size + 1 + 1) 1 W5 from ⟨by omega, by omega, fun x h => by rw [hlq] at h; cases h⟩)
  have HAp := hide (show Ap w.heap.size 4 (w.heap.size + 1 + 1) 1 (w.heap.size + 1 + 1 + 1 + 1 + 1) W5 from ⟨by omega, by rw [hlq]; intro h; cases h⟩)
  have HI5 := hide (HI.out.of_below HF0.out.bel (Nat.le_refl _))
  have HT5 := hide b4
  have HL5 := hide b5
  have hw5 : w.heap.size + 6 ≤ W5.heap.size := by omega
  clear hB0 hS0 b0 b1 b2 b3 b4 b5 hlq HW0 HI hmk
  refine (wpIn_wide (n := 2)).1 ?_
  refine wpIn_rangeFunc_ownH rfl (by omega) rfl trivial (enters_of Try.func31 (by kernel_rfl) rfl) (free_stops (2 - 1) w.heap.size 4 (w.heap.size + 1 + 1) 1 (w.heap.size + 1 + 1 + 1 + 1) (w.heap.size + 1 + 1 + 1 + 1 + 1) l A c L HLe.out (by omega) W5 HLb.out (by rw [← HN.out]; exact HT5.out) HL5.out HAp.out HI5.out)
    (fun h k => h.trans k) (fun W l o o' hl hlo ho _ => Kz.put (by omega) hlo ho) (Below.refl _ _) (fun _ => rfl) (Rb w a) (fun _ _ _ => False) (fun p A B row hs hg hr => hs.from hg hr hw5) (fun c p A B row hs hg hr => hs) HF0.out
    (AxR (w.heap.size + 6) (w.heap.size + 1 + 1) 1 (fun p v => #[.slice A N c, .int .i64 (a : Nat), .int .i64 (L : Nat), undef, .pointer (some ⟨w.heap.size, 0, none⟩), undef, .pointer none, .pointer (some ⟨w.heap.size + 1 + 1 + 1, 0, none⟩), p, .int .i64 (a : Nat), .map (some (w.heap.size + 1)), .agg #[.int .i64 (a : Nat), .slice none 0 0, .map (some (w.heap.size + 1))], .pointer (some ⟨w.heap.size + 1 + 1, 0, none⟩), .slice A N c, .int .i64 (L : Nat),
      .func (.func 31) #[] #[.pointer (some ⟨w.heap.size + 1 + 1 + 1 + 1, 0, none⟩), .pointer (some ⟨w.heap.size + 1 + 1 + 1 + 1 + 1, 0, none⟩)], v, undef, undef, undef, undef, undef, undef, undef, undef, undef, undef, undef, undef, undef, undef, undef, undef])) (fun x a' u A B row hs hg hr => ?ax) ?assign ?body ?done ?stop
  case ax =>
    obtain ⟨Bx, h1, h0, h2, h3, h4⟩ := hs
    have hgl : w.heap.size + 1 + 1 < A.heap.size := h0
    refine ⟨Bx, h1, by have := hg.size; omega, ?_, row_kept h3 hg hr, h4⟩
    rw [lbQ_same (hg.block _ hgl fun e => by have := (hr _ e.symm).1; omega)]
    exact h2
  case assign =>
    intro ly pre x W K hT hK
    have HT := hide hT
    have HK := hide hK
    have hWs := hT.sz
    clear hT hK
    obtain ⟨⟨f, g⟩, hx⟩ := x
    simp only [pgEnc]
    gi_wp2
    refine HK.out _ _ ((KeepsOthers.alloc _ _).from _) (Kq.new (bal W _) (by omega)).toZ (HT.out.from (World.grownBy_alloc W _ none) (C := w.heap.size + 6) (fun r e => by cases e) (Nat.le_refl _)) ⟨W.heap.size, by omega, by simp; omega, fun e => ?_, heap_alloc_new W _, rfl⟩
    rw [lbQ_same ((bal W _).block _ (by omega))] at e
    obtain ⟨v, h1, h2⟩ := HT.out.st
    rw [own_lbQ (v := v) (by rw [cell_of_row _ _ _ _ _ _ h1]; rfl) h2] at e
    have := (own_block h2 e).1
    omega
  case body =>
    rintro ly pre x a' W hl ⟨r, hr⟩ hT ⟨Bx, hB, hglW, hne, hrow, rfl⟩ hlen
    obtain ⟨⟨f, g⟩, hx⟩ := x
    have HSn := hide (show toI (roomsOf a (pg (pre ++ [⟨(f, g), hx⟩]))) = toI (roomsOf a (pg pre)) ++ [(((upF f a : Nat) : Int), (g : Int))] from by rw [pg_snoc, roomsOf_snoc, toI_snoc])
    dsimp only at hx hrow ⊢
    have d0 : W.cell? ⟨Bx, 0, none⟩ = some (.int .i64 (f : Nat)) := by rw [cell_of_row _ _ _ _ _ _ hrow]; rfl
    have d1 : W.cell? ⟨Bx, 1, none⟩ = some (.int .i64 (g : Nat)) := by rw [cell_of_row _ _ _ _ _ _ hrow]; rfl
    have hBl : Bx < W.heap.size := (Array.getElem?_eq_some_iff.1 hrow).1
    have fx : W.frozen? ⟨Bx, 0, none⟩ = false := by simp [World.frozen?, hrow]
    have HT := hide hT
    have HRow := hide hrow
    obtain ⟨v, hv1, hv2⟩ := hT.st
    rw [own_lbQ (v := v) (by rw [cell_of_row _ _ _ _ _ _ hv1]; rfl) hv2] at hne
    obtain ⟨Av, cv, rfl⟩ := own_slice hv2
    have HLn := hide (show (toI (roomsOf a (pg pre))).length = pre.length from by rw [toI_len, roomsOf_len, pg_len])
    rw [HLn.out] at hv1 hv2 hne
    have HNe := hide hne
    have HV1 := hide hv1
    have HV2 := hide (show W.ownsRow (w.heap.size + 6) 37 2 (.slice Av pre.length cv) pre.length (flatA (toI (roomsOf a (pg pre)))) from by unfold OwnA at hv2; rw [HLn.out] at hv2; exact hv2)
    have hpl : pre.length ≤ 100000 := by have := HFl.out; omega
    have k0 : W.cell? ⟨w.heap.size, 0, none⟩ = some (.int .i64 (a : Nat)) := by rw [cell_of_row _ _ _ _ _ _ hT.c0]; rfl
    have hs7 := hT.sz
    have s0 : w.heap.size < W.heap.size := by omega
    have HUp := hide (up_at f a ha0 (by omega) (by omega) W)
    have HUle := hide (upF_lt (n := f) ha0)
    generalize pre.length = M at *
    generalize hu : upF f a = u at *
    clear hT hrow hr hl hlen hv1 hv2 hne hu
    gi_wp2
    refine ⟨trivial, rfl, (CallsIn.inRound ly (callsIn_wide.2 HUp.out)).mono ?_⟩
    rintro e W1 ⟨rfl, rfl⟩
    gi_wp2
    have hsz1 : (W.setCell ⟨Bx, 0, none⟩ (.int .i64 (u : Nat))).heap.size = W.heap.size := by simp
    have HKo := hide (show KeepsOthers W (W.setCell ⟨Bx, 0, none⟩ (.int .i64 (u : Nat))) from KeepsOthers.setCell _ _ _)
    have HKz := hide (Kz.first (b0 := w.heap.size) (m := 4) (gl := w.heap.size + 1 + 1) (ol := 1) (v := .int .i64 (u : Nat)) HRow.out (by omega))
    have HX := hide (show (W.setCell ⟨Bx, 0, none⟩ (.int .i64 (u : Nat))).heap[Bx]? = some (.cells #[.int .i64 (u : Nat), .int .i64 (g : Nat)] 37 (0, 0)) from by rw [set_cells HRow.out]; rfl)
    have HP := hide (show (W.setCell ⟨Bx, 0, none⟩ (.int .i64 (u : Nat))).heap[w.heap.size + 1 + 1 + 1]? = _ from (setCell_other (by omega)).trans HT.out.c3)
    have HV1' := hide (show (W.setCell ⟨Bx, 0, none⟩ (.int .i64 (u : Nat))).heap[w.heap.size + 1 + 1]? = _ from (setCell_other (by omega)).trans HV1.out)
    have HV2' := hide (own_stands HV2.out (W' := W.setCell ⟨Bx, 0, none⟩ (.int .i64 (u : Nat))) fun j hj => setCell_other fun e => HNe.out (by rw [hj, e]))
    have HC0 := hide (show (W.setCell ⟨Bx, 0, none⟩ (.int .i64 (u : Nat))).heap[w.heap.size]? = _ from (setCell_other (by omega)).trans HT.out.c0)
    have HMp := hide (HT.out.mp.same (W' := W.setCell ⟨Bx, 0, none⟩ (.int .i64 (u : Nat))) (setCell_other (by omega)))
    have HBel := hide (HT.out.bel.setCell (p := ⟨Bx, 0, none⟩) (by show w.heap.size ≤ Bx; omega) (.int .i64 (u : Nat)))
    generalize W.setCell ⟨Bx, 0, none⟩ (.int .i64 (u : Nat)) = Wb at *
    clear d0 d1 fx k0 HRow HV1 HV2 HT HUp
    refine wpIn_region_facts (RmC (w.heap.size + 1 + 1) (w.heap.size + 1 + 1 + 1) Bx (u : Nat) (g : Nat)) (rmF (Wb.drewN 1) (w.heap.size + 1 + 1) (w.heap.size + 1 + 1 + 1) Bx (.int .i64 (a : Nat)) (.map (some (w.heap.size + 1))) (.slice Av M cv) (u : Nat) (g : Nat) (w.heap.size + 6) M (flatA (toI (roomsOf a (pg pre))) ++ [.int .i64 (u : Nat), .int .i64 (g : Nat)])) rmT rmM (fun j hj => if_pos hj) rm_mb rm_sup (by kernel_rfl) (by kernel_rfl) ⟨HP.out, HX.out, by show w.heap.size + 1 + 1 < Wb.heap.size; omega⟩ ?ini ?steps ?fin
    case ini =>
      intro j hj
      have hj' : 11 ≤ j := hj
      match j, hj' with
      | 11, _ => rfl
      | 12, _ => exact HV1'.out
      | n + 13, _ => trivial
    case steps =>
      refine AllFrom.cons (step_isIn (by kernel_rfl) (fun _ _ => rfl) (fun _ => rfl) ?s0) (AllFrom.cons (i := 1) (step_isIn (by kernel_rfl) (fun _ _ => rfl) (fun _ => rfl) ?s1) (AllFrom.cons (i := 2) (step_isIn (by kernel_rfl) (fun _ _ => rfl) (fun _ => rfl) ?s2) (AllFrom.cons (i := 3) (step_isIn (by kernel_rfl) (fun _ _ => rfl) (fun _ => rfl) ?s3) (AllFrom.cons (i := 4) (step_isIn (by kernel_rfl) (fun _ _ => rfl) (fun _ => rfl) ?s4) (AllFrom.cons (i := 5) (step_isIn (by kernel_rfl) (fun _ _ => rfl) (fun _ => rfl) ?s5) (AllFrom.cons (i := 6) (step_runIn (by kernel_rfl) (fun _ _ => rfl) (fun _ => rfl) ?s6) (AllFrom.cons (i := 7) (step_runIn (by kernel_rfl) (fun _ _ => rfl) (fun _ => rfl) ?s7) (AllFrom.cons (i := 8) (step_isIn (by kernel_rfl) (fun _ _ => rfl) (fun _ => rfl) ?s8) (AllFrom.cons (i := 9) (step_isIn (by kernel_rfl) (fun _ _ => rfl) (fun _ => rfl) ?s9) (AllFrom.cons (i := 10) (step_runIn (by kernel_rfl) (fun _ _ => rfl) (fun _ => rfl) ?s10) (trivial)))))))))))
      case s0 =>
        intro L' vals W2 ρ hI hi hdep hnew hold hc
        have e0 : ρ (.tmp 7) = .pointer (some ⟨w.heap.size + 1 + 1 + 1, 0, none⟩) := (hold 7 (by kernel_rfl)).trans (by kernel_rfl)
        have p0 : W2.cell? ⟨w.heap.size + 1 + 1 + 1, 0, none⟩ = some (.pointer (some ⟨w.heap.size + 1 + 1, 0, none⟩)) := by rw [cell_of_row _ _ _ _ _ _ hI.com.p]; rfl
        refine ⟨.pointer (some ⟨w.heap.size + 1 + 1, 0, none⟩), ?_, by simp [rmF, upd]⟩
        simp [execOp, e0, go_sem, p0]
      case s1 =>
        intro L' vals W2 ρ hI hi hdep hnew hold hc
        have e0 : ρ (.tmp 7) = .pointer (some ⟨w.heap.size + 1 + 1 + 1, 0, none⟩) := (hold 7 (by kernel_rfl)).trans (by kernel_rfl)
        have p0 : W2.cell? ⟨w.heap.size + 1 + 1 + 1, 0, none⟩ = some (.pointer (some ⟨w.heap.size + 1 + 1, 0, none⟩)) := by rw [cell_of_row _ _ _ _ _ _ hI.com.p]; rfl
        refine ⟨.pointer (some ⟨w.heap.size + 1 + 1, 0, none⟩), ?_, by simp [rmF, upd]⟩
        simp [execOp, e0, go_sem, p0]
      case s2 =>
        intro L' vals W2 ρ hI hi hdep hnew hold hc
        have e0 : ρ (.tmp 23) = .pointer (some ⟨w.heap.size + 1 + 1, 0, none⟩) := (hnew 1 23 (dep hdep 1 (by kernel_rfl)) (by kernel_rfl) (of_decide_eq_true (by kernel_rfl)) (of_decide_eq_true (by kernel_rfl))).trans (hI.fact 1 (.inr (dep hdep 1 (by kernel_rfl))) (neverW hI (of_decide_eq_true (by kernel_rfl))))
        refine ⟨.pointer (some ⟨w.heap.size + 1 + 1, 0, none⟩), ?_, by simp [rmF, upd]⟩
        simp [execOp, e0, go_sem]
      case s3 =>
        intro L' vals W2 ρ hI hi hdep hnew hold hc
        have e0 : ρ (.tmp 24) = .pointer (some ⟨w.heap.size + 1 + 1, 0, none⟩) := (hnew 2 24 (dep hdep 2 (by kernel_rfl)) (by kernel_rfl) (of_decide_eq_true (by kernel_rfl)) (of_decide_eq_true (by kernel_rfl))).trans (hI.fact 2 (.inr (dep hdep 2 (by kernel_rfl))) (neverW hI (of_decide_eq_true (by kernel_rfl))))
        refine ⟨.pointer (some ⟨w.heap.size + 1 + 1, 1, none⟩), ?_, by simp [rmF, upd]⟩
        simp [execOp, e0, go_sem]
      case s4 =>
        intro L' vals W2 ρ hI hi hdep hnew hold hc
        have e0 : ρ (.tmp 25) = .pointer (some ⟨w.heap.size + 1 + 1, 1, none⟩) := (hnew 3 25 (dep hdep 3 (by kernel_rfl)) (by kernel_rfl) (of_decide_eq_true (by kernel_rfl)) (of_decide_eq_true (by kernel_rfl))).trans (hI.fact 3 (.inr (dep hdep 3 (by kernel_rfl))) (neverW hI (of_decide_eq_true (by kernel_rfl))))
        have h7 := hI.ahead hi 7 (by kernel_rfl)
        have h10 := hI.ahead h7 10 (by kernel_rfl)
        have hrw : W2.heap[w.heap.size + 1 + 1]? = some (.cells #[.int .i64 (a : Nat), .slice Av M cv, .map (some (w.heap.size + 1))] 59 (0, 0)) := hI.fact 12 (.inl (of_decide_eq_true (by kernel_rfl))) h10
        have p0 : W2.cell? ⟨w.heap.size + 1 + 1, 1, none⟩ = some (.slice Av M cv) := by rw [cell_of_row _ _ _ _ _ _ hrw]; rfl
        refine ⟨.slice Av M cv, ?_, by simp [rmF, upd]⟩
        simp [execOp, e0, go_sem, p0]
      case s5 =>
        intro L' vals W2 ρ hI hi hdep hnew hold hc
        have e0 : ρ (.tmp 8) = .pointer (some ⟨Bx, 0, none⟩) := (hold 8 (by kernel_rfl)).trans (by kernel_rfl)
        have p0 : W2.cell? ⟨Bx, 0, none⟩ = some (.int .i64 (u : Nat)) := by rw [cell_of_row _ _ _ _ _ _ hI.com.x]; rfl
        have p1 : W2.cell? ⟨Bx, 1, none⟩ = some (.int .i64 (g : Nat)) := by rw [cell_of_row _ _ _ _ _ _ hI.com.x]; rfl
        refine ⟨.agg #[.int .i64 (u : Nat), .int .i64 (g : Nat)], ?_, by simp [rmF, upd]⟩
        simp [execOp, e0, go_sem, p0, p1]
      case s6 =>
        intro L' vals W2 ρ hI hi hdep hnew hold hc
        have hW : W2 = Wb.drewN 1 := hI.fact 11 (.inl (of_decide_eq_true (by kernel_rfl))) hi
        have e0 : ρ (.tmp 27) = .agg #[.int .i64 (u : Nat), .int .i64 (g : Nat)] := (hnew 5 27 (dep hdep 5 (by kernel_rfl)) (by kernel_rfl) (of_decide_eq_true (by kernel_rfl)) (of_decide_eq_true (by kernel_rfl))).trans (hI.fact 5 (.inr (dep hdep 5 (by kernel_rfl))) (neverW hI (of_decide_eq_true (by kernel_rfl))))
        have h7 := hI.ahead hi 7 (by kernel_rfl)
        have h10 := hI.ahead h7 10 (by kernel_rfl)
        refine ⟨.slice (some ⟨W2.heap.size, 0, none⟩) 1 1, W2.alloc (.cells #[.int .i64 (u : Nat), .int .i64 (g : Nat)] 37), .inl ?_, ⟨(heap_alloc_old W2 _ (Array.getElem?_eq_some_iff.1 hI.com.p).1).trans hI.com.p, (heap_alloc_old W2 _ (Array.getElem?_eq_some_iff.1 hI.com.x).1).trans hI.com.x, by have := hI.com.l; simp; omega⟩, ?_, ?_⟩
        · simp [execOp, e0, go_sem]
        · rw [hW]; exact ⟨rfl, by simp [upd]⟩
        · intro j hji hTj hd hT
          by_cases hj : j < 6 ∨ j = 8 ∨ j = 9 ∨ 13 ≤ j
          · exact rm_still hj (hI.fact j hd hT)
          · have : j = 6 ∨ j = 7 ∨ j = 10 ∨ j = 11 ∨ j = 12 := by omega
            rcases this with rfl | rfl | rfl | rfl | rfl
            · exact absurd rfl hji
            · rcases hd with hd | hd
              · exact absurd hd (of_decide_eq_false (by kernel_rfl))
              · rw [h7] at hd; cases hd
            · rcases hd with hd | hd
              · exact absurd hd (of_decide_eq_false (by kernel_rfl))
              · rw [h10] at hd; cases hd
            · exact absurd rfl hTj
            · have h12 := hI.fact 12 hd hT
              exact (heap_alloc_old W2 _ (Array.getElem?_eq_some_iff.1 h12).1).trans h12
      case s7 =>
        intro L' vals W2 ρ hI hi hdep hnew hold hc
        have h6 : W2 = (Wb.drewN 1).alloc (.cells #[.int .i64 (u : Nat), .int .i64 (g : Nat)] 37) ∧ vals 6 = .slice (some ⟨(Wb.drewN 1).heap.size, 0, none⟩) 1 1 := hI.fact 6 (.inr (dep hdep 6 (by kernel_rfl))) hi
        obtain ⟨hW, h28⟩ := h6
        have e0 : ρ (.tmp 26) = .slice Av M cv := (hnew 4 26 (dep hdep 4 (by kernel_rfl)) (by kernel_rfl) (of_decide_eq_true (by kernel_rfl)) (of_decide_eq_true (by kernel_rfl))).trans (hI.fact 4 (.inr (dep hdep 4 (by kernel_rfl))) (neverW hI (of_decide_eq_true (by kernel_rfl))))
        have e1 : ρ (.tmp 28) = .slice (some ⟨(Wb.drewN 1).heap.size, 0, none⟩) 1 1 := (hnew 6 28 (dep hdep 6 (by kernel_rfl)) (by kernel_rfl) (of_decide_eq_true (by kernel_rfl)) (of_decide_eq_true (by kernel_rfl))).trans h28
        have h10 := hI.ahead hi 10 (by kernel_rfl)
        have hown : W2.ownsRow (w.heap.size + 6) 37 2 (.slice Av M cv) M (flatA (toI (roomsOf a (pg pre)))) := by
          rw [hW]
          exact own_below (own_stands HV2'.out (W' := (Wb.drewN 1)) fun _ _ => rfl) (bal _ _) (Nat.le_refl _)
        have hq : W2.heap[(Wb.drewN 1).heap.size]? = some (.cells #[.int .i64 (u : Nat), .int .i64 (g : Nat)] 37 (0, 0)) := by rw [hW]; exact heap_alloc_new _ _
        rcases hi' : Try.prog.info? 37 with _ | i
        · have := info_span; rw [hi'] at this; cases this
        have hinf := info_span
        rw [hi'] at hinf
        simp only [Option.map_some, Option.some.injEq, Prod.mk.injEq] at hinf
        obtain ⟨hz, hs1, hby⟩ := hinf
        obtain ⟨v', w', hr, r1, r2, _, r3⟩ := run_append_own_at (P := Try.prog) W2 (w.heap.size + 6) 22 22 37 i _ 2 16 under_spans hi' hz hs1 hby rfl (by decide) _ M _ hown ⟨(Wb.drewN 1).heap.size, 0, none⟩ 1 1 [.int .i64 (u : Nat), .int .i64 (g : Nat)] rfl (fun j y hy => by rw [plain_add, cell_of_row _ _ _ _ _ _ hq]; simpa using hy) (by simp [Value.oneCell']) (by simp only [maxLen]; omega) (by omega) (by rw [hW]; show w.heap.size + 6 ≤ (Wb.alloc _).heap.size; simp; omega)
        have hkeep : ∀ k, k < W2.heap.size → (Value.slice Av M cv).ownBlock ≠ some k → w'.heap[k]? = W2.heap[k]? := fun k h1 h2 => r2.block k h1 fun e => h2 e.symm
        have hgp : (Value.slice Av M cv).ownBlock ≠ some (w.heap.size + 1 + 1 + 1) := fun e => by have := (own_block HV2'.out e).2.1; omega
        have hgg : (Value.slice Av M cv).ownBlock ≠ some (w.heap.size + 1 + 1) := fun e => by have := (own_block HV2'.out e).2.1; omega
        refine ⟨v', w', .inl ?_, ⟨(hkeep _ (Array.getElem?_eq_some_iff.1 hI.com.p).1 hgp).trans hI.com.p, (hkeep _ (Array.getElem?_eq_some_iff.1 hI.com.x).1 HNe.out).trans hI.com.x, by have := hI.com.l; have := r2.size; omega⟩, ?_, ?_⟩
        · have hr' := hr
          rw [show (Wb.drewN 1).heap.size = Wb.heap.size from rfl] at hr'
          simp [execOp, e0, e1, resolve, invoke, builtin, hr', Result.andThen]
        · show App _ _ _ _ _ _ (upd vals 7 v' 7) w'
          rw [show upd vals 7 v' 7 = v' by simp [upd]]
          rw [hW] at r2 r3
          exact ⟨r2, r1, r3⟩
        · intro j hji hTj hd hT
          by_cases hj : j < 6 ∨ j = 8 ∨ j = 9 ∨ 13 ≤ j
          · exact rm_still hj (hI.fact j hd hT)
          · have : j = 6 ∨ j = 7 ∨ j = 10 ∨ j = 11 ∨ j = 12 := by omega
            rcases this with rfl | rfl | rfl | rfl | rfl
            · exact absurd rfl hTj
            · exact absurd rfl hji
            · rcases hd with hd | hd
              · exact absurd hd (of_decide_eq_false (by kernel_rfl))
              · rw [h10] at hd; cases hd
            · have h6' := dep hdep 6 (by kernel_rfl)
              rw [show rmT 11 = 6 from rfl, h6'] at hT; cases hT
            · have h12 := hI.fact 12 hd hT
              exact (hkeep _ (Array.getElem?_eq_some_iff.1 h12).1 hgg).trans h12
      case s8 =>
        intro L' vals W2 ρ hI hi hdep hnew hold hc
        have e0 : ρ (.tmp 22) = .pointer (some ⟨w.heap.size + 1 + 1, 0, none⟩) := (hnew 0 22 (dep hdep 0 (by kernel_rfl)) (by kernel_rfl) (of_decide_eq_true (by kernel_rfl)) (of_decide_eq_true (by kernel_rfl))).trans (hI.fact 0 (.inr (dep hdep 0 (by kernel_rfl))) (neverW hI (of_decide_eq_true (by kernel_rfl))))
        refine ⟨.pointer (some ⟨w.heap.size + 1 + 1, 0, none⟩), ?_, by simp [rmF, upd]⟩
        simp [execOp, e0, go_sem]
      case s9 =>
        intro L' vals W2 ρ hI hi hdep hnew hold hc
        have e0 : ρ (.tmp 30) = .pointer (some ⟨w.heap.size + 1 + 1, 0, none⟩) := (hnew 8 30 (dep hdep 8 (by kernel_rfl)) (by kernel_rfl) (of_decide_eq_true (by kernel_rfl)) (of_decide_eq_true (by kernel_rfl))).trans (hI.fact 8 (.inr (dep hdep 8 (by kernel_rfl))) (neverW hI (of_decide_eq_true (by kernel_rfl))))
        refine ⟨.pointer (some ⟨w.heap.size + 1 + 1, 1, none⟩), ?_, by simp [rmF, upd]⟩
        simp [execOp, e0, go_sem]
      case s10 =>
        intro L' vals W2 ρ hI hi hdep hnew hold hc
        have hA : App (Wb.drewN 1) (.cells #[.int .i64 (u : Nat), .int .i64 (g : Nat)] 37) (.slice Av M cv) (w.heap.size + 6) M (flatA (toI (roomsOf a (pg pre))) ++ [.int .i64 (u : Nat), .int .i64 (g : Nat)]) (vals 7) W2 := hI.fact 7 (.inr (dep hdep 7 (by kernel_rfl))) hi
        have e0 : ρ (.tmp 31) = .pointer (some ⟨w.heap.size + 1 + 1, 1, none⟩) := (hnew 9 31 (dep hdep 9 (by kernel_rfl)) (by kernel_rfl) (of_decide_eq_true (by kernel_rfl)) (of_decide_eq_true (by kernel_rfl))).trans (hI.fact 9 (.inr (dep hdep 9 (by kernel_rfl))) (neverW hI (of_decide_eq_true (by kernel_rfl))))
        have e1 : ρ (.tmp 29) = vals 7 := (hnew 7 29 (dep hdep 7 (by kernel_rfl)) (by kernel_rfl) (of_decide_eq_true (by kernel_rfl)) (of_decide_eq_true (by kernel_rfl)))
        obtain ⟨A4, c4, hv4⟩ := own_slice hA.ow
        rw [hv4] at e1
        have h12 : W2.heap[w.heap.size + 1 + 1]? = some (.cells #[.int .i64 (a : Nat), .slice Av M cv, .map (some (w.heap.size + 1))] 59 (0, 0)) := hI.fact 12 (.inl (of_decide_eq_true (by kernel_rfl))) hi
        have p0 : W2.cell? ⟨w.heap.size + 1 + 1, 1, none⟩ = some (.slice Av M cv) := by rw [cell_of_row _ _ _ _ _ _ h12]; rfl
        have f0 : W2.frozen? ⟨w.heap.size + 1 + 1, 1, none⟩ = false := by simp [World.frozen?, h12]
        refine ⟨undef, W2.setCell ⟨w.heap.size + 1 + 1, 1, none⟩ (.slice A4 (M + 1) c4), .inr ⟨rfl, ?_⟩, ⟨(setCell_other (by omega)).trans hI.com.p, (setCell_other (by omega)).trans hI.com.x, by have := hI.com.l; simp; omega⟩, ?_, ?_⟩
        · simp [execOp, e0, e1, go_sem, p0, f0]
        · rw [hv4] at hA
          exact ⟨_, _, hA, rfl⟩
        · intro j hji hTj hd hT
          by_cases hj : j < 6 ∨ j = 8 ∨ j = 9 ∨ 13 ≤ j
          · exact rm_still hj (hI.fact j hd hT)
          · have : j = 6 ∨ j = 7 ∨ j = 10 ∨ j = 11 ∨ j = 12 := by omega
            have h7 := dep hdep 7 (by kernel_rfl)
            rcases this with rfl | rfl | rfl | rfl | rfl
            · rw [show rmT 6 = 7 from rfl, h7] at hT; cases hT
            · exact absurd rfl hTj
            · exact absurd rfl hji
            · have h6 : L'.getD 6 false = true := by
                cases h6 : L'.getD 6 false with
                | true => rfl
                | false => have := hI.ahead h6 7 (by kernel_rfl); rw [h7] at this; cases this
              rw [show rmT 11 = 6 from rfl, h6] at hT; cases hT
            · exact absurd rfl hTj
    case fin =>
      intro vals W2 hC hF
      have hF10 := hF 10 (of_decide_eq_true (by kernel_rfl)) (of_decide_eq_true (by kernel_rfl))
      dsimp only [rmF] at hF10
      obtain ⟨v4, w4, hA, hW⟩ := hF10
      obtain ⟨x1, x2, x3, x4, x5, x6, x7⟩ := app_all (b0 := w.heap.size) (m := 4) (gl := w.heap.size + 1 + 1) (ol := 1) (W := Wb.drewN 1) (w4 := w4) ⟨by omega, by omega⟩ (show (Wb.drewN 1).heap[w.heap.size + 1 + 1]? = _ from HV1'.out) rfl (by decide) (own_stands HV2'.out (W' := Wb.drewN 1) fun _ _ => rfl) hA.gr hA.ow hA.wh
      rw [← hW] at x1 x2 x3 x4 x5
      have hbel : Below w.heap.size w W2 := by
        rw [hW]
        exact (below_own ((HBel.out.drew).alloc (by show w.heap.size ≤ Wb.heap.size; omega) (.cells #[.int .i64 (u : Nat), .int .i64 (g : Nat)] 37)) (own_below (own_stands HV2'.out (W' := Wb.drew) fun _ _ => rfl) (bal _ _) (Nat.le_refl _)) hA.gr (by omega) (by simp; omega)).setCell (p := ⟨w.heap.size + 1 + 1, 1, none⟩) (by show w.heap.size ≤ w.heap.size + 1 + 1; omega) _
      have hold : ∀ j, j < w.heap.size + 6 → j ≠ w.heap.size + 1 + 1 → W2.heap[j]? = Wb.heap[j]? := fun j h1 h2 => x5 j (by show j < Wb.heap.size; omega) h2 fun e => by have := (own_block HV2'.out e).2.1; omega
      have hs4 : w.heap.size + 6 ≤ W2.heap.size := by
        rw [hW]
        have := x6
        simp
        have : (Wb.drewN 1).heap.size = Wb.heap.size := rfl
        omega
      have HRb := hide (show Rb w a (pre ++ [⟨(f, g), hx⟩]) W2 from ⟨hbel, hs4, (hold _ (by omega) (by omega)).trans HC0.out, HMp.out.same (hold _ (by omega) (by omega)), (hold _ (by omega) (by omega)).trans HP.out, v4, x3, by rw [HSn.out]; exact ownA_snoc HLn.out x4⟩)
      have HK1 := hide ((HKo.out.trans (KeepsOthers.drew Wb)).trans x1)
      have HK2 := hide ((HKz.out.trans (Kq.new (below_drewN (Below.refl _ _) 1) (by omega)).toZ).trans x2.toZ)
      clear hF hA hW hC x1 x2 x3 x4 x5 x6 x7 hold hbel hs4
      simp only [Exit.inBlock]
      exact ⟨HK1.out.from _, HK2.out, HRb.out⟩
  case done =>
    rintro D xs W hD hxs hT hK
    have HT := hide hT
    have HX := hide hxs
    have k3 : W.cell? ⟨w.heap.size + 1 + 1 + 1, 0, none⟩ = some (.pointer (some ⟨w.heap.size + 1 + 1, 0, none⟩)) := by rw [cell_of_row _ _ _ _ _ _ hT.c3]; rfl
    have hs7 := hT.sz
    have s3 : w.heap.size + 1 + 1 + 1 < W.heap.size := by omega
    have HMk := hide ((Mk.nil (w.heap.size + 6) W).more (D := D) (by omega) hK (by simp))
    clear hT hxs hK
    go_wp2_with fail
    refine leave_ret (Ds := [D]) HMk.out fun W' hb' hk' => ⟨.pointer (some ⟨w.heap.size + 1 + 1, 0, none⟩), by simp [results, Try.results28, go_sem], rfl, HT.out.bel.trans (hb'.mono (by omega)), HT.out.mp.same (hb'.block _ (by omega)), ?_⟩
    obtain ⟨v, h1, h2⟩ := HT.out.st
    refine ⟨v, hk'.same _ _ h1 rfl, ?_⟩
    rw [← HX.out]
    exact own_cells h2 hk'
  case stop => exact fun _ _ _ _ _ _ h _ => h.elim
end Go.Proofs.Ytpnpbnfjhnmhjaa
