/-
  The program's small functions; spans sorted by where they begin.
  Those that take a place that counts, sorted.
  The iterator over what is free: what it counts on, and what a range over it may count on.
  The iterator over what is free, told.
  What serves loops that range over functions: marks that are left; stores of one's own boxes.
  The program's first place.
-/
import Derived.Test.YtdennekkbdlhdaaDoorMA
import Derived.Test.YtdennekkbdlhdaaDoorShelfS
import Derived.Shelf.SlSortCmp.NoneTotal
import Derived.WalkMore
import Derived.RangeFuncNested
namespace Go.Proofs.YtdennekkbdlhdaaDoor
open Go.RowKit Go.Shelf
attribute [local go_sem] Oper.semAt_some
set_option linter.unusedVariables false
set_option linter.unusedSimpArgs false
set_option maxRecDepth 100000

def sizeB (n : Int) : Bool := decide (0 ≤ n ∧ n ≤ 1048576)
def alignB (n : Int) : Bool := decide (1 ≤ n ∧ n ≤ 1048576)
theorem may_split (size align limit : Int) : mayB size align limit = (sizeB size && alignB align && sizeB limit) := by
  unfold mayB sizeB alignB
  rw [Bool.eq_iff_iff, Bool.and_eq_true, Bool.and_eq_true, decide_eq_true_iff, decide_eq_true_iff, decide_eq_true_iff, decide_eq_true_iff]
  omega
theorem isSize_at (n : Int) (w : World) : Calls Tryd.prog 37 #[.int .i64 n] w fun e w' => e = .returned (.bool (sizeB n)) ∧ w = w' := by
  by_cases h1 : 0 ≤ n
  · have HV := hide (show sizeB n = decide (n ≤ 1048576) by simp [sizeB, h1])
    generalize sizeB n = b at *
    go_enter Tryd.func37, Tryd.ntmps37
    go_wp2
    go_ret
    exact ⟨by rw [HV.out]; rfl, rfl⟩
  · have HV := hide (show sizeB n = false by simp [sizeB, h1])
    generalize sizeB n = b at *
    go_enter Tryd.func37, Tryd.ntmps37
    go_wp2
    go_ret
    exact ⟨by rw [HV.out]; rfl, rfl⟩
theorem isAlign_at (n : Int) (w : World) : Calls Tryd.prog 38 #[.int .i64 n] w fun e w' => e = .returned (.bool (alignB n)) ∧ w = w' := by
  have HZ := hide (isSize_at n w)
  by_cases h1 : 1 ≤ n
  · have HV := hide (show alignB n = sizeB n by unfold alignB sizeB; rw [Bool.eq_iff_iff, decide_eq_true_iff, decide_eq_true_iff]; omega)
    generalize alignB n = b at *
    generalize sizeB n = b2 at *
    go_enter Tryd.func38, Tryd.ntmps38
    go_wp2_with fail
    refine HZ.out.mono ?_
    rintro e w1 ⟨rfl, rfl⟩
    go_wp2_with fail
    go_ret
    exact ⟨by rw [HV.out]; rfl, rfl⟩
  · have HV := hide (show alignB n = false by simp [alignB, h1])
    generalize alignB n = b at *
    go_enter Tryd.func38, Tryd.ntmps38
    go_wp2
    go_ret
    exact ⟨by rw [HV.out]; rfl, rfl⟩
theorem up_at (n a : Nat) (ha : 0 < a) (hn : n ≤ 10000000) (ha2 : a ≤ 1048576) (w : World) : Calls Tryd.prog 40 #[.int .i64 (n : Nat), .int .i64 (a : Nat)] w fun e w' => e = .returned (.int .i64 (upF n a : Nat)) ∧ w = w' := by
  have HV := hide (show ((upF n a : Nat) : Int) = ((n : Int) + (a : Int) - 1).tdiv (a : Int) * (a : Int) from by
    unfold upF
    rw [show (n : Int) + (a : Int) - 1 = ((n + a - 1 : Nat) : Int) by omega, Int.natCast_mul]
    congr 1)
  have hb := upF_lt (n := n) ha
  have hlo : 0 ≤ ((n : Int) + (a : Int) - 1).tdiv (a : Int) := Int.tdiv_nonneg (by omega) (by omega)
  have hle : ((n : Int) + (a : Int) - 1).tdiv (a : Int) ≤ (n : Int) + (a : Int) - 1 := by
    rw [Int.tdiv_eq_ediv_of_nonneg (by omega)]
    exact Int.ediv_le_self _ (by omega)
  have ha0 : ((a : Int) == 0) = false := beq_eq_false_iff_ne.2 (by omega)
  have hm : ((n : Int) + (a : Int) - 1).tdiv (a : Int) * (a : Int) = ((upF n a : Nat) : Int) := HV.out.symm
  generalize upF n a = u at *
  go_enter Tryd.func40, Tryd.ntmps40
  go_wp2
  go_ret
  exact ⟨by rw [HV.out]; rfl, rfl⟩
/-! ### the sort -/
def encS (x : Ai) : List Value := [.int .i64 x.1, .int .i64 x.2]
def cfS (x y : Ai) : Int := if x.1 < y.1 then -1 else if y.1 < x.1 then 1 else 0
theorem nan_at (x : Int) (w : World) : Calls Tryd.prog 63 #[.int .i64 x] w fun e w' => e = .returned (.bool false) ∧ w = w' := by
  have hx : (x != x) = false := by simp
  go_enter Tryd.func63, Tryd.ntmps63
  go_wp2
  go_ret
  exact ⟨rfl, rfl⟩
theorem compare_at (x y : Int) (w : World) : Calls Tryd.prog 59 #[.int .i64 x, .int .i64 y] w fun e w' => e = .returned (.int .i64 (if x < y then -1 else if y < x then 1 else 0)) ∧ w = w' := by
  have H1 := hide (nan_at x w)
  have H2 := hide (nan_at y w)
  obtain ⟨r, hr⟩ : ∃ r, r = (if x < y then (-1 : Int) else if y < x then 1 else 0) := ⟨_, rfl⟩
  rw [← hr]
  by_cases hlt : x < y
  · have HR := hide (show r = -1 by rw [hr, if_pos hlt])
    clear hr
    go_enter Tryd.func59, Tryd.ntmps59
    go_wp2_with fail
    refine H1.out.mono ?_
    rintro e w1 ⟨rfl, rfl⟩
    go_wp2_with fail
    refine H2.out.mono ?_
    rintro e w1 ⟨rfl, rfl⟩
    go_wp2_with fail
    go_ret
    exact ⟨by rw [HR.out]; rfl, rfl⟩
  · by_cases hgt : y < x
    · have HR := hide (show r = 1 by rw [hr, if_neg hlt, if_pos hgt])
      clear hr
      go_enter Tryd.func59, Tryd.ntmps59
      go_wp2_with fail
      refine H1.out.mono ?_
      rintro e w1 ⟨rfl, rfl⟩
      go_wp2_with fail
      refine H2.out.mono ?_
      rintro e w1 ⟨rfl, rfl⟩
      go_wp2_with fail
      go_ret
      exact ⟨by rw [HR.out]; rfl, rfl⟩
    · have HR := hide (show r = 0 by rw [hr, if_neg hlt, if_neg hgt])
      clear hr
      go_enter Tryd.func59, Tryd.ntmps59
      go_wp2_with fail
      refine H1.out.mono ?_
      rintro e w1 ⟨rfl, rfl⟩
      go_wp2_with fail
      refine H2.out.mono ?_
      rintro e w1 ⟨rfl, rfl⟩
      go_wp2_with fail
      go_ret
      exact ⟨by rw [HR.out]; rfl, rfl⟩
set_option maxHeartbeats 1000000 in
theorem cmp_at (x y : Ai) (W : World) : Calls Tryd.prog 58 #[.agg #[.int .i64 x.1, .int .i64 x.2], .agg #[.int .i64 y.1, .int .i64 y.2]] W fun e w' => e = .returned (.int .i64 (cfS x y)) ∧ ∃ q os', w' = Go.Sort.grow (W.drewN q) os' := by
  obtain ⟨a, b⟩ := x
  obtain ⟨c, d⟩ := y
  have HC := hide (fun w => compare_at a c w)
  have HV := hide (show cfS (a, b) (c, d) = (if a < c then (-1 : Int) else if c < a then 1 else 0) from rfl)
  rw [← HV.out] at HC
  generalize cfS (a, b) (c, d) = r at *
  dsimp only at *
  go_enter Tryd.func58, Tryd.ntmps58
  go_wp2_with fail
  refine (HC.out _).mono ?_
  rintro e w1 ⟨rfl, rfl⟩
  go_wp2_with fail
  go_ret
  exact ⟨rfl, 0, _, by rw [Go.Sort.alloc_eq_grow, Go.Sort.alloc_eq_grow, Go.Sort.grow_grow]; rfl⟩
theorem ltS (x y : Ai) : ltOf cfS x y = decide (x.1 < y.1) := by
  unfold ltOf cfS
  rw [Bool.eq_iff_iff, decide_eq_true_iff, decide_eq_true_iff]
  split
  · simp; assumption
  · split <;> simp <;> omega
theorem swoS : Go.Sort.SWO (ltOf cfS) where
  irrefl x := by rw [ltS]; simp
  trans x y z h1 h2 := by rw [ltS] at *; simp at *; omega
  ntrans x y z h1 h2 := by rw [ltS] at *; simp at *; omega
theorem flat_of (d : List Ai) (j : Nat) (hj : j < d.length * 2) : (Go.Sort.flatK encS 2 d.toArray)[j]! = if j % 2 = 0 then .int .i64 (d.getD (j / 2) (0, 0)).1 else .int .i64 (d.getD (j / 2) (0, 0)).2 := by
  rw [Go.Sort.get_flatK _ _ _ _ (by simpa using hj)]
  have hlt : j / 2 < d.length := by omega
  have e : d.toArray[j / 2]! = d[j / 2] := by simp [hlt]
  have e2 : d.getD (j / 2) (0, 0) = d[j / 2] := by
    rw [List.getD_eq_getElem?_getD, List.getElem?_eq_getElem hlt]; rfl
  rw [e, e2]
  rcases Nat.mod_two_eq_zero_or_one j with h | h <;> rw [h] <;> rfl
/-- spans that lie in a row, in the sort's words -/
theorem holds_spans {W : World} {g : Nat} {d : List Ai} (h : Sps W (some ⟨g, 0, none⟩) d) (hf : ∀ j, W.frozen? ⟨g, j, none⟩ = false) : Go.Sort.HoldsK encS 2 W g 0 d.toArray := by
  intro j hj
  rw [Go.Sort.size_flatK] at hj
  have hj' : j < d.length * 2 := by simpa using hj
  refine ⟨?_, hf _⟩
  rw [flat_of d j hj']
  obtain ⟨b, off, e, _, c0, c1⟩ := h.at (k := j / 2) (by omega)
  obtain ⟨rfl, rfl⟩ : g = b ∧ 0 = off := by cases e; exact ⟨rfl, rfl⟩
  rcases Nat.mod_two_eq_zero_or_one j with hm | hm
  · rw [if_pos hm, show 0 + j = 0 + j / 2 * 2 by omega, c0]; rfl
  · rw [if_neg (by omega), show 0 + j = 0 + j / 2 * 2 + 1 by omega, c1]; rfl
theorem spans_holds {W : World} {g : Nat} {d : List Ai} (h : Go.Sort.HoldsK encS 2 W g 0 d.toArray) (hg : g < W.heap.size) (hi : ∀ z ∈ d, I64 z.1 ∧ I64 z.2) : Sps W (some ⟨g, 0, none⟩) d := by
  refine ⟨hi, .inr ⟨g, 0, rfl, hg, fun i hi => ?_⟩⟩
  have h0 := (h (i * 2) (by rw [Go.Sort.size_flatK]; simp; omega)).1
  have h1 := (h (i * 2 + 1) (by rw [Go.Sort.size_flatK]; simp; omega)).1
  rw [flat_of d _ (by omega), if_pos (by omega), show i * 2 / 2 = i by omega] at h0
  rw [flat_of d _ (by omega), if_neg (by omega), show (i * 2 + 1) / 2 = i by omega] at h1
  exact ⟨h0, h1⟩
theorem sort_below {B g m : Nat} {W : World} {d : Array Ai} {os : Array Obj} (hB : B ≤ g) (hBW : B ≤ W.heap.size) : Below B W (sortWorldK encS 2 W g 0 m d os) := by
  refine ⟨rfl, rfl, rfl, size_sortWorldK_c _ _ _ _ _ _ _ _, fun k hk => ?_⟩
  show ((W.heap.modify g _) ++ os)[k]? = _
  rw [Array.getElem?_append_left (by simp; omega), Array.getElem?_modify, if_neg (by omega)]
/-- where a list lies that was made since -/
def From (B : Nat) (A : Option Addr) : Prop := ∀ a, A = some a → (a.spot = none ∧ a.off = 0) ∧ B ≤ a.block

/-- **the sort, by where they begin** -/
theorem sort_at (l : List Ai) (hi : ∀ z ∈ l, I64 z.1 ∧ I64 z.2) (v : Value) (B : Nat) (W : World) (hO : OwnA W B v l) (hB : B ≤ W.heap.size) (hlen : l.length ≤ 1000) :
    Calls Tryd.prog 57 #[v, .func (.func 58) #[] #[]] W fun e w' => e = .returned (.tuple #[]) ∧
      ∃ (l' : List Ai) (A : Option Addr) (c : Nat), v = .slice A l'.length c ∧ (∀ a, a ∈ l' ↔ a ∈ l) ∧ l'.Pairwise (fun a b => a.1 ≤ b.1) ∧ l'.length = l.length ∧ Sps w' A l' ∧ From B A ∧ Below B W w' := by
  obtain ⟨A, c, rfl, hA⟩ := own_spans hO hi
  have hF : From B A := by
    rintro a rfl
    rcases hO.2 with ⟨h1, _⟩ | ⟨g, cap, cur, e, hg, _⟩
    · cases h1
    · cases e; exact ⟨⟨rfl, rfl⟩, hg⟩
  by_cases h0 : l = []
  · subst h0
    have hn := AnyF.slices_SortFunc_none Tryd.sortArc A c (.func (.func 58) #[] #[]) W
    change Calls Tryd.prog 57 _ _ _ at hn
    refine hn.mono ?_
    rintro e w' ⟨rfl, rfl⟩
    exact ⟨rfl, [], A, c, rfl, fun a => Iff.rfl, List.Pairwise.nil, rfl, Sps.nil _ _, hF, Below.refl _ _⟩
  · have hpos : 0 < l.length := List.length_pos_iff.2 h0
    rcases hO.2 with ⟨h1, h2⟩ | ⟨g, cap, cur, e, hg, hh, _⟩
    · omega
    cases e
    have hgl : g < W.heap.size := (Array.getElem?_eq_some_iff.1 hh).1
    have hH := holds_spans (d := l) hA fun j => by simp [World.frozen?, hh]
    have eg : ∀ args w, (callFunc 58 args).run Tryd.prog w = .ok (.enter 58 args) w := enters_of Tryd.func58 (by kernel_rfl) rfl
    have hcon := AnyQ.slices_SortFunc Tryd.sortArc 2 Tryd.isAgg78 Tryd.sizeOf78 encS (fun _ => rfl) (fun x v hv => by simp [encS] at hv; rcases hv with rfl | rfl <;> rfl) cfS swoS 58 #[] g 0 c l.toArray W eg (fun _ _ _ _ x y => cmp_at x y _) hH hgl (by simp; omega)
    change Calls Tryd.prog 57 _ _ _ at hcon
    rw [show l.toArray.size = l.length from List.size_toArray] at hcon
    refine hcon.mono ?_
    rintro e w' ⟨rfl, d', m, os, ⟨hs1, _, hp⟩, hsort, rfl⟩
    have hlen' : d'.size = l.length := by rw [hs1]; simp
    have hperm : d'.toList.Perm l := by
      have := hp
      rwa [show d'.extract 0 l.length = d' by rw [← hlen']; simp, show l.toArray.extract 0 l.length = l.toArray by simp] at this
    have hmem : ∀ a, a ∈ d'.toList ↔ a ∈ l := fun a => hperm.mem_iff
    have hll : d'.toList.length = l.length := by simp [hlen']
    refine ⟨rfl, d'.toList, some ⟨g, 0, none⟩, c, by rw [hll], hmem, ?_, hll, ?_, hF, sort_below hg hB⟩
    · rw [List.pairwise_iff_getElem]
      intro i j hi hj hij
      simp only [Array.getElem_toList]
      rw [Array.length_toList] at hi hj
      have := hsort i j (Nat.zero_le _) hij (by omega)
      rw [ltS, getElem!_pos d' i (by omega), getElem!_pos d' j (by omega)] at this
      have := of_decide_eq_false this
      omega
    · have hHd := holdsK_sortWorldK encS 2 W g 0 m l.toArray d' os hgl hH hs1
      refine spans_holds (d := d'.toList) (by simpa using hHd) (lt_sortWorldK _ _ _ _ _ _ _ _ hgl) fun z hz => hi z ((hmem z).1 hz)
end Go.Proofs.YtdennekkbdlhdaaDoor
namespace Go.Proofs.YtdennekkbdlhdaaDoor
open Go.RowKit Go.Shelf
attribute [local go_sem] Oper.semAt_some
set_option linter.unusedVariables false
set_option linter.unusedSimpArgs false
set_option maxRecDepth 100000

theorem filter_next {l : List Ai} {k L : Nat} (h : k < l.length) : (l.take (k + 1)).filter (keepB L) = if keepB L (l.getD k (0, 0)) then (l.take k).filter (keepB L) ++ [l.getD k (0, 0)] else (l.take k).filter (keepB L) := by
  rw [take_snoc l (0, 0) k h, List.filter_append]
  split
  · rename_i hc; rw [List.filter_cons_of_pos hc]; rfl
  · rename_i hc; rw [List.filter_cons_of_neg hc]; simp
theorem keepB_no1 {L : Nat} {f g : Int} (h : ¬ f < g) : keepB L (f, g) = false := by simp [keepB, h]
theorem keepB_no2 {L : Nat} {f g : Int} (h : ¬ f < (L : Int)) : keepB L (f, g) = false := by simp [keepB, h]
theorem keepB_no3 {L : Nat} {f g : Int} (h : ¬ 0 < g) : keepB L (f, g) = false := by simp [keepB, h]
theorem keepB_yes {L : Nat} {f g : Int} (h1 : f < g) (h2 : f < (L : Int)) (h3 : 0 < g) : keepB L (f, g) = true := by simp [keepB, h1, h2, h3]

set_option maxHeartbeats 4000000 in
theorem rising_at (l : List Ai) (A : Option Addr) (c L : Nat) (w : World) (hI : Sps w A l) (hl : l.length ≤ 1000) (hL : L ≤ 1048576) :
    Calls Tryd.prog 53 #[.slice A l.length c, .int .i64 (L : Nat)] w fun e w' => ∃ (l' : List Ai) (A' : Option Addr) (c' : Nat), e = .returned (.slice A' l'.length c') ∧ (∀ a, a ∈ l' ↔ a ∈ l.filter (keepB L)) ∧ l'.Pairwise (fun a b => a.1 ≤ b.1) ∧ l'.length ≤ l.length ∧ Sps w' A' l' ∧ From w.heap.size A' ∧ Below w.heap.size w w' := by
  have HI := hide hI
  have HIb := hide (fun W (h : Below w.heap.size w W) => hI.of_below h (Nat.le_refl _))
  have HLe := hide hl
  obtain ⟨N, hN⟩ : ∃ N, N = l.length := ⟨_, rfl⟩
  have HN := hide hN
  rw [← hN] at hl ⊢
  clear hI hN
  go_enter Tryd.func53, Tryd.ntmps53
  go_wp2_with fail
  go_loopw [5, 10] (fun v kv wr => ∃ k : Nat, k ≤ N ∧ kv = .int .i64 k ∧ OwnA wr w.heap.size v ((l.take k).filter (keepB L)) ∧ Below w.heap.size w wr) (fun _ kv _ => N - (intOf kv).toNat)
  case atStart => exact ⟨0, Nat.zero_le _, rfl, World.ownsRow_nil _ _ _ _, Below.refl _ _⟩
  case round =>
    obtain ⟨k, hk, rfl, hO, hb⟩ := hrel
    have HB := hide hb
    have hsz := hb.size
    by_cases hlt : k < N
    · have hil : k < l.length := by rw [← HN.out]; exact hlt
      obtain ⟨b, off, rfl, hbl, c0, c1⟩ := (HIb.out wr hb).at hil
      have HF := hide (filter_next (L := L) hil)
      have hfl : ((l.take k).filter (keepB L)).length ≤ 1000 := by
        have h1 := List.length_filter_le (keepB L) (l.take k)
        rw [List.length_take] at h1; have := HLe.out; omega
      generalize l.getD k (0, 0) = z at *
      obtain ⟨f, g⟩ := z
      dsimp only at c0 c1
      have HO := hide hO
      obtain ⟨Ao, co, rfl⟩ := own_slice hO
      generalize hM : ((l.take k).filter (keepB L)).length = M at *
      have HO' : Hid (wr.ownsRow w.heap.size 78 2 (.slice Ao M co) M (flatA ((l.take k).filter (keepB L)))) := by
        have := HO.out; unfold OwnA at this; rw [hM] at this; exact this
      have HM := hide hM
      have hb1 := bal wr (.cells #[.int .i64 f, .int .i64 g] 78)
      have HB1 := hide (HB.out.alloc hsz (.cells #[.int .i64 f, .int .i64 g] 78))
      have HO1 := hide (own_below HO'.out hb1 (Nat.le_refl _))
      clear hil hb hO hM HO HO' hb1
      by_cases h1 : f < g
      · by_cases h2 : f < (L : Int)
        · by_cases h3 : 0 < g
          · rw [if_pos (keepB_yes h1 h2 h3)] at HF
            have E := hide (fun w4 (hg : ((wr.alloc (.cells #[.int .i64 f, .int .i64 g] 78)).alloc (.cells #[.int .i64 f, .int .i64 g] 78)).grownBy w4 (Value.slice Ao M co).ownBlock) => below_own (HB1.out.alloc (by simp; omega) (.cells #[.int .i64 f, .int .i64 g] 78)) (own_below HO1.out (bal _ (.cells #[.int .i64 f, .int .i64 g] 78)) (Nat.le_refl _)) hg (Nat.le_refl _) (by simp; omega))
            go_wp2_with (at_builtin; refine wpList_one _ rfl _ _ 74 rfl 78 (.agg #[.int .i64 0, .int .i64 0]) 2 16 under_spans info_spanP rfl (by decide) (by decide) w.heap.size _ _ _ rfl (own_below HO1.out (bal _ _) (Nat.le_refl _)) _ _ [.int .i64 f, .int .i64 g] rfl (heap_alloc2_new wr _ _) rfl (by simp [Value.oneCell']) (by omega) (by simp; omega) ?_; intro v5 w5 hown5 hgr5 hwh; have HO5 := hide hown5; have HB5 := hide (E.out w5 hgr5); clear hown5 hgr5 hwh)
            go_roundw
            case rel => exact ⟨k + 1, by omega, by go_num, by rw [HF.out]; exact ownA_snoc HM.out HO5.out, HB5.out⟩
            case measure => simp [intOf]; omega
          · rw [if_neg (by rw [keepB_no3 h3]; decide)] at HF
            go_wp2_with fail
            go_roundw
            case rel => exact ⟨k + 1, by omega, by go_num, by rw [HF.out]; unfold OwnA; rw [HM.out]; exact HO1.out, HB1.out⟩
            case measure => simp [intOf]; omega
        · rw [if_neg (by rw [keepB_no2 h2]; decide)] at HF
          go_wp2_with fail
          go_roundw
          case rel => exact ⟨k + 1, by omega, by go_num, by rw [HF.out]; unfold OwnA; rw [HM.out]; exact HO1.out, HB1.out⟩
          case measure => simp [intOf]; omega
      · rw [if_neg (by rw [keepB_no1 h1]; decide)] at HF
        go_wp2_with fail
        go_roundw
        case rel => exact ⟨k + 1, by omega, by go_num, by rw [HF.out]; unfold OwnA; rw [HM.out]; exact HO1.out, HB1.out⟩
        case measure => simp [intOf]; omega
    · obtain rfl : k = N := by omega
      have HEq := hide (show l.take k = l from by rw [HN.out, List.take_length])
      rw [HEq.out] at hO
      have HSo := hide (sort_at (l.filter (keepB L)) (fun z hz => HI.out.1 z (List.mem_filter.1 hz).1) u5 w.heap.size wr hO hsz (by have := List.length_filter_le (keepB L) l; have := HLe.out; omega))
      have HFl := hide (List.length_filter_le (keepB L) l)
      clear hO hb
      go_wp2_with fail
      refine HSo.out.mono ?_
      rintro e w2 ⟨rfl, l', A', c', rfl, hmem, hpw, hlen, hS, hF, hb2⟩
      have HR := hide (show (∀ a, a ∈ l' ↔ a ∈ l.filter (keepB L)) ∧ l'.Pairwise (fun a b => a.1 ≤ b.1) ∧ l'.length ≤ k ∧ Sps w2 A' l' ∧ From w.heap.size A' ∧ Below w.heap.size w w2 from ⟨hmem, hpw, by rw [hlen, HN.out]; exact HFl.out, hS, hF, HB.out.trans hb2⟩)
      clear hmem hpw hlen hS hF hb2
      go_wp2_with fail
      go_ret
      exact ⟨l', A', c', rfl, HR.out⟩
end Go.Proofs.YtdennekkbdlhdaaDoor
namespace Go.Proofs.YtdennekkbdlhdaaDoor
open Go.RowKit Go.Shelf
attribute [local go_sem] Oper.semAt_some
set_option linter.unusedVariables false
set_option linter.unusedSimpArgs false
set_option maxRecDepth 100000

theorem free_mk (A : Option Addr) (n c : Nat) (L : Int) (w : World) :
    Calls Tryd.prog 39 #[.slice A n c, .int .i64 L] w fun e w' => e = .returned (.func (.func 52) #[] #[.pointer (some ⟨w.heap.size, 0, none⟩), .pointer (some ⟨w.heap.size + 1, 0, none⟩)]) ∧
      w' = (w.alloc (.cells #[.slice A n c] 74)).alloc (.cells #[.int .i64 L] 3) := by
  go_enter Tryd.func39, Tryd.ntmps39
  go_wp2
  go_ret
  exact ⟨rfl, rfl⟩

/-- where the list lies that a cell holds -/
def lbQ (gl ol : Nat) (W : World) : Option Nat := match W.cell? ⟨gl, ol, none⟩ with
  | some (.slice (some a) _ _) => some a.block
  | _ => none
/-- what a round keeps: all but m boxes from b0 on, and the list -/
structure Kq (b0 m gl ol : Nat) (W W' : World) : Prop where
  sz : W.heap.size ≤ W'.heap.size
  lb : ∀ a, lbQ gl ol W' = some a → lbQ gl ol W = some a ∨ (W.heap.size ≤ a ∧ a < W'.heap.size)
  kp : ∀ k cs t fr, W.heap[k]? = some (.cells cs t fr) → ¬ (b0 ≤ k ∧ k < b0 + m) → lbQ gl ol W ≠ some k → W'.heap[k]? = some (.cells cs t fr)
theorem Kq.trans {b0 m gl ol : Nat} {A B C : World} (h1 : Kq b0 m gl ol A B) (h2 : Kq b0 m gl ol B C) : Kq b0 m gl ol A C := by
  have s1 := h1.sz
  have s2 := h2.sz
  refine ⟨Nat.le_trans s1 s2, fun a h => ?_, fun k cs t fr hk hb hl => ?_⟩
  · rcases h2.lb a h with h3 | h3
    · rcases h1.lb a h3 with h4 | h4
      · exact .inl h4
      · exact .inr ⟨h4.1, by omega⟩
    · exact .inr ⟨by omega, h3.2⟩
  · refine h2.kp k cs t fr (h1.kp k cs t fr hk hb hl) hb fun h => ?_
    rcases h1.lb k h with h3 | h3
    · exact hl h3
    · have := (Array.getElem?_eq_some_iff.1 hk).1; omega
theorem Kq.put {b0 m gl ol : Nat} {W : World} {l : Nat} {o o' : Obj} (hl : gl < l) (h : W.heap[l]? = some o) (hc : o.isCells = false) : Kq b0 m gl ol W (W.putObj l o') := by
  have hcell : (W.putObj l o').cell? ⟨gl, ol, none⟩ = W.cell? ⟨gl, ol, none⟩ := by
    unfold World.cell?; dsimp only; rw [World.putObj_heap_other (show gl ≠ l by omega)]
  refine ⟨by simp, fun a ha => .inl ?_, fun k cs t fr hk _ _ => ?_⟩
  · unfold lbQ at ha ⊢; rw [hcell] at ha; exact ha
  · rw [World.putObj_heap_other (fun e => by subst e; rw [h] at hk; cases hk; cases hc)]; exact hk
theorem lbQ_same {gl ol : Nat} {W W' : World} (h : W'.heap[gl]? = W.heap[gl]?) : lbQ gl ol W' = lbQ gl ol W := by
  unfold lbQ World.cell?; dsimp only; rw [h]
theorem Kq.new {b0 m gl ol : Nat} {W W' : World} (h : Below W.heap.size W W') (hb : gl < W.heap.size) : Kq b0 m gl ol W W' := by
  refine ⟨h.size, fun a ha => .inl ?_, fun k cs t fr hk _ _ => (h.block k (Array.getElem?_eq_some_iff.1 hk).1).trans hk⟩
  rw [lbQ_same (h.block _ hb)] at ha; exact ha
/-- what a round keeps, said of less: of a span in a block its first number may be turned -/
structure Kz (b0 m gl ol : Nat) (W W' : World) : Prop where
  sz : W.heap.size ≤ W'.heap.size
  lb : ∀ a, lbQ gl ol W' = some a → lbQ gl ol W = some a ∨ (W.heap.size ≤ a ∧ a < W'.heap.size)
  kp : ∀ k cs t fr, W.heap[k]? = some (.cells cs t fr) → ¬ (b0 ≤ k ∧ k < b0 + m) → lbQ gl ol W ≠ some k → ∃ cs', W'.heap[k]? = some (.cells cs' t fr) ∧ (t ≠ 78 → cs' = cs) ∧ ∀ j, 1 ≤ j → cs'[j]? = cs[j]?
theorem Kq.toZ {b0 m gl ol : Nat} {W W' : World} (h : Kq b0 m gl ol W W') : Kz b0 m gl ol W W' := ⟨h.sz, h.lb, fun k cs t fr h1 h2 h3 => ⟨cs, h.kp k cs t fr h1 h2 h3, fun _ => rfl, fun _ _ => rfl⟩⟩
theorem Kz.trans {b0 m gl ol : Nat} {A B C : World} (h1 : Kz b0 m gl ol A B) (h2 : Kz b0 m gl ol B C) : Kz b0 m gl ol A C := by
  have s1 := h1.sz
  have s2 := h2.sz
  refine ⟨Nat.le_trans s1 s2, fun a h => ?_, fun k cs t fr hk hb hl => ?_⟩
  · rcases h2.lb a h with h3 | h3
    · rcases h1.lb a h3 with h4 | h4
      · exact .inl h4
      · exact .inr ⟨h4.1, by omega⟩
    · exact .inr ⟨by omega, h3.2⟩
  · obtain ⟨c1, e1, f1, g1⟩ := h1.kp k cs t fr hk hb hl
    obtain ⟨c2, e2, f2, g2⟩ := h2.kp k c1 t fr e1 hb fun h => by
      rcases h1.lb k h with h3 | h3
      · exact hl h3
      · have := (Array.getElem?_eq_some_iff.1 hk).1; omega
    exact ⟨c2, e2, fun h => (f2 h).trans (f1 h), fun j hj => (g2 j hj).trans (g1 j hj)⟩
theorem Kz.put {b0 m gl ol : Nat} {W : World} {l : Nat} {o o' : Obj} (hl : gl < l) (h : W.heap[l]? = some o) (hc : o.isCells = false) : Kz b0 m gl ol W (W.putObj l o') := (Kq.put hl h hc).toZ
theorem Kq.refl (b0 m gl ol : Nat) (W : World) : Kq b0 m gl ol W W := ⟨Nat.le_refl _, fun a h => .inl h, fun _ _ _ _ h _ _ => h⟩
/-- a block that a round does not touch -/
def Ap (b0 m gl ol k : Nat) (W : World) : Prop := ¬ (b0 ≤ k ∧ k < b0 + m) ∧ lbQ gl ol W ≠ some k
def Lb (b0 m gl ol : Nat) (W : World) : Prop := b0 + m ≤ W.heap.size ∧ gl < W.heap.size ∧ ∀ a, lbQ gl ol W = some a → a < W.heap.size
section
variable {b0 m gl ol k : Nat} {W W' : World}
theorem Ap.new (h : Ap b0 m gl ol k W) (hL : Lb b0 m gl ol W) (hb : Below W.heap.size W W') : Ap b0 m gl ol k W' :=
  ⟨h.1, by rw [lbQ_same (hb.block _ hL.2.1)]; exact h.2⟩
theorem Ap.kept (h : Ap b0 m gl ol k W) (hk : k < W.heap.size) (hq : Kz b0 m gl ol W W') : Ap b0 m gl ol k W' :=
  ⟨h.1, fun e => by
    rcases hq.lb k e with h1 | h1
    · exact h.2 h1
    · omega⟩
theorem Lb.new (h : Lb b0 m gl ol W) (hb : Below W.heap.size W W') : Lb b0 m gl ol W' := by
  have := hb.size
  refine ⟨by have := h.1; omega, by have := h.2.1; omega, fun a ha => ?_⟩
  rw [lbQ_same (hb.block _ h.2.1)] at ha
  have := h.2.2 a ha; omega
theorem Lb.kept (h : Lb b0 m gl ol W) (hq : Kz b0 m gl ol W W') : Lb b0 m gl ol W' := by
  have := hq.sz
  refine ⟨by have := h.1; omega, by have := h.2.1; omega, fun a ha => ?_⟩
  rcases hq.lb a ha with h1 | h1
  · have := h.2.2 a h1; omega
  · exact h1.2
theorem Ap.fresh (h : Lb b0 m gl ol W) (hb : Below W.heap.size W W') (hk : W.heap.size ≤ k) : Ap b0 m gl ol k W' :=
  ⟨fun e => by have := h.1; omega, fun e => by
    rw [lbQ_same (hb.block _ h.2.1)] at e
    have := h.2.2 k e; omega⟩
end
theorem cells_of_cell {W : World} {g o : Nat} {v : Value} (h : W.cell? ⟨g, o, none⟩ = some v) : ∃ cs t fr, W.heap[g]? = some (.cells cs t fr) := by
  unfold World.cell? at h
  dsimp only at h
  split at h
  · rename_i hc; exact ⟨_, _, _, hc⟩
  · cases h
/-- a stretch, as it is told -/
abbrev PG := { x : Nat × Nat // x.1 ≤ x.2 ∧ x.2 ≤ 1048576 }
def pg (l : List PG) : List (Nat × Nat) := l.map (·.1)
theorem pg_snoc (l : List PG) (x : PG) : pg (l ++ [x]) = pg l ++ [x.1] := by simp [pg]
theorem pg_len (l : List PG) : (pg l).length = l.length := by simp [pg]
def pgEnc (x : PG) : Array Value := #[.agg #[.int .i64 (x.1.1 : Nat), .int .i64 (x.1.2 : Nat)]]

/-- how far it has come, behind k of them -/
def atK (S : List Ai) (L k : Nat) : List (Nat × Nat) := freeTo (tkn S) (min (atF (S.take k)).toNat L)
theorem atK_pre {S : List Ai} {L : Nat} (hs : S.Pairwise fun a b => a.1 ≤ b.1) (hk : ∀ s ∈ S, keepB L s = true) : ∀ d k, k + d = S.length → ∃ R, freeTo (tkn S) L = atK S L k ++ R
  | 0, k, h => by
    obtain rfl : k = S.length := by omega
    have := free_end hk
    unfold atK
    rw [List.take_length]
    split at this
    · exact ⟨_, this⟩
    · exact ⟨[], by rw [List.append_nil]; exact this⟩
  | d + 1, k, h => by
    obtain ⟨R, hR⟩ := atK_pre hs hk d (k + 1) (by omega)
    have := (free_step hs hk (k := k) (by omega)).2
    unfold atK at hR ⊢
    rw [this] at hR
    split at hR
    · exact ⟨_, by rw [hR, List.append_assoc]⟩
    · exact ⟨_, hR⟩
theorem atK_take {S : List Ai} {L k : Nat} (hs : S.Pairwise fun a b => a.1 ≤ b.1) (hk : ∀ s ∈ S, keepB L s = true) (h : k ≤ S.length) : ∃ j, j ≤ (freeTo (tkn S) L).length ∧ atK S L k = (freeTo (tkn S) L).take j := by
  obtain ⟨R, hR⟩ := atK_pre hs hk (S.length - k) k (by omega)
  exact ⟨(atK S L k).length, by rw [hR, List.length_append]; omega, by rw [hR, List.take_left']; rfl⟩
theorem abides_new {β : Type} {B : Nat} {J : β → World → Prop} (hJ : AbidesFrom B J) {x : β} {W W' : World} (h : J x W) (hb : Below W.heap.size W W') : J x W' :=
  hJ x W W' none h ⟨hb.os, hb.tape, hb.output, hb.size, fun k hk _ => hb.block k hk⟩ (fun r e => by cases e)

/-- what the iterator counts on while it goes on: those from the k'th on lie as they lay -/
structure It (b0 m gl ol bL L : Nat) (A : Option Addr) (S : List Ai) (k : Nat) (W : World) : Prop where
  lb : Lb b0 m gl ol W
  cl : W.heap[bL]? = some (.cells #[.int .i64 (L : Nat)] 3 (0, 0))
  al : Ap b0 m gl ol bL W
  sp : ∀ i, k ≤ i → i < S.length → ∃ b, A = some ⟨b, 0, none⟩ ∧ b < W.heap.size ∧ W.cell? ⟨b, i * 2, none⟩ = some (.int .i64 (S.getD i (0, 0)).1) ∧ W.cell? ⟨b, i * 2 + 1, none⟩ = some (.int .i64 (S.getD i (0, 0)).2)
  asp : ∀ a, A = some a → a.block < W.heap.size → Ap b0 m gl ol a.block W
theorem It.new {b0 m gl ol bL L : Nat} {A : Option Addr} {S : List Ai} {k : Nat} {W W' : World} (h : It b0 m gl ol bL L A S k W) (hA : ∀ a, A = some a → a.block < W.heap.size) (hb : Below W.heap.size W W') : It b0 m gl ol bL L A S k W' where
  lb := h.lb.new hb
  cl := (hb.block _ (Array.getElem?_eq_some_iff.1 h.cl).1).trans h.cl
  al := h.al.new h.lb hb
  sp := fun i h1 h2 => by
    obtain ⟨b, e, hlt, c0, c1⟩ := h.sp i h1 h2
    exact ⟨b, e, by have := hb.size; omega, (bcl hb hlt).trans c0, (bcl hb hlt).trans c1⟩
  asp := fun a e _ => (h.asp a e (hA a e)).new h.lb hb
theorem It.kept {b0 m gl ol bL L : Nat} {A : Option Addr} {S : List Ai} {k : Nat} {W W' : World} (h : It b0 m gl ol bL L A S k W) (hA : ∀ a, A = some a → a.block < W.heap.size) (hk : Kz b0 m gl ol W W') : It b0 m gl ol bL L A S (k + 1) W' where
  lb := h.lb.kept hk
  cl := by
    obtain ⟨cs', e, f, _⟩ := hk.kp _ _ _ _ h.cl h.al.1 h.al.2
    rw [f (by decide)] at e
    exact e
  al := h.al.kept (Array.getElem?_eq_some_iff.1 h.cl).1 hk
  sp := fun i h1 h2 => by
    obtain ⟨b, e, hlt, c0, c1⟩ := h.sp i (by omega) h2
    obtain ⟨cs, t, fr, hc⟩ := cells_of_cell c0
    have hap := h.asp _ e hlt
    obtain ⟨cs', e', f', g'⟩ := hk.kp _ _ _ _ hc hap.1 hap.2
    refine ⟨b, e, (Array.getElem?_eq_some_iff.1 e').1, ?_, ?_⟩
    · rw [← c0]
      unfold World.cell?
      dsimp only
      rw [e', hc]
      dsimp only
      rw [g' _ (by omega)]
    · rw [← c1]
      unfold World.cell?
      dsimp only
      rw [e', hc]
      dsimp only
      rw [g' _ (by omega)]
  asp := fun a e _ => (h.asp a e (hA a e)).kept (hA a e) hk
end Go.Proofs.YtdennekkbdlhdaaDoor
namespace Go.Proofs.YtdennekkbdlhdaaDoor
open Go.RowKit Go.Shelf
attribute [local go_sem] Oper.semAt_some
set_option linter.unusedVariables false
set_option linter.unusedSimpArgs false
set_option maxRecDepth 100000

theorem pre_more {t : Nat → Bool} {n : Nat} {pre R : List (Nat × Nat)} {k : Nat} (h : freeTo t n = pre ++ R) (hk : pre.length = k) (hR : R ≠ []) : k < (freeTo t n).length := by
  rw [h, List.length_append]
  have : 0 < R.length := List.length_pos_iff.2 hR
  omega
set_option maxHeartbeats 8000000 in
theorem free1_in (d ly b0 m gl ol bT bL : Nat) (l : List Ai) (A : Option Addr) (c L : Nat) (hl : l.length ≤ 1000) (hLm : L ≤ 1048576) (J Jx : List PG → World → Prop) (W : World) (hJ : AbidesFrom W.heap.size J) (hJx : AbidesFrom W.heap.size Jx)
    (hY : ∀ pre x W1, J pre W1 → pre.length < (freeTo (tkn l) L).length → YieldAt Fence.wide (d - 1) Tryd.prog ly (pgEnc x) W1 fun e W' =>
      (e = .returned (.bool true) ∧ J (pre ++ [x]) W' ∧ Kz b0 m gl ol W1 W') ∨ (e = .returned (.bool false) ∧ Jx (pre ++ [x]) W'))
    (hLb : Lb b0 m gl ol W) (hT : W.heap[bT]? = some (.cells #[.slice A l.length c] 74 (0, 0))) (hB : W.heap[bL]? = some (.cells #[.int .i64 (L : Nat)] 3 (0, 0))) (hAp : Ap b0 m gl ol bL W) (hS : Sps W A l) (h0 : J [] W) :
    CallsIn Fence.wide d Tryd.prog 52 #[.func (.yield ly) #[] #[], .pointer (some ⟨bT, 0, none⟩), .pointer (some ⟨bL, 0, none⟩)] W fun e W' => (∃ v, e = .returned v) ∧
      ((∃ xs, pg xs = freeTo (tkn l) L ∧ J xs W') ∨ (∃ pre, (∃ k, k ≤ (freeTo (tkn l) L).length ∧ pg pre = (freeTo (tkn l) L).take k) ∧ Jx pre W')) := by
  refine callsIn_of_wp Tryd.func52 rfl trivial ?_ rfl
  simp only [Tryd.ntmps52, List.size_toArray, List.length_cons, List.length_nil, Nat.reduceAdd, Nat.reduceSub, Array.replicate_succ, Array.replicate_zero, List.push_toArray, List.append_toArray, List.nil_append, List.cons_append]
  have HY := hide hY
  have H0 := hide h0
  have HJ := hide hJ
  have HJx := hide hJx
  have HLb := hide hLb
  have HAp := hide hAp
  have HB := hide hB
  have c0 : W.cell? ⟨bT, 0, none⟩ = some (.slice A l.length c) := by rw [cell_of_row _ _ _ _ _ _ hT]; rfl
  have c1 : W.cell? ⟨bL, 0, none⟩ = some (.int .i64 (L : Nat)) := by rw [cell_of_row _ _ _ _ _ _ hB]; rfl
  have HR := hide (rising_at l A c L W hS hl hLm)
  obtain ⟨N, hN⟩ : ∃ N, N = l.length := ⟨_, rfl⟩
  rw [← hN] at c0 HR hl
  clear hN hJ hJx hY h0 hLb hAp hB hT hS
  gi_wp2
  refine ⟨trivial, (fun h => by cases h), (callsIn_wide.2 HR.out).mono ?_⟩
  rintro e W1 ⟨S, A', c', rfl, hmem, hpw, hlen, hS, hF, hb1⟩
  have hkeep : ∀ s ∈ S, keepB L s = true := fun s hs => (List.mem_filter.1 ((hmem s).1 hs)).2
  have HFr := hide (show freeTo (tkn l) L = freeTo (tkn S) L from free_congr L fun p hp => by
    rw [← tkn_keep hp]
    exact (inB_mem hmem _).symm)
  rw [HFr.out] at HY
  have HPre := hide (atK_pre hpw hkeep)
  have HTak := hide (fun k (h : k ≤ S.length) => atK_take hpw hkeep h)
  have HStep := hide (fun k (h : k < S.length) => free_step hpw hkeep h)
  have HEnd := hide (free_end hkeep)
  have HKb := hide hkeep
  have HI := hide (show It b0 m gl ol bL L A' S 0 W1 from ⟨HLb.out.new hb1, (hb1.block _ (Array.getElem?_eq_some_iff.1 HB.out).1).trans HB.out, HAp.out.new HLb.out hb1, fun i _ hi => by
    obtain ⟨b, off, e, hlt, c0, c1⟩ := hS.at hi
    obtain ⟨⟨_, h2⟩, _⟩ := hF _ e
    dsimp only at h2
    subst h2
    rw [Nat.zero_add] at c0 c1
    exact ⟨b, e, hlt, c0, c1⟩, fun a e _ => Ap.fresh HLb.out hb1 (hF a e).2⟩)
  have H64 := hide hS.1
  have H1 := hide (abides_new HJ.out H0.out hb1)
  have hSl : S.length ≤ 1000 := by have := hlen; omega
  clear hmem hpw hlen hS hF hkeep H0 HLb HAp HB c0 c1 HR hb1
  obtain ⟨M, hM⟩ : ∃ M, M = S.length := ⟨_, rfl⟩
  have HM := hide hM
  rw [← hM] at hSl ⊢
  clear hM
  gi_wp2
  gi_loopw [4, 11] (fun av kv wr => ∃ (k : Nat) (pre : List PG), k ≤ M ∧ kv = .int .i64 k ∧ av = .int .i64 (atF (S.take k)) ∧ pg pre = atK S L k ∧ It b0 m gl ol bL L A' S k wr ∧ J pre wr) (fun _ kv _ => M - (intOf kv).toNat)
  case atStart => exact ⟨0, [], Nat.zero_le _, rfl, rfl, rfl, HI.out, H1.out⟩
  case round =>
    obtain ⟨k, pre, hk, rfl, rfl, hP, hI, hJ⟩ := hrel
    have HP := hide hP
    have HIr := hide hI
    have HJr := hide hJ
    have HPl := hide (show (atK S L k).length = pre.length from by rw [← pg_len, hP])
    obtain ⟨a, ha⟩ := Int.eq_ofNat_of_zero_le (atF_nonneg (S.take k))
    rw [ha]
    by_cases hlt : k < M
    · have hil : k < S.length := by rw [← HM.out]; exact hlt
      obtain ⟨b, rfl, hbl, c0, c1⟩ := hI.sp k (Nat.le_refl _) hil
      have hAl : ∀ a, some (⟨b, 0, none⟩ : Addr) = some a → a.block < wr.heap.size := fun a e => by cases e; exact hbl
      have hst := HStep.out k hil
      rw [ha] at hst
      have HAt := hide (show atF (S.take (k + 1)) = max (a : Int) (S.getD k (0, 0)).2 from by rw [take_snoc S (0, 0) k hil, atF_snoc, ha])
      obtain ⟨_, hkl, _⟩ := keepB_iff.1 (HKb.out _ (mem_at hil))
      obtain ⟨Rr, hRr⟩ := HPre.out (S.length - (k + 1)) (k + 1) (by omega)
      have hi64 := H64.out _ (mem_at hil)
      have HAK := hide (show atK S L k = freeTo (tkn S) (min a L) from by unfold atK; rw [ha]; rfl)
      have HAK1 := hide (show atK S L (k + 1) = freeTo (tkn S) (min (atF (S.take (k + 1))).toNat L) from rfl)
      generalize S.getD k (0, 0) = z at *
      obtain ⟨f, g⟩ := z
      dsimp only at c0 c1 hst HAt hkl hi64
      have hb1 := bal wr (.cells #[.int .i64 f, .int .i64 g] 78)
      have HI1 := hide (hI.new hAl hb1)
      have hAl1 : ∀ a, some (⟨b, 0, none⟩ : Addr) = some a → a.block < (wr.alloc (.cells #[.int .i64 f, .int .i64 g] 78)).heap.size := fun a e => by cases e; simp; omega
      have HAl1 := hide hAl1
      have HJ1 := hide (abides_new HJ.out hJ hb1)
      have HAb := hide (Ap.fresh hI.lb hb1 (Nat.le_refl _))
      obtain ⟨mx, hmx⟩ : ∃ mx, mx = max (a : Int) g := ⟨_, rfl⟩
      rw [← hmx] at HAt
      have hmx1 : ∀ (ts : Array TypeId) (ty : TypeId) (W : World), (Builtin.max_ ts ty #[.int .i64 (a : Nat), .int .i64 g]).run Tryd.prog W = .ok (.int .i64 mx) W := fun ts ty W => by
        rw [run_max_int2]
        have : (if g > (a : Int) then g else (a : Int)) = mx := by split <;> omega
        rw [this]
      have HMx := hide (show 0 ≤ mx by omega)
      clear hmx hb1 hil hP hI hJ hAl hAl1
      by_cases hfa : (a : Int) < f
      · obtain ⟨fn, hfn⟩ := Int.eq_ofNat_of_zero_le (show 0 ≤ f by omega)
        subst hfn
        have hR1 := hst.1 hfa
        have hR2 := hst.2
        rw [if_pos hfa] at hR2
        simp only [Int.toNat_natCast] at hR2
        have hE : atK S L (k + 1) = atK S L k ++ [(a, fn)] := by rw [HAK1.out, HAK.out]; exact hR2
        have hfL : fn < L := by omega
        have hlen : pre.length < (freeTo (tkn S) L).length := pre_more (by rw [hRr, hE, List.append_assoc]) HPl.out (by simp)
        obtain ⟨fnc, tmps, assign, body, hy, hRy⟩ := HY.out pre ⟨(a, fn), by dsimp only; omega⟩ (wr.alloc (.cells #[.int .i64 (fn : Nat), .int .i64 g] 78)) HJ1.out hlen
        have HE := hide (show ∀ x : PG, x.1 = (a, fn) → pg (pre ++ [x]) = atK S L (k + 1) from fun x hx => by rw [pg_snoc, HP.out, hE, hx])
        dsimp only [pgEnc] at hy
        have HRy := hide hRy
        obtain ⟨j, hj1, hj2⟩ := HTak.out (k + 1) (by have := HM.out; omega)
        have HT1 := hide hj1
        have HT2 := hide hj2
        have hwl : wr.heap.size < (wr.alloc (.cells #[.int .i64 (fn : Nat), .int .i64 g] 78)).heap.size := by simp
        have HNw := hide (heap_alloc_new wr (.cells #[.int .i64 (fn : Nat), .int .i64 g] 78))
        clear hst hR1 hR2 hE hlen hRy hj1 hj2 hRr
        gi_wp2
        refine ⟨(fun h => by cases h), HRy.out.mono ?_⟩
        rintro e W3 (⟨rfl, hJ3, hk3⟩ | ⟨rfl, hJ3⟩)
        · have HJ3 := hide hJ3
          have HI3 := hide (HI1.out.kept HAl1.out hk3)
          obtain ⟨cx, hbx, _, hcx⟩ := hk3.kp _ _ _ _ HNw.out HAb.out.1 HAb.out.2
          have d1 : W3.cell? ⟨wr.heap.size, 1, none⟩ = some (.int .i64 g) := by
            unfold World.cell?
            dsimp only
            rw [hbx]
            dsimp only
            rw [hcx 1 (Nat.le_refl _)]; rfl
          have hwl3 : wr.heap.size < W3.heap.size := (Array.getElem?_eq_some_iff.1 hbx).1
          clear hJ3 hk3 hbx hcx hy HRy
          gi_wp2
          go_roundw
          case rel => exact ⟨k + 1, _, by omega, by go_num, by rw [HAt.out], HE.out _ rfl, HI3.out, HJ3.out⟩
          case measure => simp [intOf]; omega
        · have HJ3 := hide hJ3
          clear hJ3 hy HRy
          gi_wp2
          refine bodyPost_ret (results_none rfl _ _ _) rfl ?_
          refine ⟨⟨_, rfl⟩, .inr ⟨pre ++ [⟨(a, fn), by dsimp only; omega⟩], ⟨j, ?_, ?_⟩, HJ3.out⟩⟩
          · rw [HFr.out]; exact HT1.out
          · rw [HFr.out, ← HT2.out]; exact HE.out _ rfl
      · have hR2 := hst.2
        rw [if_neg hfa] at hR2
        simp only [Int.toNat_natCast] at hR2
        have HE := hide (show pg pre = atK S L (k + 1) from by rw [HP.out, HAK1.out, HAK.out]; exact hR2.symm)
        have d1 : (wr.alloc (.cells #[.int .i64 f, .int .i64 g] 78)).cell? ⟨wr.heap.size, 1, none⟩ = some (.int .i64 g) := by rw [cell_of_row _ _ _ _ _ _ (heap_alloc_new wr _)]; rfl
        have hd0 : decide ((a : Int) < f) = false := decide_eq_false hfa
        clear hst hR2 hRr hfa
        gi_wp2
        refine ⟨(fun f h => by cases h), ?_⟩
        gi_wp2
        go_roundw
        case rel => exact ⟨k + 1, _, by omega, by go_num, by rw [HAt.out], HE.out, HI1.out.kept HAl1.out (Kq.refl _ _ _ _ _).toZ, HJ1.out⟩
        case measure => simp [intOf]; omega
    · obtain rfl : k = M := by omega
      have HEq := hide (show S.take k = S from by rw [HM.out, List.take_length])
      have hen := HEnd.out
      have hAK : atK S L k = freeTo (tkn S) (min a L) := by unfold atK; rw [ha]; rfl
      rw [HEq.out] at ha
      rw [ha] at hen
      simp only [Int.toNat_natCast] at hen
      rw [← hAK] at hen
      have cl : wr.cell? ⟨bL, 0, none⟩ = some (.int .i64 (L : Nat)) := by rw [cell_of_row _ _ _ _ _ _ hI.cl]; rfl
      have hbl : bL < wr.heap.size := (Array.getElem?_eq_some_iff.1 hI.cl).1
      by_cases haL : (a : Int) < (L : Int)
      · rw [if_pos haL] at hen
        have hlen : pre.length < (freeTo (tkn S) L).length := pre_more hen HPl.out (by simp)
        obtain ⟨fnc, tmps, assign, body, hy, hRy⟩ := HY.out pre ⟨(a, L), by dsimp only; omega⟩ wr hJ hlen
        have HE := hide (show ∀ x : PG, x.1 = (a, L) → pg (pre ++ [x]) = freeTo (tkn S) L from fun x hx => by rw [pg_snoc, HP.out, hen, hx])
        dsimp only [pgEnc] at hy
        have HRy := hide hRy
        clear hen hAK hlen hRy hP hI hJ
        gi_wp2
        refine ⟨(fun h => by cases h), HRy.out.mono ?_⟩
        rintro e W3 (⟨rfl, hJ3, hk3⟩ | ⟨rfl, hJ3⟩)
        · have HJ3 := hide hJ3
          clear hJ3 hk3 hy HRy
          gi_wp2
          go_end0
          exact ⟨⟨_, rfl⟩, .inl ⟨_, by rw [HFr.out]; exact HE.out _ rfl, HJ3.out⟩⟩
        · have HJ3 := hide hJ3
          clear hJ3 hy HRy
          gi_wp2
          go_end0
          exact ⟨⟨_, rfl⟩, .inr ⟨_, ⟨_, Nat.le_refl _, by rw [HFr.out, List.take_length]; exact HE.out _ rfl⟩, HJ3.out⟩⟩
      · rw [if_neg haL] at hen
        have HE := hide (show pg pre = freeTo (tkn S) L from by rw [HP.out, hen])
        clear hen hAK hP hI hJ
        gi_wp2
        go_end0
        exact ⟨⟨_, rfl⟩, .inl ⟨_, by rw [HFr.out]; exact HE.out, HJr.out⟩⟩

/-- the iterator's contract, as a range over it takes it -/
theorem free_stops (d b0 m gl ol bT bL : Nat) (l : List Ai) (A : Option Addr) (c L : Nat) (hl : l.length ≤ 1000) (hLm : L ≤ 1048576) (w : World) (hLb : Lb b0 m gl ol w) (hT : w.heap[bT]? = some (.cells #[.slice A l.length c] 74 (0, 0))) (hB : w.heap[bL]? = some (.cells #[.int .i64 (L : Nat)] 3 (0, 0))) (hAp : Ap b0 m gl ol bL w) (hS : Sps w A l) :
    SeqStopsK Fence.wide d Tryd.prog 52 #[.pointer (some ⟨bT, 0, none⟩), .pointer (some ⟨bL, 0, none⟩)] pgEnc (Kz b0 m gl ol) (fun ys => pg ys = freeTo (tkn l) L)
      (fun pre => ∃ k, k ≤ (freeTo (tkn l) L).length ∧ pg pre = (freeTo (tkn l) L).take k) (freeTo (tkn l) L).length w := fun ly J Jx W hW hJ hJx hY h0 =>
  free1_in d ly b0 m gl ol bT bL l A c L hl hLm J Jx W hJ hJx hY (hLb.new hW) ((hW.block _ (Array.getElem?_eq_some_iff.1 hT).1).trans hT) ((hW.block _ (Array.getElem?_eq_some_iff.1 hB).1).trans hB) (hAp.new hLb hW) (hS.of_below hW (Nat.le_refl _)) h0
end Go.Proofs.YtdennekkbdlhdaaDoor
namespace Go.Proofs.YtdennekkbdlhdaaDoor
open Go.RowKit Go.Shelf
attribute [local go_sem] Oper.semAt_some
set_option linter.unusedVariables false
set_option linter.unusedSimpArgs false
set_option maxRecDepth 100000

structure KeepsCells (W W' : World) : Prop where
  size : W.heap.size ≤ W'.heap.size
  same : ∀ (k : Nat) (o : Obj), W.heap[k]? = some o → o.isCells = true → W'.heap[k]? = some o
theorem own_cells {W W' : World} {B : Nat} {t : TypeId} {sz : Nat} {h : Value} {n : Nat} {xs : List Value} (x : W.ownsRow B t sz h n xs) (hk : KeepsCells W W') : W'.ownsRow B t sz h n xs :=
  own_stands x fun k hh => by
    obtain ⟨_, _, cur, hc⟩ := own_block x hh
    rw [hc]
    exact hk.same k _ hc rfl
/-- the way out of a body that held some of them -/
def markedP (Ds : List Nat) : List Deferred := Ds.map fun D => { target := .collected D, args := #[] }
theorem leaves_markedP {fn : Func} {R : Ending → World → Prop} {tm : Array Value} : ∀ (Ds : List Nat) (W : World), (∀ D ∈ Ds, W.heap[D]? = some (.deferred (some []))) → Ds.Nodup →
    (∀ W' : World, W'.os = W.os → W'.tape = W.tape → W'.output = W.output → W'.heap.size = W.heap.size → (∀ k, k ∉ Ds → W'.heap[k]? = W.heap[k]?) → ∃ v, (results fn tm).run Tryd.prog W' = .ok v W' ∧ R (.returned v) W') →
    LeavesInM Fence.wide 2 Tryd.prog fn tm R (markedP Ds) .returning W := by
  intro Ds
  induction Ds with
  | nil => intro W _ _ h; obtain ⟨v, h1, h2⟩ := h W rfl rfl rfl rfl fun _ _ => rfl; exact ⟨v, h1, h2⟩
  | cons D Ds ih =>
    intro W hD hN h
    have h0 := hD D (List.mem_cons_self ..)
    refine ⟨by simp, .inl ⟨D, W.putObj D (.deferred none), rfl, run_takeDeferred h0, ih _ ?_ (List.nodup_cons.1 hN).2 ?_⟩⟩
    · intro E hE
      rw [World.putObj_heap_other (show E ≠ D from fun e => (List.nodup_cons.1 hN).1 (e ▸ hE))]
      exact hD E (List.mem_cons_of_mem _ hE)
    · intro W' o1 o2 o3 o4 o5
      refine h W' o1 o2 o3 (by rw [o4]; simp) fun k hk => ?_
      simp only [List.mem_cons, not_or] at hk
      rw [o5 k hk.2, World.putObj_heap_other hk.1]
/-- marks that stand -/
structure Mk (B : Nat) (W : World) (Ds : List Nat) : Prop where
  ds : ∀ D ∈ Ds, B ≤ D ∧ W.heap[D]? = some (.deferred (some []))
  nd : Ds.Nodup
theorem Mk.on {B : Nat} {W W' : World} {Ds : List Nat} (h : Mk B W Ds) (hk : KeepsOthers W W') : Mk B W' Ds := ⟨fun D hD => ⟨(h.ds D hD).1, hk.same D _ (h.ds D hD).2 rfl⟩, h.nd⟩
theorem Mk.below {B : Nat} {W W' : World} {Ds : List Nat} (h : Mk B W Ds) (hb : Below W.heap.size W W') : Mk B W' Ds := ⟨fun D hD => ⟨(h.ds D hD).1, (hb.block _ (Array.getElem?_eq_some_iff.1 (h.ds D hD).2).1).trans (h.ds D hD).2⟩, h.nd⟩
theorem Mk.more {B : Nat} {W : World} {Ds : List Nat} (h : Mk B W Ds) {D : Nat} (hB : B ≤ D) (hK : W.heap[D]? = some (.deferred (some []))) (hn : D ∉ Ds) : Mk B W (D :: Ds) :=
  ⟨fun E hE => by
    rcases List.mem_cons.1 hE with rfl | hE
    · exact ⟨hB, hK⟩
    · exact h.ds E hE, List.nodup_cons.2 ⟨hn, h.nd⟩⟩
theorem Mk.grown {B C : Nat} {W W' : World} {Ds : List Nat} {row : Option Nat} (h : Mk B W Ds) (hC : ∀ D ∈ Ds, D < C) (hg : W.grownBy W' row) (hr : ∀ r, row = some r → C ≤ r) : Mk B W' Ds :=
  ⟨fun D hD => ⟨(h.ds D hD).1, (hg.block D (Array.getElem?_eq_some_iff.1 (h.ds D hD).2).1 fun e => by have := hr D e.symm; have := hC D hD; omega).trans (h.ds D hD).2⟩, h.nd⟩
theorem Mk.lt {B : Nat} {W : World} {Ds : List Nat} (h : Mk B W Ds) : ∀ D ∈ Ds, D < W.heap.size := fun D hD => (Array.getElem?_eq_some_iff.1 (h.ds D hD).2).1
theorem Mk.nil (B : Nat) (W : World) : Mk B W [] := ⟨by simp, by simp⟩
/-- how such a body is left -/
theorem leave_ret {fn : Func} {R : Ending → World → Prop} {tm : Array Value} {Ds : List Nat} {W : World} {B : Nat} (hm : Mk B W Ds)
    (h : ∀ W' : World, Below B W W' → KeepsCells W W' → ∃ v, (results fn tm).run Tryd.prog W' = .ok v W' ∧ R (.returned v) W') : postM fn R .ret { tmps := tm, defers := markedP Ds } W :=
  leaves_markedP Ds W (fun D hD => (hm.ds D hD).2) hm.nd fun W' o1 o2 o3 o4 o5 => h W' ⟨o1, o2, o3, by rw [o4]; exact Nat.le_refl _, fun k hk => o5 k fun hd => by have := (hm.ds k hd).1; omega⟩ ⟨by rw [o4]; exact Nat.le_refl _, fun k o hk ho => by
    rw [o5 k fun hd => by rw [(hm.ds k hd).2] at hk; cases hk; cases ho]; exact hk⟩


theorem st_hit {W : World} {g : Nat} {v v0 : Value} {t : TypeId} (h : W.heap[g]? = some (.cells #[v0] t (0, 0))) : (W.setCell ⟨g, 0, none⟩ v).heap[g]? = some (.cells #[v] t (0, 0)) := by rw [set_cells h]; rfl
theorem st_miss {W : World} {g k j : Nat} {v : Value} {o : Option Obj} (hne : k ≠ g) (h : W.heap[k]? = o) : (W.setCell ⟨g, j, none⟩ v).heap[k]? = o := (setCell_other hne).trans h
theorem ko_below {W W1 : World} (hb : Below W.heap.size W W1) : KeepsOthers W W1 :=
  KeepsOthers.of_grownBy (row := none) ⟨hb.os, hb.tape, hb.output, hb.size, fun k hk _ => hb.block k hk⟩ (fun j o e => by cases e)
/-- a box of one's own is set anew -/
theorem Kq.set {b0 m gl ol : Nat} {W : World} {g j : Nat} {v : Value} (hg : b0 ≤ g ∧ g < b0 + m) (hgl : g ≠ gl) : Kq b0 m gl ol W (W.setCell ⟨g, j, none⟩ v) := by
  have hcell : (W.setCell ⟨g, j, none⟩ v).heap[gl]? = W.heap[gl]? := setCell_other (fun e => hgl e.symm)
  refine ⟨by simp, fun a ha => .inl ?_, fun k cs t fr hk hb _ => ?_⟩
  · rw [lbQ_same hcell] at ha; exact ha
  · exact st_miss (fun e => hb (by omega)) hk
theorem lbQ_int {gl ol : Nat} {W : World} {z : Int} {k : IntKind} (h : W.cell? ⟨gl, ol, none⟩ = some (.int k z)) : lbQ gl ol W = none := by unfold lbQ; rw [h]
end Go.Proofs.YtdennekkbdlhdaaDoor
namespace Go.Proofs.YtdennekkbdlhdaaDoor
open Go.RowKit Go.Shelf
attribute [local go_sem] Oper.semAt_some
set_option linter.unusedVariables false
set_option linter.unusedSimpArgs false
set_option maxRecDepth 100000

/-- five boxes, one behind the other -/
theorem five_boxes (w : World) (a0 a1 a2 a3 a4 : Value) (t0 t1 t2 t3 t4 : TypeId) (W0 : World) (h : W0 = ((((w.alloc (.cells #[a0] t0)).alloc (.cells #[a1] t1)).alloc (.cells #[a2] t2)).alloc (.cells #[a3] t3)).alloc (.cells #[a4] t4)) :
    Below w.heap.size w W0 ∧ W0.heap.size = w.heap.size + 5 ∧ W0.heap[w.heap.size]? = some (.cells #[a0] t0 (0, 0)) ∧ W0.heap[w.heap.size + 1]? = some (.cells #[a1] t1 (0, 0)) ∧ W0.heap[w.heap.size + 1 + 1]? = some (.cells #[a2] t2 (0, 0)) ∧
      W0.heap[w.heap.size + 1 + 1 + 1]? = some (.cells #[a3] t3 (0, 0)) ∧ W0.heap[w.heap.size + 1 + 1 + 1 + 1]? = some (.cells #[a4] t4 (0, 0)) := by
  subst h
  have n0 := heap_alloc_new w (.cells #[a0] t0)
  have n1 := heap_alloc_new (w.alloc (.cells #[a0] t0)) (.cells #[a1] t1)
  have n2 := heap_alloc_new ((w.alloc (.cells #[a0] t0)).alloc (.cells #[a1] t1)) (.cells #[a2] t2)
  have n3 := heap_alloc_new (((w.alloc (.cells #[a0] t0)).alloc (.cells #[a1] t1)).alloc (.cells #[a2] t2)) (.cells #[a3] t3)
  have n4 := heap_alloc_new ((((w.alloc (.cells #[a0] t0)).alloc (.cells #[a1] t1)).alloc (.cells #[a2] t2)).alloc (.cells #[a3] t3)) (.cells #[a4] t4)
  simp only [World.size_alloc] at n1 n2 n3 n4
  refine ⟨((((bal w _).alloc (by simp) _).alloc (by simp; omega) _).alloc (by simp; omega) _).alloc (by simp; omega) _, by simp, ?_, ?_, ?_, ?_, n4⟩
  · exact (heap_alloc_old _ _ (by simp only [World.size_alloc]; omega)).trans ((heap_alloc_old _ _ (by simp only [World.size_alloc]; omega)).trans ((heap_alloc_old _ _ (by simp only [World.size_alloc]; omega)).trans ((heap_alloc_old _ _ (by simp only [World.size_alloc]; omega)).trans n0)))
  · exact (heap_alloc_old _ _ (by simp only [World.size_alloc]; omega)).trans ((heap_alloc_old _ _ (by simp only [World.size_alloc]; omega)).trans ((heap_alloc_old _ _ (by simp only [World.size_alloc]; omega)).trans n1))
  · exact (heap_alloc_old _ _ (by simp only [World.size_alloc]; omega)).trans ((heap_alloc_old _ _ (by simp only [World.size_alloc]; omega)).trans n2)
  · exact (heap_alloc_old _ _ (by simp only [World.size_alloc]; omega)).trans n3
/-- an early answer, in the two cells of the results -/
theorem cells_end {fn : Func} {tm : Array Value} {W : World} {w : World} {V a0 a1 : Value} {b : Nat} {t0 t1 : TypeId} {Ds : List Nat} {B : Nat} (hm : Mk B W Ds) (hb : Below w.heap.size w W) (hw : w.heap.size ≤ B) (h0 : W.heap[b]? = some (.cells #[a0] t0 (0, 0))) (h1 : W.heap[b + 1]? = some (.cells #[a1] t1 (0, 0)))
    (hr : ∀ W', W'.cell? ⟨b, 0, none⟩ = some a0 → W'.cell? ⟨b + 1, 0, none⟩ = some a1 → (results fn tm).run Tryd.prog W' = .ok (.tuple #[a0, a1]) W') (hV : V = .tuple #[a0, a1]) :
    postM fn (fun e w' => e = .returned V ∧ Below w.heap.size w w') .ret { tmps := tm, defers := markedP Ds } W := by
  refine leave_ret hm fun W' hb' hk' => ⟨_, hr W' ?_ ?_, by rw [hV], hb.trans (hb'.mono (by omega))⟩
  · rw [cell_of_row _ _ _ _ _ _ (hk'.same _ _ h0 rfl)]; rfl
  · rw [cell_of_row _ _ _ _ _ _ (hk'.same _ _ h1 rfl)]; rfl

/-- what stands while it is looked for -/
structure Fb (w : World) (z a L : Nat) (pre : List PG) (W : World) : Prop where
  bel : Below w.heap.size w W
  sz : w.heap.size + 7 ≤ W.heap.size
  c0 : W.heap[w.heap.size]? = some (.cells #[.int .i64 (z : Nat)] 3 (0, 0))
  c1 : W.heap[w.heap.size + 1]? = some (.cells #[.int .i64 (a : Nat)] 3 (0, 0))
  c2 : W.heap[w.heap.size + 1 + 1]? = some (.cells #[.int .i64 (L : Nat)] 3 (0, 0))
  c3 : W.heap[w.heap.size + 1 + 1 + 1]? = some (.cells #[.int .i64 0] 3 (0, 0))
  c4 : W.heap[w.heap.size + 1 + 1 + 1 + 1]? = some (.cells #[.bool false] 4 (0, 0))
  ok : ∀ x ∈ pre, holdB z a x.1 = false
/-- how it is left -/
structure Fx (w : World) (z a L : Nat) (c : Code) (pre : List PG) (W : World) : Prop where
  bel : Below w.heap.size w W
  sz : w.heap.size + 7 ≤ W.heap.size
  out : ∃ p x, pre = p ++ [x] ∧ (∀ y ∈ p, holdB z a y.1 = false) ∧
    ((c = .ret ∧ holdB z a x.1 = true ∧ W.heap[w.heap.size + 1 + 1 + 1]? = some (.cells #[.int .i64 (upF x.1.1 a : Nat)] 3 (0, 0)) ∧ W.heap[w.heap.size + 1 + 1 + 1 + 1]? = some (.cells #[.bool true] 4 (0, 0))) ∨
     (c = .exit 0 ∧ L < upF x.1.1 a + z ∧ W.heap[w.heap.size + 1 + 1 + 1]? = some (.cells #[.int .i64 0] 3 (0, 0)) ∧ W.heap[w.heap.size + 1 + 1 + 1 + 1]? = some (.cells #[.bool false] 4 (0, 0))))
theorem Fb.from {w A B : World} {z a L : Nat} {pre : List PG} {C : Nat} {row : Option Nat} (hs : Fb w z a L pre A) (hg : A.grownBy B row) (hr : ∀ r, row = some r → C ≤ r ∧ ∃ o : Obj, A.heap[r]? = some o ∧ o.isCells = false) (hC : w.heap.size + 7 ≤ C) : Fb w z a L pre B := by
  have := hs.sz
  exact ⟨hs.bel.grown hg (by omega) (fun k e => by have := (hr k e).1; omega), Nat.le_trans hs.sz hg.size, row_kept hs.c0 hg hr, row_kept hs.c1 hg hr, row_kept hs.c2 hg hr, row_kept hs.c3 hg hr, row_kept hs.c4 hg hr, hs.ok⟩
theorem Fx.from {w A B : World} {z a L : Nat} {c : Code} {pre : List PG} {C : Nat} {row : Option Nat} (hs : Fx w z a L c pre A) (hg : A.grownBy B row) (hr : ∀ r, row = some r → C ≤ r ∧ ∃ o : Obj, A.heap[r]? = some o ∧ o.isCells = false) (hC : w.heap.size + 7 ≤ C) : Fx w z a L c pre B := by
  have := hs.sz
  refine ⟨hs.bel.grown hg (by omega) (fun k e => by have := (hr k e).1; omega), Nat.le_trans hs.sz hg.size, ?_⟩
  obtain ⟨p, x, h1, h2, h3⟩ := hs.out
  refine ⟨p, x, h1, h2, ?_⟩
  rcases h3 with ⟨e, h4, h5, h6⟩ | ⟨e, h4, h5, h6⟩
  · exact .inl ⟨e, h4, row_kept h5 hg hr, row_kept h6 hg hr⟩
  · exact .inr ⟨e, h4, row_kept h5 hg hr, row_kept h6 hg hr⟩
/-- the loop's own variable, in a box -/
def AxS (B : Nat) (tm : Value → Value → Array Value) (x : PG) (a : Act) (W : World) : Prop :=
  ∃ Bx, B ≤ Bx ∧ W.heap[Bx]? = some (.cells #[.int .i64 (x.1.1 : Nat), .int .i64 (x.1.2 : Nat)] 78 (0, 0)) ∧ a = { tmps := tm (.pointer (some ⟨Bx, 0, none⟩)) (.agg #[.int .i64 (x.1.1 : Nat), .int .i64 (x.1.2 : Nat)]), defers := [] }
theorem pg_part {pre p : List PG} {x : PG} {Y : List (Nat × Nat)} {k : Nat} (h1 : pre = p ++ [x]) (h2 : pg pre = Y.take k) : ∃ post, Y = pg p ++ x.1 :: post := by
  subst h1
  rw [pg_snoc] at h2
  have h := List.take_append_drop k Y
  rw [← h2, List.append_assoc] at h
  exact ⟨Y.drop k, h.symm⟩
theorem pg_all {pre : List PG} {P : Nat × Nat → Prop} (h : ∀ x ∈ pre, P x.1) : ∀ x ∈ pg pre, P x := by
  intro x hx
  obtain ⟨y, hy, rfl⟩ := List.mem_map.1 hx
  exact h y hy

set_option maxHeartbeats 8000000 in
theorem First_at (l : List Ai) (A : Option Addr) (c : Nat) (size align limit : Int) (w : World) (hI : Sps w A l) (hl : l.length ≤ 1000) :
    Calls Tryd.prog 24 #[.slice A l.length c, .int .i64 size, .int .i64 align, .int .i64 limit] w fun e w' => e = .returned (firstV l size align limit) ∧ Below w.heap.size w w' := by
  have HZ := hide (isSize_at size)
  have HA := hide (isAlign_at align)
  have HL := hide (isSize_at limit)
  have HM := hide (may_split size align limit)
  have HI := hide hI
  have HLe := hide hl
  obtain ⟨N, hN⟩ : ∃ N, N = l.length := ⟨_, rfl⟩
  have HN := hide hN
  rw [← hN] at hl ⊢
  clear hI hN
  refine calls_of_wp_marks Tryd.func24 rfl ?_
  simp only [Tryd.ntmps24, List.size_toArray, List.length_cons, List.length_nil, Nat.reduceAdd, Nat.reduceSub, Array.replicate_succ, Array.replicate_zero, List.push_toArray, List.append_toArray, List.nil_append, List.cons_append]
  have HW0 := hide (five_boxes w (.int .i64 size) (.int .i64 align) (.int .i64 limit) (.int .i64 0) (.bool false) 3 3 3 3 4 _ rfl)
  go_wp2_with fail
  go_step3
  generalize ((((w.alloc (.cells #[.int .i64 size] 3)).alloc (.cells #[.int .i64 align] 3)).alloc (.cells #[.int .i64 limit] 3)).alloc (.cells #[.int .i64 0] 3)).alloc (.cells #[.bool false] 4) = W0 at *
  obtain ⟨hB0, hS0, b0, b1, b2, b3, b4⟩ := HW0.out
  have k0 : W0.cell? ⟨w.heap.size, 0, none⟩ = some (.int .i64 size) := by rw [cell_of_row _ _ _ _ _ _ b0]; rfl
  have k1 : W0.cell? ⟨w.heap.size + 1, 0, none⟩ = some (.int .i64 align) := by rw [cell_of_row _ _ _ _ _ _ b1]; rfl
  have k2 : W0.cell? ⟨w.heap.size + 1 + 1, 0, none⟩ = some (.int .i64 limit) := by rw [cell_of_row _ _ _ _ _ _ b2]; rfl
  have k3 : W0.cell? ⟨w.heap.size + 1 + 1 + 1, 0, none⟩ = some (.int .i64 0) := by rw [cell_of_row _ _ _ _ _ _ b3]; rfl
  have k4 : W0.cell? ⟨w.heap.size + 1 + 1 + 1 + 1, 0, none⟩ = some (.bool false) := by rw [cell_of_row _ _ _ _ _ _ b4]; rfl
  have f3 : W0.frozen? ⟨w.heap.size + 1 + 1 + 1, 0, none⟩ = false := by simp [World.frozen?, b3]
  have f4 : W0.frozen? ⟨w.heap.size + 1 + 1 + 1 + 1, 0, none⟩ = false := by simp [World.frozen?, b4]
  have s0 : w.heap.size < W0.heap.size := by omega
  have s1 : w.heap.size + 1 < W0.heap.size := by omega
  have s2 : w.heap.size + 1 + 1 < W0.heap.size := by omega
  have s3 : w.heap.size + 1 + 1 + 1 < W0.heap.size := by omega
  have s4 : w.heap.size + 1 + 1 + 1 + 1 < W0.heap.size := by omega
  have HS0 := hide hS0
  have HB0 := hide hB0
  have Hb0 := hide b0
  have Hb1 := hide b1
  have Hb2 := hide b2
  have Hb3 := hide b3
  have Hb4 := hide b4
  clear HW0 hS0 hB0 b0 b1 b2 b3 b4
  have HBad := hide (fun (hm : mayB size align limit = false) => show firstV l size align limit = .tuple #[.int .i64 (-1), .bool false] from if_neg (by rw [hm]; decide))
  cases h1 : sizeB size with
  | false =>
    have HV := hide (HBad.out (by rw [HM.out, h1]; rfl))
    rw [h1] at HZ
    clear h1
    go_wp2_with fail
    refine (HZ.out _).mono ?_
    rintro e w1 ⟨rfl, rfl⟩
    go_wp2_with fail
    rw [Exit.noGoto_ret]
    exact cells_end (Ds := []) (b := w.heap.size + 1 + 1 + 1) (Mk.nil w.heap.size _) ((HB0.out.setCell (p := ⟨w.heap.size + 1 + 1 + 1, 0, none⟩) (by show w.heap.size ≤ w.heap.size + 1 + 1 + 1; omega) _).setCell (p := ⟨w.heap.size + 1 + 1 + 1 + 1, 0, none⟩) (by show w.heap.size ≤ w.heap.size + 1 + 1 + 1 + 1; omega) _) (Nat.le_refl _) (st_miss (by omega) (st_hit Hb3.out)) (st_hit (st_miss (by omega) Hb4.out)) (fun W' q0 q1 => by simp [results, Tryd.results24, go_sem, q0, q1]) HV.out
  | true =>
    cases h2 : alignB align with
    | false =>
      have HV := hide (HBad.out (by rw [HM.out, h1, h2]; rfl))
      rw [h1] at HZ
      rw [h2] at HA
      clear h1 h2
      go_wp2_with fail
      refine (HZ.out _).mono ?_
      rintro e w1 ⟨rfl, rfl⟩
      go_wp2_with fail
      refine (HA.out _).mono ?_
      rintro e w1 ⟨rfl, rfl⟩
      go_wp2_with fail
      rw [Exit.noGoto_ret]
      exact cells_end (Ds := []) (b := w.heap.size + 1 + 1 + 1) (Mk.nil w.heap.size _) ((HB0.out.setCell (p := ⟨w.heap.size + 1 + 1 + 1, 0, none⟩) (by show w.heap.size ≤ w.heap.size + 1 + 1 + 1; omega) _).setCell (p := ⟨w.heap.size + 1 + 1 + 1 + 1, 0, none⟩) (by show w.heap.size ≤ w.heap.size + 1 + 1 + 1 + 1; omega) _) (Nat.le_refl _) (st_miss (by omega) (st_hit Hb3.out)) (st_hit (st_miss (by omega) Hb4.out)) (fun W' q0 q1 => by simp [results, Tryd.results24, go_sem, q0, q1]) HV.out
    | true =>
      cases h3 : sizeB limit with
      | false =>
        have HV := hide (HBad.out (by rw [HM.out, h1, h2, h3]; rfl))
        rw [h1] at HZ
        rw [h2] at HA
        rw [h3] at HL
        clear h1 h2 h3
        go_wp2_with fail
        refine (HZ.out _).mono ?_
        rintro e w1 ⟨rfl, rfl⟩
        go_wp2_with fail
        refine (HA.out _).mono ?_
        rintro e w1 ⟨rfl, rfl⟩
        go_wp2_with fail
        refine (HL.out _).mono ?_
        rintro e w1 ⟨rfl, rfl⟩
        go_wp2_with fail
        rw [Exit.noGoto_ret]
        exact cells_end (Ds := []) (b := w.heap.size + 1 + 1 + 1) (Mk.nil w.heap.size _) ((HB0.out.setCell (p := ⟨w.heap.size + 1 + 1 + 1, 0, none⟩) (by show w.heap.size ≤ w.heap.size + 1 + 1 + 1; omega) _).setCell (p := ⟨w.heap.size + 1 + 1 + 1 + 1, 0, none⟩) (by show w.heap.size ≤ w.heap.size + 1 + 1 + 1 + 1; omega) _) (Nat.le_refl _) (st_miss (by omega) (st_hit Hb3.out)) (st_hit (st_miss (by omega) Hb4.out)) (fun W' q0 q1 => by simp [results, Tryd.results24, go_sem, q0, q1]) HV.out
      | true =>
        have hm : mayB size align limit = true := by rw [HM.out, h1, h2, h3]; rfl
        have hV : firstV l size align limit = match firstF (tkn l) size.toNat align.toNat limit.toNat with
          | some p => .tuple #[.int .i64 (p : Nat), .bool true]
          | none => .tuple #[.int .i64 (-1), .bool false] := if_pos hm
        obtain ⟨g1, g2, g3, g4, g5, g6⟩ := mayB_t hm
        obtain ⟨z, rfl⟩ := Int.eq_ofNat_of_zero_le g1
        obtain ⟨a, rfl⟩ := Int.eq_ofNat_of_zero_le (show 0 ≤ align by omega)
        obtain ⟨L, rfl⟩ := Int.eq_ofNat_of_zero_le g5
        simp only [Int.toNat_natCast] at hV
        rw [h1] at HZ
        rw [h2] at HA
        rw [h3] at HL
        clear h1 h2 h3 hm HBad HM g1 g5
        by_cases h0 : z = 0
        · have HV := hide (show firstV l z a L = .tuple #[.int .i64 0, .bool true] from by rw [hV, h0, firstF_zero]; rfl)
          subst h0
          clear hV
          go_wp2_with fail
          refine (HZ.out _).mono ?_
          rintro e w1 ⟨rfl, rfl⟩
          go_wp2_with fail
          refine (HA.out _).mono ?_
          rintro e w1 ⟨rfl, rfl⟩
          go_wp2_with fail
          refine (HL.out _).mono ?_
          rintro e w1 ⟨rfl, rfl⟩
          go_wp2_with fail
          rw [Exit.noGoto_ret]
          exact cells_end (Ds := []) (b := w.heap.size + 1 + 1 + 1) (Mk.nil w.heap.size _) ((HB0.out.setCell (p := ⟨w.heap.size + 1 + 1 + 1, 0, none⟩) (by show w.heap.size ≤ w.heap.size + 1 + 1 + 1; omega) _).setCell (p := ⟨w.heap.size + 1 + 1 + 1 + 1, 0, none⟩) (by show w.heap.size ≤ w.heap.size + 1 + 1 + 1 + 1; omega) _) (Nat.le_refl _) (st_miss (by omega) (st_hit Hb3.out)) (st_hit (st_miss (by omega) Hb4.out)) (fun W' q0 q1 => by simp [results, Tryd.results24, go_sem, q0, q1]) HV.out
        · have hz0 : (((z : Nat) : Int) == 0) = false := beq_eq_false_iff_ne.2 (by omega)
          have HVal := hide hV
          clear hV
          go_wp2_with fail
          refine (HZ.out _).mono ?_
          rintro e w1 ⟨rfl, rfl⟩
          go_wp2_with fail
          refine (HA.out _).mono ?_
          rintro e w1 ⟨rfl, rfl⟩
          go_wp2_with fail
          refine (HL.out _).mono ?_
          rintro e w1 ⟨rfl, rfl⟩
          go_wp2_with fail
          go_step3
          go_wp2_with fail
          refine (free_mk A N c (L : Nat) _).mono ?_
          rintro e w1 ⟨rfl, rfl⟩
          go_wp2_with fail
          have hT5 := heap_alloc2_old W0 (.cells #[.slice A N c] 74) (.cells #[.int .i64 (L : Nat)] 3)
          have hL5 := heap_alloc2_new W0 (.cells #[.slice A N c] 74) (.cells #[.int .i64 (L : Nat)] 3)
          have hb5 : Below W0.heap.size W0 ((W0.alloc (.cells #[.slice A N c] 74)).alloc (.cells #[.int .i64 (L : Nat)] 3)) := (bal W0 _).alloc (by simp) _
          have hs5 : ((W0.alloc (.cells #[.slice A N c] 74)).alloc (.cells #[.int .i64 (L : Nat)] 3)).heap.size = W0.heap.size + 2 := by simp
          generalize (W0.alloc (.cells #[.slice A N c] 74)).alloc (.cells #[.int .i64 (L : Nat)] 3) = W5 at *
          have hq : W0.heap.size = w.heap.size + 5 := HS0.out
          have HF0 := hide (show Fb w z a L [] W5 from ⟨HB0.out.trans (hb5.mono (by omega)), by omega, (hb5.block _ s0).trans Hb0.out, (hb5.block _ s1).trans Hb1.out, (hb5.block _ s2).trans Hb2.out, (hb5.block _ s3).trans Hb3.out, (hb5.block _ s4).trans Hb4.out, fun x h => by cases h⟩)
          have hlq : lbQ w.heap.size 0 W5 = none := lbQ_int (z := z) (k := .i64) (by rw [cell_of_row _ _ _ _ _ _ HF0.out.c0]; rfl)
          have HLb := hide (show Lb w.heap.size 5 w.heap.size 0 W5 from ⟨by omega, by omega, fun x h => by rw [hlq] at h; cases h⟩)
          have HAp := hide (show Ap w.heap.size 5 w.heap.size 0 (W0.heap.size + 1) W5 from ⟨by omega, by rw [hlq]; intro h; cases h⟩)
          have HI5 := hide (HI.out.of_below HF0.out.bel (Nat.le_refl _))
          have ha0 : 0 < a := by omega
          have hzp : 0 < z := by omega
          have hw5 : w.heap.size + 7 ≤ W5.heap.size := by omega
          clear hq hs5 k0 k1 k2 k3 k4 f3 f4 s0 s1 s2 s3 s4 hb5 hlq HZ HA HL Hb0 Hb1 Hb2 Hb3 Hb4 HB0 HI
          refine (wpIn_wide (n := 2)).1 ?_
          refine wpIn_rangeFunc_ownH rfl (by omega) rfl trivial (enters_of Tryd.func52 (by kernel_rfl) rfl) (free_stops (2 - 1) w.heap.size 5 w.heap.size 0 W0.heap.size (W0.heap.size + 1) l A c L HLe.out (by omega) W5 HLb.out (by rw [← HN.out]; exact hT5) hL5 HAp.out HI5.out)
            (fun h k => h.trans k) (fun W l o o' hl hlo ho _ => Kz.put (by omega) hlo ho) (Below.refl _ _) (fun _ => rfl) (Fb w z a L) (Fx w z a L) (fun p A B row hs hg hr => hs.from hg hr hw5) (fun c p A B row hs hg hr => hs.from hg hr hw5) HF0.out
            (AxS (w.heap.size + 7) (fun p v => #[.slice A N c, .int .i64 (z : Nat), .int .i64 (a : Nat), .int .i64 (L : Nat), undef, .pointer (some ⟨w.heap.size, 0, none⟩), .pointer (some ⟨w.heap.size + 1, 0, none⟩), .pointer (some ⟨w.heap.size + 1 + 1, 0, none⟩), .pointer (some ⟨w.heap.size + 1 + 1 + 1, 0, none⟩), .pointer (some ⟨w.heap.size + 1 + 1 + 1 + 1, 0, none⟩), p, undef,
              .int .i64 (z : Nat), .bool true, .bool false, .bool false, .int .i64 (a : Nat), .bool true, .bool false, .bool false, .bool false, .int .i64 (L : Nat), .bool true, .bool false, .bool false, .int .i64 (z : Nat), .bool false, .slice A N c, .int .i64 (L : Nat),
              .func (.func 52) #[] #[.pointer (some ⟨W0.heap.size, 0, none⟩), .pointer (some ⟨W0.heap.size + 1, 0, none⟩)], v, undef, undef, undef, undef, undef, undef, undef, undef, undef, undef, undef, undef, undef, undef, undef, undef, undef, undef])) (fun x a' u A B row hs hg hr => ?ax) ?assign ?body ?done ?stop
          case ax =>
            obtain ⟨Bx, h1, h3, h4⟩ := hs
            exact ⟨Bx, h1, row_kept h3 hg hr, h4⟩
          case assign =>
            intro ly pre x W K hT hK
            have HT := hide hT
            have HK := hide hK
            have hWs := hT.sz
            clear hT hK
            obtain ⟨⟨f, g⟩, hx⟩ := x
            simp only [pgEnc]
            gi_wp2
            refine HK.out _ _ ((KeepsOthers.alloc _ _).from _) (Kq.new (bal W _) (by omega)).toZ (HT.out.from (World.grownBy_alloc W _ none) (C := w.heap.size + 7) (fun r e => by cases e) (Nat.le_refl _)) ⟨W.heap.size, by omega, heap_alloc_new W _, rfl⟩
          case body =>
            rintro ly pre x a' W hl ⟨r, hr⟩ hT ⟨Bx, hB, hrow, rfl⟩ hlen
            obtain ⟨⟨f, g⟩, hx⟩ := x
            dsimp only at hx hrow ⊢
            have d0 : W.cell? ⟨Bx, 0, none⟩ = some (.int .i64 (f : Nat)) := by rw [cell_of_row _ _ _ _ _ _ hrow]; rfl
            have d1 : W.cell? ⟨Bx, 1, none⟩ = some (.int .i64 (g : Nat)) := by rw [cell_of_row _ _ _ _ _ _ hrow]; rfl
            have hBl : Bx < W.heap.size := (Array.getElem?_eq_some_iff.1 hrow).1
            have HT := hide hT
            have k0 : W.cell? ⟨w.heap.size, 0, none⟩ = some (.int .i64 (z : Nat)) := by rw [cell_of_row _ _ _ _ _ _ hT.c0]; rfl
            have k1 : W.cell? ⟨w.heap.size + 1, 0, none⟩ = some (.int .i64 (a : Nat)) := by rw [cell_of_row _ _ _ _ _ _ hT.c1]; rfl
            have k2 : W.cell? ⟨w.heap.size + 1 + 1, 0, none⟩ = some (.int .i64 (L : Nat)) := by rw [cell_of_row _ _ _ _ _ _ hT.c2]; rfl
            have k3 : W.cell? ⟨w.heap.size + 1 + 1 + 1, 0, none⟩ = some (.int .i64 0) := by rw [cell_of_row _ _ _ _ _ _ hT.c3]; rfl
            have k4 : W.cell? ⟨w.heap.size + 1 + 1 + 1 + 1, 0, none⟩ = some (.bool false) := by rw [cell_of_row _ _ _ _ _ _ hT.c4]; rfl
            have f3 : W.frozen? ⟨w.heap.size + 1 + 1 + 1, 0, none⟩ = false := by simp [World.frozen?, hT.c3]
            have f4 : W.frozen? ⟨w.heap.size + 1 + 1 + 1 + 1, 0, none⟩ = false := by simp [World.frozen?, hT.c4]
            have hs7 := hT.sz
            have s0 : w.heap.size < W.heap.size := by omega
            have s1 : w.heap.size + 1 < W.heap.size := by omega
            have s2 : w.heap.size + 1 + 1 < W.heap.size := by omega
            have s3 : w.heap.size + 1 + 1 + 1 < W.heap.size := by omega
            have s4 : w.heap.size + 1 + 1 + 1 + 1 < W.heap.size := by omega
            have HUp := hide (up_at f a ha0 (by omega) (by omega) W)
            have hub := upF_lt (n := f) ha0
            have HHold := hide (show holdB z a (f, g) = decide (upF f a + z ≤ g) from rfl)
            clear hT hrow hr hl hlen
            generalize hu : upF f a = u at *
            have HU := hide hu
            clear hu
            gi_wp2
            refine ⟨trivial, rfl, (CallsIn.inRound ly (callsIn_wide.2 HUp.out)).mono ?_⟩
            rintro e W1 ⟨rfl, rfl⟩
            by_cases hh : (u : Int) + (z : Int) ≤ (g : Int)
            · have HH := hide (show holdB z a (f, g) = true by rw [HHold.out]; exact decide_eq_true (by omega))
              gi_wp2
              refine ⟨((KeepsOthers.setCell _ _ _).trans (KeepsOthers.setCell _ _ _)).from _, (HT.out.bel.setCell (p := ⟨w.heap.size + 1 + 1 + 1, 0, none⟩) (by show w.heap.size ≤ w.heap.size + 1 + 1 + 1; omega) _).setCell (p := ⟨w.heap.size + 1 + 1 + 1 + 1, 0, none⟩) (by show w.heap.size ≤ w.heap.size + 1 + 1 + 1 + 1; omega) _, by simpa using HT.out.sz, pre, ⟨(f, g), hx⟩, rfl, HT.out.ok, .inl ⟨rfl, HH.out, ?_, ?_⟩⟩
              · rw [HU.out]
                exact st_miss (by omega) (st_hit HT.out.c3)
              · exact st_hit (st_miss (by omega) HT.out.c4)
            · have HH := hide (show holdB z a (f, g) = false by rw [HHold.out]; exact decide_eq_false (by omega))
              by_cases hg : (L : Int) < (u : Int) + (z : Int)
              · gi_wp2
                refine ⟨(KeepsOthers.refl _).from _, HT.out.bel, HT.out.sz, pre, ⟨(f, g), hx⟩, rfl, HT.out.ok, .inr ⟨rfl, by dsimp only; rw [HU.out]; omega, HT.out.c3, HT.out.c4⟩⟩
              · gi_wp2
                refine ⟨(KeepsOthers.refl _).from _, (Kq.refl _ _ _ _ _).toZ, { HT.out with ok := fun y hy => ?_ }⟩
                rcases List.mem_append.1 hy with h6 | h6
                · exact HT.out.ok y h6
                · obtain rfl := List.mem_singleton.1 h6; exact HH.out
          case done =>
            rintro D xs W hD hxs hT hK
            have HV := hide (show firstV l z a L = .tuple #[.int .i64 (-1), .bool false] from by rw [HVal.out, first_miss ha0 hzp (by rw [← hxs]; exact pg_all hT.ok)])
            have HT := hide hT
            have k3 : W.cell? ⟨w.heap.size + 1 + 1 + 1, 0, none⟩ = some (.int .i64 0) := by rw [cell_of_row _ _ _ _ _ _ hT.c3]; rfl
            have k4 : W.cell? ⟨w.heap.size + 1 + 1 + 1 + 1, 0, none⟩ = some (.bool false) := by rw [cell_of_row _ _ _ _ _ _ hT.c4]; rfl
            have f3 : W.frozen? ⟨w.heap.size + 1 + 1 + 1, 0, none⟩ = false := by simp [World.frozen?, hT.c3]
            have f4 : W.frozen? ⟨w.heap.size + 1 + 1 + 1 + 1, 0, none⟩ = false := by simp [World.frozen?, hT.c4]
            have hs7 := hT.sz
            have s3 : w.heap.size + 1 + 1 + 1 < W.heap.size := by omega
            have s4 : w.heap.size + 1 + 1 + 1 + 1 < W.heap.size := by omega
            have HMk := hide ((Mk.nil (w.heap.size + 7) W).more (D := D) (by omega) hK (by simp))
            clear hT hxs hK
            go_wp2_with fail
            rw [Exit.noGoto_ret]
            exact cells_end (Ds := [D]) (b := w.heap.size + 1 + 1 + 1) (HMk.out.on ((KeepsOthers.setCell _ _ _).trans (KeepsOthers.setCell _ _ _))) ((HT.out.bel.setCell (p := ⟨w.heap.size + 1 + 1 + 1, 0, none⟩) (by show w.heap.size ≤ w.heap.size + 1 + 1 + 1; omega) _).setCell (p := ⟨w.heap.size + 1 + 1 + 1 + 1, 0, none⟩) (by show w.heap.size ≤ w.heap.size + 1 + 1 + 1 + 1; omega) _) (by omega) (st_miss (by omega) (st_hit HT.out.c3)) (st_hit (st_miss (by omega) HT.out.c4)) (fun W' q0 q1 => by simp [results, Tryd.results24, go_sem, q0, q1]) HV.out
          case stop =>
            rintro D c pre W hD ⟨n, hn1, hn2⟩ hX hK
            obtain ⟨p, x, hp, hpn, hcase⟩ := hX.out
            obtain ⟨post, hpost⟩ := pg_part hp hn2
            have HMk := hide ((Mk.nil (w.heap.size + 7) W).more (D := D) (by omega) hK (by simp))
            have HX := hide hX
            have hs7 := hX.sz
            rcases hcase with ⟨rfl, h4, h5, h6⟩ | ⟨rfl, h4, h5, h6⟩
            · have HV := hide (show firstV l z a L = .tuple #[.int .i64 (upF x.1.1 a : Nat), .bool true] from by rw [HVal.out, first_hit ha0 hzp hpost (pg_all hpn) h4])
              have H5 := hide h5
              have H6 := hide h6
              clear hX hn2 hn1 hK h5 h6 hpost
              refine wpIn_wide.2 ?_
              go_wp2_with fail
              rw [Exit.noGoto_ret]
              exact cells_end (Ds := [D]) (b := w.heap.size + 1 + 1 + 1) HMk.out HX.out.bel (by omega) H5.out H6.out (fun W' q0 q1 => by simp [results, Tryd.results24, go_sem, q0, q1]) HV.out
            · have HV := hide (show firstV l z a L = .tuple #[.int .i64 (-1), .bool false] from by rw [HVal.out, first_stop ha0 hzp hpost (pg_all hpn) h4])
              have H5 := hide h5
              have H6 := hide h6
              have k3 : W.cell? ⟨w.heap.size + 1 + 1 + 1, 0, none⟩ = some (.int .i64 0) := by rw [cell_of_row _ _ _ _ _ _ h5]; rfl
              have k4 : W.cell? ⟨w.heap.size + 1 + 1 + 1 + 1, 0, none⟩ = some (.bool false) := by rw [cell_of_row _ _ _ _ _ _ h6]; rfl
              have f3 : W.frozen? ⟨w.heap.size + 1 + 1 + 1, 0, none⟩ = false := by simp [World.frozen?, h5]
              have f4 : W.frozen? ⟨w.heap.size + 1 + 1 + 1 + 1, 0, none⟩ = false := by simp [World.frozen?, h6]
              have s3 : w.heap.size + 1 + 1 + 1 < W.heap.size := by omega
              have s4 : w.heap.size + 1 + 1 + 1 + 1 < W.heap.size := by omega
              clear hX hn2 hn1 hK h5 h6 hpost
              refine wpIn_wide.2 ?_
              go_wp2_with fail
              rw [Exit.noGoto_ret]
              exact cells_end (Ds := [D]) (b := w.heap.size + 1 + 1 + 1) (HMk.out.on ((KeepsOthers.setCell _ _ _).trans (KeepsOthers.setCell _ _ _))) ((HX.out.bel.setCell (p := ⟨w.heap.size + 1 + 1 + 1, 0, none⟩) (by show w.heap.size ≤ w.heap.size + 1 + 1 + 1; omega) _).setCell (p := ⟨w.heap.size + 1 + 1 + 1 + 1, 0, none⟩) (by show w.heap.size ≤ w.heap.size + 1 + 1 + 1 + 1; omega) _) (by omega) (st_miss (by omega) (st_hit H5.out)) (st_hit (st_miss (by omega) H6.out)) (fun W' q0 q1 => by simp [results, Tryd.results24, go_sem, q0, q1]) HV.out
end Go.Proofs.YtdennekkbdlhdaaDoor
