/-
  The program's small functions; spans sorted by where they begin.
-/
import Derived.Test.YtpnpbnfjhnmhjaaPcE
import Derived.Test.YtpnpbnfjhnmhjaaShelfS
import Derived.Shelf.SlSortCmp.NoneTotal
namespace Go.Proofs.Ytpnpbnfjhnmhjaa
open Go.RowKit Go.Shelf
attribute [local go_sem] Oper.semAt_some
set_option linter.unusedVariables false
set_option linter.unusedSimpArgs false
set_option maxRecDepth 100000

def sizeB (n : Int) : Bool := decide (0 ≤ n ∧ n ≤ 1048576)
def alignB (n : Int) : Bool := decide (1 ≤ n ∧ n ≤ 1048576)
theorem may_split (size align limit : Int) : mayB size align limit = (sizeB size && alignB align && sizeB limit) := by
  unfold mayB sizeB alignB
  rw [Bool.eq_iff_iff, Bool.and_eq_true, Bool.and_eq_true, decide_eq_true_iff, decide_eq_true_iff, decide_eq_true_iff, decide_eq_true_iff]
  omega
theorem isSize_at (n : Int) (w : World) : Calls Try.prog 22 #[.int .i64 n] w fun e w' => e = .returned (.bool (sizeB n)) ∧ w = w' := by
  by_cases h1 : 0 ≤ n
  · have HV := hide (show sizeB n = decide (n ≤ 1048576) by simp [sizeB, h1])
    generalize sizeB n = b at *
    go_enter Try.func22, Try.ntmps22
    go_wp2
    go_ret
    exact ⟨by rw [HV.out]; rfl, rfl⟩
  · have HV := hide (show sizeB n = false by simp [sizeB, h1])
    generalize sizeB n = b at *
    go_enter Try.func22, Try.ntmps22
    go_wp2
    go_ret
    exact ⟨by rw [HV.out]; rfl, rfl⟩
theorem isAlign_at (n : Int) (w : World) : Calls Try.prog 23 #[.int .i64 n] w fun e w' => e = .returned (.bool (alignB n)) ∧ w = w' := by
  have HZ := hide (isSize_at n w)
  by_cases h1 : 1 ≤ n
  · have HV := hide (show alignB n = sizeB n by unfold alignB sizeB; rw [Bool.eq_iff_iff, decide_eq_true_iff, decide_eq_true_iff]; omega)
    generalize alignB n = b at *
    generalize sizeB n = b2 at *
    go_enter Try.func23, Try.ntmps23
    go_wp2_with fail
    refine HZ.out.mono ?_
    rintro e w1 ⟨rfl, rfl⟩
    go_wp2_with fail
    go_ret
    exact ⟨by rw [HV.out]; rfl, rfl⟩
  · have HV := hide (show alignB n = false by simp [alignB, h1])
    generalize alignB n = b at *
    go_enter Try.func23, Try.ntmps23
    go_wp2
    go_ret
    exact ⟨by rw [HV.out]; rfl, rfl⟩
theorem up_at (n a : Nat) (ha : 0 < a) (hn : n ≤ 10000000) (ha2 : a ≤ 1048576) (w : World) : Calls Try.prog 25 #[.int .i64 (n : Nat), .int .i64 (a : Nat)] w fun e w' => e = .returned (.int .i64 (upF n a : Nat)) ∧ w = w' := by
  have HV := hide (show ((upF n a : Nat) : Int) = ((n : Int) + (a : Int) - 1).tdiv (a : Int) * (a : Int) from by
    unfold upF
    rw [show (n : Int) + (a : Int) - 1 = ((n + a - 1 : Nat) : Int) by omega, Int.natCast_mul]
    congr 1)
  have hb := upF_lt (n := n) ha
  have hlo : 0 ≤ ((n : Int) + (a : Int) - 1).tdiv (a : Int) := Int.tdiv_nonneg (by omega) (by omega)
  have hle : ((n : Int) + (a : Int) - 1).tdiv (a : Int) ≤ (n : Int) + (a : Int) - 1 := by
    rw [Int.tdiv_eq_ediv_of_nonneg (by omega)]
    exact Int.ediv_le_self _ (by omega)
  have ha0 : ((a : Int) == 0) = false := beq_eq_false_iff_ne.2 (by omega)
  have hm : ((n : Int) + (a : Int) - 1).tdiv (a : Int) * (a : Int) = ((upF n a : Nat) : Int) := HV.out.symm
  generalize upF n a = u at *
  go_enter Try.func25, Try.ntmps25
  go_wp2
  go_ret
  exact ⟨by rw [HV.out]; rfl, rfl⟩
theorem areSizes_at (l : List Int) (A : Option Addr) (c : Nat) (w : World) (hI : Ints w A l) (hl : l.length ≤ 1000000) :
    Calls Try.prog 27 #[.slice A l.length c] w fun e w' => e = .returned (.bool (l.all sizeB)) ∧ w = w' := by
  have HI := hide hI
  have HZ := hide (fun n => isSize_at n w)
  have HAll := hide (show l.all sizeB = (l.take l.length).all sizeB by rw [List.take_length])
  obtain ⟨N, hN⟩ : ∃ N, N = l.length := ⟨_, rfl⟩
  have HN := hide hN
  rw [← hN] at hl HAll ⊢
  have HBad := hide (fun k (h : k < l.length) (hz : sizeB (l.getD k 0) = false) => show l.all sizeB = false from by
    cases hc : l.all sizeB with
    | false => rfl
    | true => rw [List.all_eq_true.1 hc _ (getD_mem h)] at hz; cases hz)
  have HT := hide (fun k (h : k < l.length) (h1 : (l.take k).all sizeB = true) (hz : sizeB (l.getD k 0) = true) => show (l.take (k + 1)).all sizeB = true from by
    rw [take_snoc l 0 k h, List.all_append, h1, List.all_cons, hz]; rfl)
  generalize l.all sizeB = R at *
  clear hI hN
  go_enter Try.func27, Try.ntmps27
  go_wp2_with fail
  go_loop [7] (fun kv => ∃ k : Nat, k ≤ N ∧ kv = .int .i64 k ∧ (l.take k).all sizeB = true) (fun kv => N - (intOf kv).toNat)
  case atStart => exact ⟨0, Nat.zero_le _, rfl, by simp⟩
  case round =>
    obtain ⟨k, hk, rfl, hall⟩ := hrel
    have HA := hide hall
    by_cases hlt : k < N
    · have hil : k < l.length := by rw [← HN.out]; exact hlt
      obtain ⟨b, off, rfl, hbl, c0⟩ := HI.out.at hil
      have HB2 := hide (HBad.out k hil)
      have HT2 := hide (HT.out k hil hall)
      generalize l.getD k 0 = z at *
      clear hil hall
      cases hz : sizeB z with
      | true =>
        have HT3 := hide (HT2.out hz)
        have HZ2 := hide (HZ.out z)
        rw [hz] at HZ2
        clear hz
        go_wp2_with fail
        refine HZ2.out.mono ?_
        rintro e w1 ⟨rfl, rfl⟩
        go_wp2_with fail
        go_round
        case rel => exact ⟨k + 1, by omega, by go_num, HT3.out⟩
        case measure => simp [intOf]; omega
      | false =>
        have HT3 := hide (HB2.out hz)
        have HZ2 := hide (HZ.out z)
        rw [hz] at HZ2
        clear hz
        go_wp2_with fail
        refine HZ2.out.mono ?_
        rintro e w1 ⟨rfl, rfl⟩
        go_wp2_with fail
        go_ret
        exact ⟨by rw [HT3.out]; rfl, rfl⟩
    · obtain rfl : k = N := by omega
      clear hall
      go_wp2_with fail
      go_ret
      exact ⟨by rw [HAll.out, HA.out]; rfl, rfl⟩

/-! ### the sort -/
def encS (x : Ai) : List Value := [.int .i64 x.1, .int .i64 x.2]
def cfS (x y : Ai) : Int := if x.1 < y.1 then -1 else if y.1 < x.1 then 1 else 0
theorem nan_at (x : Int) (w : World) : Calls Try.prog 39 #[.int .i64 x] w fun e w' => e = .returned (.bool false) ∧ w = w' := by
  have hx : (x != x) = false := by simp
  go_enter Try.func39, Try.ntmps39
  go_wp2
  go_ret
  exact ⟨rfl, rfl⟩
theorem compare_at (x y : Int) (w : World) : Calls Try.prog 36 #[.int .i64 x, .int .i64 y] w fun e w' => e = .returned (.int .i64 (if x < y then -1 else if y < x then 1 else 0)) ∧ w = w' := by
  have H1 := hide (nan_at x w)
  have H2 := hide (nan_at y w)
  obtain ⟨r, hr⟩ : ∃ r, r = (if x < y then (-1 : Int) else if y < x then 1 else 0) := ⟨_, rfl⟩
  rw [← hr]
  by_cases hlt : x < y
  · have HR := hide (show r = -1 by rw [hr, if_pos hlt])
    clear hr
    go_enter Try.func36, Try.ntmps36
    go_wp2_with fail
    refine H1.out.mono ?_
    rintro e w1 ⟨rfl, rfl⟩
    go_wp2_with fail
    refine H2.out.mono ?_
    rintro e w1 ⟨rfl, rfl⟩
    go_wp2_with fail
    go_ret
    exact ⟨by rw [HR.out]; rfl, rfl⟩
  · by_cases hgt : y < x
    · have HR := hide (show r = 1 by rw [hr, if_neg hlt, if_pos hgt])
      clear hr
      go_enter Try.func36, Try.ntmps36
      go_wp2_with fail
      refine H1.out.mono ?_
      rintro e w1 ⟨rfl, rfl⟩
      go_wp2_with fail
      refine H2.out.mono ?_
      rintro e w1 ⟨rfl, rfl⟩
      go_wp2_with fail
      go_ret
      exact ⟨by rw [HR.out]; rfl, rfl⟩
    · have HR := hide (show r = 0 by rw [hr, if_neg hlt, if_neg hgt])
      clear hr
      go_enter Try.func36, Try.ntmps36
      go_wp2_with fail
      refine H1.out.mono ?_
      rintro e w1 ⟨rfl, rfl⟩
      go_wp2_with fail
      refine H2.out.mono ?_
      rintro e w1 ⟨rfl, rfl⟩
      go_wp2_with fail
      go_ret
      exact ⟨by rw [HR.out]; rfl, rfl⟩
set_option maxHeartbeats 1000000 in
theorem cmp_at (x y : Ai) (W : World) : Calls Try.prog 35 #[.agg #[.int .i64 x.1, .int .i64 x.2], .agg #[.int .i64 y.1, .int .i64 y.2]] W fun e w' => e = .returned (.int .i64 (cfS x y)) ∧ ∃ q os', w' = Go.Sort.grow (W.drewN q) os' := by
  obtain ⟨a, b⟩ := x
  obtain ⟨c, d⟩ := y
  have HC := hide (fun w => compare_at a c w)
  have HV := hide (show cfS (a, b) (c, d) = (if a < c then (-1 : Int) else if c < a then 1 else 0) from rfl)
  rw [← HV.out] at HC
  generalize cfS (a, b) (c, d) = r at *
  dsimp only at *
  go_enter Try.func35, Try.ntmps35
  go_wp2_with fail
  refine (HC.out _).mono ?_
  rintro e w1 ⟨rfl, rfl⟩
  go_wp2_with fail
  go_ret
  exact ⟨rfl, 0, _, by rw [Go.Sort.alloc_eq_grow, Go.Sort.alloc_eq_grow, Go.Sort.grow_grow]; rfl⟩
theorem ltS (x y : Ai) : ltOf cfS x y = decide (x.1 < y.1) := by
  unfold ltOf cfS
  rw [Bool.eq_iff_iff, decide_eq_true_iff, decide_eq_true_iff]
  split
  · simp; assumption
  · split <;> simp <;> omega
theorem swoS : Go.Sort.SWO (ltOf cfS) where
  irrefl x := by rw [ltS]; simp
  trans x y z h1 h2 := by rw [ltS] at *; simp at *; omega
  ntrans x y z h1 h2 := by rw [ltS] at *; simp at *; omega
theorem flat_of (d : List Ai) (j : Nat) (hj : j < d.length * 2) : (Go.Sort.flatK encS 2 d.toArray)[j]! = if j % 2 = 0 then .int .i64 (d.getD (j / 2) (0, 0)).1 else .int .i64 (d.getD (j / 2) (0, 0)).2 := by
  rw [Go.Sort.get_flatK _ _ _ _ (by simpa using hj)]
  have hlt : j / 2 < d.length := by omega
  have e : d.toArray[j / 2]! = d[j / 2] := by simp [hlt]
  have e2 : d.getD (j / 2) (0, 0) = d[j / 2] := by
    rw [List.getD_eq_getElem?_getD, List.getElem?_eq_getElem hlt]; rfl
  rw [e, e2]
  rcases Nat.mod_two_eq_zero_or_one j with h | h <;> rw [h] <;> rfl
/-- spans that lie in a row, in the sort's words -/
theorem holds_spans {W : World} {g : Nat} {d : List Ai} (h : Sps W (some ⟨g, 0, none⟩) d) (hf : ∀ j, W.frozen? ⟨g, j, none⟩ = false) : Go.Sort.HoldsK encS 2 W g 0 d.toArray := by
  intro j hj
  rw [Go.Sort.size_flatK] at hj
  have hj' : j < d.length * 2 := by simpa using hj
  refine ⟨?_, hf _⟩
  rw [flat_of d j hj']
  obtain ⟨b, off, e, _, c0, c1⟩ := h.at (k := j / 2) (by omega)
  obtain ⟨rfl, rfl⟩ : g = b ∧ 0 = off := by cases e; exact ⟨rfl, rfl⟩
  rcases Nat.mod_two_eq_zero_or_one j with hm | hm
  · rw [if_pos hm, show 0 + j = 0 + j / 2 * 2 by omega, c0]; rfl
  · rw [if_neg (by omega), show 0 + j = 0 + j / 2 * 2 + 1 by omega, c1]; rfl
theorem spans_holds {W : World} {g : Nat} {d : List Ai} (h : Go.Sort.HoldsK encS 2 W g 0 d.toArray) (hg : g < W.heap.size) (hi : ∀ z ∈ d, I64 z.1 ∧ I64 z.2) : Sps W (some ⟨g, 0, none⟩) d := by
  refine ⟨hi, .inr ⟨g, 0, rfl, hg, fun i hi => ?_⟩⟩
  have h0 := (h (i * 2) (by rw [Go.Sort.size_flatK]; simp; omega)).1
  have h1 := (h (i * 2 + 1) (by rw [Go.Sort.size_flatK]; simp; omega)).1
  rw [flat_of d _ (by omega), if_pos (by omega), show i * 2 / 2 = i by omega] at h0
  rw [flat_of d _ (by omega), if_neg (by omega), show (i * 2 + 1) / 2 = i by omega] at h1
  exact ⟨h0, h1⟩
theorem sort_below {B g m : Nat} {W : World} {d : Array Ai} {os : Array Obj} (hB : B ≤ g) (hBW : B ≤ W.heap.size) : Below B W (sortWorldK encS 2 W g 0 m d os) := by
  refine ⟨rfl, rfl, rfl, size_sortWorldK_c _ _ _ _ _ _ _ _, fun k hk => ?_⟩
  show ((W.heap.modify g _) ++ os)[k]? = _
  rw [Array.getElem?_append_left (by simp; omega), Array.getElem?_modify, if_neg (by omega)]
/-- where a list lies that was made since -/
def From (B : Nat) (A : Option Addr) : Prop := ∀ a, A = some a → (a.spot = none ∧ a.off = 0) ∧ B ≤ a.block

/-- **the sort, by where they begin** -/
theorem sort_at (l : List Ai) (hi : ∀ z ∈ l, I64 z.1 ∧ I64 z.2) (v : Value) (B : Nat) (W : World) (hO : OwnA W B v l) (hB : B ≤ W.heap.size) (hlen : l.length ≤ 1000) :
    Calls Try.prog 34 #[v, .func (.func 35) #[] #[]] W fun e w' => e = .returned (.tuple #[]) ∧
      ∃ (l' : List Ai) (A : Option Addr) (c : Nat), v = .slice A l'.length c ∧ (∀ a, a ∈ l' ↔ a ∈ l) ∧ l'.Pairwise (fun a b => a.1 ≤ b.1) ∧ l'.length = l.length ∧ Sps w' A l' ∧ From B A ∧ Below B W w' := by
  obtain ⟨A, c, rfl, hA⟩ := own_spans hO hi
  have hF : From B A := by
    rintro a rfl
    rcases hO.2 with ⟨h1, _⟩ | ⟨g, cap, cur, e, hg, _⟩
    · cases h1
    · cases e; exact ⟨⟨rfl, rfl⟩, hg⟩
  by_cases h0 : l = []
  · subst h0
    have hn := AnyF.slices_SortFunc_none Try.sortArc A c (.func (.func 35) #[] #[]) W
    change Calls Try.prog 34 _ _ _ at hn
    refine hn.mono ?_
    rintro e w' ⟨rfl, rfl⟩
    exact ⟨rfl, [], A, c, rfl, fun a => Iff.rfl, List.Pairwise.nil, rfl, Sps.nil _ _, hF, Below.refl _ _⟩
  · have hpos : 0 < l.length := List.length_pos_iff.2 h0
    rcases hO.2 with ⟨h1, h2⟩ | ⟨g, cap, cur, e, hg, hh, _⟩
    · omega
    cases e
    have hgl : g < W.heap.size := (Array.getElem?_eq_some_iff.1 hh).1
    have hH := holds_spans (d := l) hA fun j => by simp [World.frozen?, hh]
    have eg : ∀ args w, (callFunc 35 args).run Try.prog w = .ok (.enter 35 args) w := enters_of Try.func35 (by kernel_rfl) rfl
    have hcon := AnyQ.slices_SortFunc Try.sortArc 2 Try.isAgg37 Try.sizeOf37 encS (fun _ => rfl) (fun x v hv => by simp [encS] at hv; rcases hv with rfl | rfl <;> rfl) cfS swoS 35 #[] g 0 c l.toArray W eg (fun _ _ _ _ x y => cmp_at x y _) hH hgl (by simp; omega)
    change Calls Try.prog 34 _ _ _ at hcon
    rw [show l.toArray.size = l.length from List.size_toArray] at hcon
    refine hcon.mono ?_
    rintro e w' ⟨rfl, d', m, os, ⟨hs1, _, hp⟩, hsort, rfl⟩
    have hlen' : d'.size = l.length := by rw [hs1]; simp
    have hperm : d'.toList.Perm l := by
      have := hp
      rwa [show d'.extract 0 l.length = d' by rw [← hlen']; simp, show l.toArray.extract 0 l.length = l.toArray by simp] at this
    have hmem : ∀ a, a ∈ d'.toList ↔ a ∈ l := fun a => hperm.mem_iff
    have hll : d'.toList.length = l.length := by simp [hlen']
    refine ⟨rfl, d'.toList, some ⟨g, 0, none⟩, c, by rw [hll], hmem, ?_, hll, ?_, hF, sort_below hg hB⟩
    · rw [List.pairwise_iff_getElem]
      intro i j hi hj hij
      simp only [Array.getElem_toList]
      rw [Array.length_toList] at hi hj
      have := hsort i j (Nat.zero_le _) hij (by omega)
      rw [ltS, getElem!_pos d' i (by omega), getElem!_pos d' j (by omega)] at this
      have := of_decide_eq_false this
      omega
    · have hHd := holdsK_sortWorldK encS 2 W g 0 m l.toArray d' os hgl hH hs1
      refine spans_holds (d := d'.toList) (by simpa using hHd) (lt_sortWorldK _ _ _ _ _ _ _ _ hgl) fun z hz => hi z ((hmem z).1 hz)
end Go.Proofs.Ytpnpbnfjhnmhjaa
