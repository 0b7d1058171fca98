/-
  Ports and links, joined: what stands while streams are gone through.
  What a round of 'joined' makes: the two regions that draw and write.
-/
import Derived.Test.YtdennekkbdlhdaaDoorPnJ
import Derived.Test.YtdennekkbdlhdaaDoorMB
import Derived.Test.YtdennekkbdlhdaaDoorFcE
namespace Go.Proofs.YtdennekkbdlhdaaDoor
open Go.RowKit Go.Shelf
attribute [local go_sem] Oper.semAt_some
set_option linter.unusedVariables false
set_option linter.unusedSimpArgs false
set_option maxRecDepth 100000

/-- the places of a node's payload that links have taken so far -/
def payOf (ts : List Tk) (ss : List Sm) (n : Int) (i : Nat) : List (Int × Int) := if nodeOf ts (ss.getD i default) = n then [(loadN ts n (ss.take i), loadN ts n (ss.take i) + (1 + (ss.getD i default).size))] else []
def payTo (ts : List Tk) (ss : List Sm) (n : Int) (k : Nat) : List (Int × Int) := (List.range k).flatMap (payOf ts ss n)
def payRows (N : Nat) (ts : List Tk) (ss : List Sm) (k : Nat) : List (List (Int × Int)) := (List.range N).map fun (n : Nat) => payTo ts ss (n : Int) k
theorem payTo_next (ts : List Tk) (ss : List Sm) (n : Int) (k : Nat) : payTo ts ss n (k + 1) = payTo ts ss n k ++ payOf ts ss n k := by simp [payTo, List.range_succ]
theorem payRows_len (N : Nat) (ts : List Tk) (ss : List Sm) (k : Nat) : (payRows N ts ss k).length = N := by simp [payRows]
theorem payRows_at {N : Nat} (ts : List Tk) (ss : List Sm) (k : Nat) {n : Nat} (h : n < N) : (payRows N ts ss k).getD n [] = payTo ts ss (n : Int) k := by
  simp [payRows, List.getD_eq_getElem?_getD, h]
theorem payRows_zero (N : Nat) (ts : List Tk) (ss : List Sm) : payRows N ts ss 0 = List.replicate N [] := by
  unfold payRows
  rw [List.eq_replicate_iff]
  exact ⟨by simp, fun b hb => by obtain ⟨n, _, rfl⟩ := List.mem_map.1 hb; rfl⟩
theorem payTo_len (ts : List Tk) (ss : List Sm) (n : Int) : ∀ k, (payTo ts ss n k).length ≤ k
  | 0 => Nat.le_refl _
  | k + 1 => by
    have := payTo_len ts ss n k
    rw [payTo_next, List.length_append]
    have : (payOf ts ss n k).length ≤ 1 := by unfold payOf; split <;> simp
    omega
theorem load_next {ts : List Tk} {ss : List Sm} {n : Int} {k : Nat} (hk : k < ss.length) : loadN ts n (ss.take (k + 1)) = loadN ts n (ss.take k) + loadOf ts n (ss.getD k default) := by
  unfold loadN; rw [sumI_next _ ss default k hk]
/-- what is taken of a node's payload: all from 0 on -/
theorem pay_taken {d : Dm} {N : Nat} (h : Okd d N) (n : Int) : ∀ k, k ≤ d.streams.length → ∀ p : Int, 0 ≤ p → inBP (payTo d.tasks d.streams n k) p = decide (p < loadN d.tasks n (d.streams.take k))
  | 0, _, p, hp => by simp [payTo, inBP, loadN, sumI]; try omega
  | k + 1, hk, p, hp => by
    have ih := pay_taken h n k (by omega) p hp
    have hm := getD_mem (l := d.streams) (k := k) (d := default) (by omega)
    have hs := (h.sm _ hm).2.2.1.1
    rw [payTo_next, load_next (by omega)]
    unfold payOf loadOf
    by_cases e : nodeOf d.tasks (d.streams.getD k default) = n
    · rw [if_pos e, if_pos e, inB_snoc, ih, Bool.eq_iff_iff]
      simp only [Bool.or_eq_true, Bool.and_eq_true, decide_eq_true_eq]
      omega
    · rw [if_neg e, if_neg e, List.append_nil, ih, Int.add_zero]
theorem pay_first {d : Dm} {N : Nat} (h : Okd d N) (n : Int) {k : Nat} (hk : k ≤ d.streams.length) {z : Int} (h1 : 1 ≤ z) (h2 : z ≤ 33) (h64 : loadN d.tasks n (d.streams.take k) ≤ 64) :
    firstV (payTo d.tasks d.streams n k) z 1 64 = if loadN d.tasks n (d.streams.take k) + z ≤ 64 then .tuple #[.int .i64 (loadN d.tasks n (d.streams.take k)), .bool true] else .tuple #[.int .i64 (-1), .bool false] := by
  have hL0 : 0 ≤ loadN d.tasks n (d.streams.take k) := sumI_nonneg fun s hs => h.loadOf0 n s (List.mem_of_mem_take hs)
  have ht := pay_taken h n k hk
  obtain ⟨Z, rfl⟩ := Int.eq_ofNat_of_zero_le (show 0 ≤ z by omega)
  generalize loadN d.tasks n (d.streams.take k) = L at *
  obtain ⟨M, rfl⟩ := Int.eq_ofNat_of_zero_le hL0
  have hm : mayB (Z : Int) 1 64 = true := by unfold mayB; simp; omega
  unfold firstV
  rw [if_pos hm]
  have htk : ∀ p : Nat, tkn (payTo d.tasks d.streams n k) p = decide (p < M) := fun p => by
    show inBP _ _ = _
    rw [ht (p : Int) (by omega), Bool.eq_iff_iff]
    simp
  simp only [Int.toNat_natCast]
  by_cases hf : (M : Int) + (Z : Int) ≤ 64
  · rw [if_pos hf]
    have : firstF (tkn (payTo d.tasks d.streams n k)) Z (1 : Int).toNat (64 : Int).toNat = some M := by
      rw [firstF_some, fitsB_iff]
      refine ⟨⟨Nat.mod_one _, by show M + Z ≤ 64; omega, fun q h3 h4 => by rw [htk]; exact decide_eq_false (by omega)⟩, fun q hq => ?_⟩
      rw [Bool.eq_false_iff]
      intro hh
      have := (fitsB_iff.1 hh).2.2 q (Nat.le_refl _) (by omega)
      rw [htk, decide_eq_false_iff_not] at this
      omega
    rw [this]
  · rw [if_neg hf]
    have : firstF (tkn (payTo d.tasks d.streams n k)) Z (1 : Int).toNat (64 : Int).toNat = none := by
      rw [firstF_none]
      intro q
      rw [Bool.eq_false_iff]
      intro hh
      obtain ⟨_, h3, h4⟩ := fitsB_iff.1 hh
      have h3 : q + Z ≤ 64 := h3
      by_cases hq : q < M
      · have := h4 q (Nat.le_refl _) (by omega)
        rw [htk, decide_eq_false_iff_not] at this
        omega
      · omega
    rw [this]
theorem payRows_next {d : Dm} {N : Nat} {k n : Nat} (hn : n < N) (hk : nodeOf d.tasks (d.streams.getD k default) = (n : Int)) :
    (payRows N d.tasks d.streams k).set n (payTo d.tasks d.streams (n : Int) k ++ [(loadN d.tasks (n : Int) (d.streams.take k), loadN d.tasks (n : Int) (d.streams.take k) + (1 + (d.streams.getD k default).size))]) = payRows N d.tasks d.streams (k + 1) := by
  refine List.ext_getElem? fun j => ?_
  rw [List.getElem?_set, payRows_len]
  by_cases hj : j < N
  · by_cases e : n = j
    · subst e
      rw [if_pos rfl, if_pos hn]
      simp only [payRows, List.getElem?_map, List.getElem?_range hj, Option.map_some]
      rw [payTo_next]
      unfold payOf
      rw [if_pos hk]
    · rw [if_neg e]
      simp only [payRows, List.getElem?_map, List.getElem?_range hj, Option.map_some]
      rw [payTo_next]
      unfold payOf
      rw [if_neg (by rw [hk]; omega), List.append_nil]
  · rw [List.getElem?_eq_none (by rw [payRows_len]; omega)]
    by_cases e : n = j
    · omega
    · rw [if_neg e, List.getElem?_eq_none (by rw [payRows_len]; omega)]
theorem fitL_of {d : Dm} {N : Nat} (h : Okd d N) (hh : ∀ n : Nat, n < N → loadN d.tasks (n : Int) (d.streams.take d.streams.length) ≤ 64) : fitL d = true := by
  unfold fitL
  rw [h.toNat, all_range]
  intro n hn
  have := hh n hn
  rw [List.take_length] at this
  exact decide_eq_true this
theorem fitL_not {d : Dm} {N : Nat} (h : Okd d N) {n k : Nat} (hn : n < N) (hh : 64 < loadN d.tasks (n : Int) (d.streams.take k)) : fitL d = false := by
  rw [Bool.eq_false_iff]
  intro hf
  have h1 := h.load hf (z := (n : Int)) (by omega) (by rw [← h.hN]; omega)
  have h2 := sumI_take (h.loadOf0 (n : Int)) k
  unfold loadN at h1 hh
  omega

/-- a link with where its numbers lie -/
abbrev LkV := Lk × Option Addr × Nat
def lkC (q : LkV) : List Value := [.int .i64 q.1.source, .slice q.2.1 q.1.dests.length q.2.2, .int .i64 q.1.offset]
/-- the numbers of links' ports, in blocks of their own -/
def DsS (W : World) (B : Nat) (Q : List LkV) : Prop := ∀ q ∈ Q, W.ownsRow B 3 1 (.slice q.2.1 q.1.dests.length q.2.2) q.1.dests.length (q.1.dests.map (Value.int .i64)) ∧ ∀ z ∈ q.1.dests, I64 z
theorem DsS.kept {W W' : World} {B : Nat} {Q : List LkV} (h : DsS W B Q) (hk : ∀ k cur, B ≤ k → W.heap[k]? = some (.cells cur 3 (0, 0)) → W'.heap[k]? = some (.cells cur 3 (0, 0))) : DsS W' B Q := fun q hq => ⟨own_stands (h q hq).1 fun k hb => by
  obtain ⟨_, h1, cur, hc⟩ := own_block (h q hq).1 hb
  rw [hc]; exact hk k cur h1 hc, (h q hq).2⟩
theorem link_is (ts : List Tk) (ss : List Sm) (k : Nat) : linkAt ts ss k = ⟨(portN (ss.take k) : Nat), dsTo (portN (ss.take k)) (ss.getD k default).dests.length, loadN ts (nodeOf ts (ss.getD k default)) (ss.take k)⟩ := by
  unfold linkAt dsTo
  rw [portsAll_len]
theorem own_links {W : World} {B B' : Nat} {h : Value} {Q : List LkV} (x : W.ownsRow B 51 3 h Q.length (Q.flatMap lkC)) (hd : DsS W B' Q) (hl : ∀ q ∈ Q, I64 q.1.source ∧ I64 q.1.offset) : ∃ A c, h = .slice A Q.length c ∧ Q.length ≤ c ∧ c ≤ maxLen ∧ Links W A (Q.map (·.1)) := by
  obtain ⟨A, c, h1, h2, h3, h4⟩ := own_lies (f := lkC) (n := 3) (fun _ => rfl) default x
  refine ⟨A, c, h1, h2, h3, fun p hp => ?_, ?_⟩
  · obtain ⟨q, hq, rfl⟩ := List.mem_map.1 hp
    exact hl q hq
  · rcases h4 with h4 | ⟨b, off, e, hlt, hp⟩
    · exact .inl (by simpa using h4)
    · refine .inr ⟨b, off, e, hlt, fun i hi => ?_⟩
      have hi' : i < Q.length := by simpa using hi
      have hq := getD_mem (l := Q) (d := default) hi'
      have e1 : (Q.map (·.1)).getD i default = (Q.getD i default).1 := by
        rw [List.getD_eq_getElem?_getD, List.getElem?_map, List.getD_eq_getElem?_getD, List.getElem?_eq_getElem hi']; rfl
      dsimp only
      rw [e1]
      obtain ⟨ho, hz⟩ := hd _ hq
      obtain ⟨A', c', f1, f2, f3, f4⟩ := own_lies (f := inC) (n := 1) (fun _ => rfl) 0 (by rw [inC_map]; exact ho)
      injection f1 with g1 g2 g3
      refine ⟨(Q.getD i default).2.1, (Q.getD i default).2.2, hp i hi' 0 (by omega), hp i hi' 1 (by omega), hp i hi' 2 (by omega), by rw [g3]; exact f2, by rw [g3]; exact f3, hz, ?_⟩
      rcases f4 with f4 | ⟨b2, off2, e2, hlt2, hp2⟩
      · exact .inl f4
      · exact .inr ⟨b2, off2, by rw [g1]; exact e2, hlt2, fun j hj => hp2 j hj 0 (by omega)⟩
theorem own_linksA {W : World} {B B' : Nat} {A : Option Addr} {c : Nat} {Q : List LkV} (x : W.ownsRow B 51 3 (.slice A Q.length c) Q.length (Q.flatMap lkC)) (hd : DsS W B' Q) (hl : ∀ q ∈ Q, I64 q.1.source ∧ I64 q.1.offset) : Links W A (Q.map (·.1)) := by
  obtain ⟨A', c', h1, _, _, h4⟩ := own_links x hd hl
  cases h1; exact h4
end Go.Proofs.YtdennekkbdlhdaaDoor
namespace Go.Proofs.YtdennekkbdlhdaaDoor
open Go.RowKit Go.Shelf
attribute [local go_sem] Oper.semAt_some
set_option linter.unusedVariables false
set_option linter.unusedSimpArgs false
set_option maxRecDepth 100000

/-- append of so many elements that lie somewhere -/
theorem app_run (W : World) (base : Nat) (t ty e : TypeId) (z : Value) (size bytes : Nat) (ht : Tryd.prog.underlying t = some (.slice e)) (hi : (Tryd.prog.info? e).map (fun i => (i.zero, i.size, i.bytes)) = some (some z, size, bytes)) (hzs : z.cells.size = size) (hsz : 0 < size) (hby : bytes ≤ 1000)
    (v : Value) (n : Nat) (xs : List Value) (hown : W.ownsRow base e size v n xs) (q k c : Nat) (us : List Value) (hl : us.length = k * size) (hnews : ∀ (j : Nat) (y : Value), us[j]? = some y → W.cell? ⟨q, j, none⟩ = some y) (hu : ∀ u ∈ us, u.oneCell' = true) (hn : n + k ≤ 100000) (hbase : base ≤ W.heap.size) :
    ∃ v' w', (Builtin.append_ #[t, t] ty #[v, .slice (some ⟨q, 0, none⟩) k c]).run Tryd.prog W = .ok v' w' ∧ w'.ownsRow base e size v' (n + k) (xs ++ us) ∧ W.grownBy w' v.ownBlock ∧ (v'.ownBlock = v.ownBlock ∨ v'.ownBlock = some W.heap.size) := by
  rcases hi' : Tryd.prog.info? e with _ | i
  · rw [hi'] at hi; cases hi
  rw [hi'] at hi
  simp only [Option.map_some, Option.some.injEq, Prod.mk.injEq] at hi
  obtain ⟨hz, hs1, hb⟩ := hi
  have hbb : (n + k) * bytes ≤ 140737488355328 := by have := Nat.mul_le_mul hn hby; omega
  obtain ⟨v', w', hr, h2, h3, _, h4⟩ := run_append_own_at (P := Tryd.prog) W base t ty e i _ size bytes ht hi' hz hs1 hb hzs hsz v n xs hown ⟨q, 0, none⟩ k c us hl (fun j y hy => by rw [plain_add, Nat.zero_add]; exact hnews j y hy) hu (by simp only [maxLen]; omega) hbb hbase
  exact ⟨v', w', hr, h2, h3, h4⟩
def AppW (W5 W : World) (base : Nat) (e : TypeId) (sz : Nat) (v v' : Value) (n' : Nat) (xs' : List Value) : Prop :=
  ∃ W0, Below W5.heap.size W5 W0 ∧ W0.grownBy W v.ownBlock ∧ W.ownsRow base e sz v' n' xs' ∧ (v'.ownBlock = v.ownBlock ∨ v'.ownBlock = some W0.heap.size)

/-- region 11: the payload's places, one more -/
def sC (src : Int) (As : Option Addr) (m cs : Nat) (kind size depth fresh : Int) : Array Value := #[.int .i64 src, .slice As m cs, .int .i64 kind, .int .i64 size, .int .i64 depth, .int .i64 fresh]
def p1C (bs : Nat) (S6 : Array Value) (z5 : Nat) (W : World) : Prop := W.heap[bs]? = some (.cells S6 53 (0, 0)) ∧ z5 ≤ W.heap.size
def p1F (W5 : World) (P : Value) (sv : Value) (S6 : Array Value) (rb base : Nat) (at0 z : Int) (Lp : Nat) (xs : List Value) (j : Nat) (vals : Nat → Value) (W : World) : Prop :=
  match j with
  | 0 => vals 0 = P
  | 1 => vals 1 = P
  | 2 => vals 2 = P
  | 3 => vals 3 = sv
  | 4 => vals 4 = .int .i64 at0
  | 5 => vals 5 = .int .i64 at0
  | 6 => vals 6 = .agg S6
  | 7 => vals 7 = .int .i64 z ∧ Below W5.heap.size W5 W
  | 8 => vals 8 = .int .i64 (at0 + z)
  | 9 => vals 9 = .agg #[.int .i64 at0, .int .i64 (at0 + z)]
  | 10 => ∃ q, vals 10 = .slice (some ⟨q, 0, none⟩) 1 1 ∧ W.heap[q]? = some (.cells #[.int .i64 at0, .int .i64 (at0 + z)] 78 (0, 0)) ∧ Below W5.heap.size W5 W
  | 11 => AppW W5 W base 78 2 sv (vals 11) (Lp + 1) (xs ++ [.int .i64 at0, .int .i64 (at0 + z)])
  | 12 => vals 12 = P
  | 13 => ∃ v W1, AppW W5 W1 base 78 2 sv v (Lp + 1) (xs ++ [.int .i64 at0, .int .i64 (at0 + z)]) ∧ ∃ n : Nat, P = .pointer (some ⟨rb, n, none⟩) ∧ W = W1.setCell ⟨rb, n, none⟩ v
  | 14 => Below W5.heap.size W5 W
  | 15 => W.heap[rb]? = W5.heap[rb]?
  | _ => True
def p1T : Nat → Nat
  | 7 => 10 | 10 => 11 | 11 => 13 | 14 => 7 | 15 => 13 | _ => 1000
def p1M (j : Nat) : List Nat := if 14 ≤ j then [] else [j]
theorem p1_mb {ops : Array Oper} (j k : Nat) (h : k ∈ p1M j) (hne : k ≠ j) : depB .any ops j k = true := by
  unfold p1M at h
  split at h
  · cases h
  · exact absurd (List.mem_singleton.1 h) hne
section
variable {W5 : World} {P sv : Value} {S6 : Array Value} {rb base Lp : Nat} {at0 z : Int} {xs : List Value}
theorem p1_sup : ∀ j vals vals' W, (∀ i ∈ p1M j, vals i = vals' i) → p1F W5 P sv S6 rb base at0 z Lp xs j vals W → p1F W5 P sv S6 rb base at0 z Lp xs j vals' W := by
  intro j vals vals' W h hF
  unfold p1M at h
  match j, hF with
  | 0, hF | 1, hF | 2, hF | 3, hF | 4, hF | 5, hF | 6, hF | 7, hF | 8, hF | 9, hF | 10, hF | 11, hF | 12, hF =>
    simp only [p1F] at hF ⊢
    rw [← h _ (by simp)]; exact hF
  | 13, hF | 14, hF | 15, hF => exact hF
  | _ + 16, _ => trivial
/-- what is of values alone stands in any world -/
theorem p1_still {j : Nat} {vals : Nat → Value} {W W' : World} (hj : j ≤ 6 ∨ j = 8 ∨ j = 9 ∨ j = 12 ∨ 16 ≤ j) (h : p1F W5 P sv S6 rb base at0 z Lp xs j vals W) : p1F W5 P sv S6 rb base at0 z Lp xs j vals W' := by
  match j, h with
  | 0, h | 1, h | 2, h | 3, h | 4, h | 5, h | 6, h | 8, h | 9, h | 12, h => exact h
  | 7, _ | 10, _ | 11, _ | 13, _ | 14, _ | 15, _ => omega
  | _ + 16, _ => trivial
end
/-- region 13: the stream's ports, behind the others -/
def p2F (W6 : World) (sv : Value) (S6 : Array Value) (hb base : Nat) (p m1 : Nat) (xs us : List Value) (j : Nat) (vals : Nat → Value) (W : World) : Prop :=
  match j with
  | 0 => vals 0 = sv
  | 1 => vals 1 = .agg S6
  | 2 => W.ownsRow W6.heap.size 49 6 (vals 2) m1 us ∧ Below W6.heap.size W6 W
  | 3 => AppW W6 W base 49 6 sv (vals 3) (p + m1) (xs ++ us)
  | 4 => ∃ v W1, AppW W6 W1 base 49 6 sv v (p + m1) (xs ++ us) ∧ W = W1.setCell ⟨hb, 0, none⟩ v
  | 5 => Below W6.heap.size W6 W
  | 6 => W.heap[hb]? = W6.heap[hb]?
  | _ => True
def p2T : Nat → Nat
  | 2 => 3 | 3 => 4 | 5 => 2 | 6 => 4 | _ => 1000
def p2M (j : Nat) : List Nat := if 5 ≤ j then [] else [j]
theorem p2_mb {ops : Array Oper} (j k : Nat) (h : k ∈ p2M j) (hne : k ≠ j) : depB .any ops j k = true := by
  unfold p2M at h
  split at h
  · cases h
  · exact absurd (List.mem_singleton.1 h) hne
section
variable {W6 : World} {sv : Value} {S6 : Array Value} {hb base p m1 : Nat} {xs us : List Value}
theorem p2_sup : ∀ j vals vals' W, (∀ i ∈ p2M j, vals i = vals' i) → p2F W6 sv S6 hb base p m1 xs us j vals W → p2F W6 sv S6 hb base p m1 xs us j vals' W := by
  intro j vals vals' W h hF
  unfold p2M at h
  match j, hF with
  | 0, hF | 1, hF | 2, hF | 3, hF =>
    simp only [p2F] at hF ⊢
    rw [← h _ (by simp)]; exact hF
  | 4, hF | 5, hF | 6, hF => exact hF
  | _ + 7, _ => trivial
theorem p2_still {j : Nat} {vals : Nat → Value} {W W' : World} (hj : j ≤ 1 ∨ 7 ≤ j) (h : p2F W6 sv S6 hb base p m1 xs us j vals W) : p2F W6 sv S6 hb base p m1 xs us j vals W' := by
  match j, h with
  | 0, h | 1, h => exact h
  | 2, _ | 3, _ | 4, _ | 5, _ | 6, _ => omega
  | _ + 7, _ => trivial
end
end Go.Proofs.YtdennekkbdlhdaaDoor
