/-
  What Load answers, and whether no node is asked for more than it has: just if there is a plan.
  Whether a demand is more than statements go through: whatever is answered, it is answered.
-/
import Derived.Test.YtdennekkbdlhdaaDoorPnL
import Derived.Test.YtdennekkbdlhdaaDoorPnC
namespace Go.Proofs.YtdennekkbdlhdaaDoor
open Go.RowKit Go.Shelf
set_option linter.unusedVariables false
set_option linter.unusedSimpArgs false

def allTo (nodes : Int) (M S P : List Int) (k : Nat) : Bool := (List.range k).all fun i => decide (M.getD i 0 ≤ 256) && (decide (S.getD i 0 ≤ nodes) && decide (P.getD i 0 ≤ 64))
theorem allTo_next (nodes : Int) (M S P : List Int) (k : Nat) : allTo nodes M S P (k + 1) = (allTo nodes M S P k && (decide (M.getD k 0 ≤ 256) && (decide (S.getD k 0 ≤ nodes) && decide (P.getD k 0 ≤ 64)))) := by
  unfold allTo
  rw [List.range_succ, List.all_append]
  simp
theorem allTo_zero (nodes : Int) (M S P : List Int) : allTo nodes M S P 0 = true := rfl

structure LdR (W : World) (d : Dm) (n : Nat) (A1 A2 A3 : Option Addr) (M S P : List Int) : Prop where
  n16 : n ≤ 16
  m : Ints W A1 M
  s : Ints W A2 S
  p : Ints W A3 P
  ml : M.length = n
  sl : S.length = n
  pl : P.length = n
  tie : (mayD d && allTo d.nodes M S P n) = decide (errF d = 0)
theorem LdR.of_below {w w' : World} {d : Dm} {n B : Nat} {A1 A2 A3 : Option Addr} {M S P : List Int} (h : LdR w d n A1 A2 A3 M S P) (hb : Below B w w') (hB : w.heap.size ≤ B) : LdR w' d n A1 A2 A3 M S P :=
  { h with m := h.m.of_below hb hB, s := h.s.of_below hb hB, p := h.p.of_below hb hB }

theorem errF_zero {d : Dm} (hm : mayD d = true) : decide (errF d = 0) = (fitM d && (fitS d && fitL d)) := by
  unfold errF
  rw [hm]
  cases fitM d <;> cases fitS d <;> cases fitL d <;> rfl
theorem all_split {α : Type} (p q r : α → Bool) : ∀ l : List α, (l.all fun x => p x && (q x && r x)) = (l.all p && (l.all q && l.all r))
  | [] => rfl
  | x :: l => by
    simp only [List.all_cons, all_split p q r l]
    cases p x <;> cases q x <;> cases r x <;> cases l.all p <;> cases l.all q <;> cases l.all r <;> rfl
theorem all_same {α : Type} {p q : α → Bool} : ∀ {l : List α}, (∀ x ∈ l, p x = q x) → l.all p = l.all q
  | [], _ => rfl
  | x :: l, h => by
    simp only [List.all_cons, h x (List.mem_cons_self ..), all_same (l := l) fun y hy => h y (List.mem_cons_of_mem _ hy)]
theorem load_tie {d : Dm} {N : Nat} (ho : Okd d N) (hm : mayD d = true) : (mayD d && allTo d.nodes (tblTo N memOf d.tasks d.tasks.length) (tblTo N shareOf d.tasks d.tasks.length) (tblTo N (loadOf d.tasks) d.streams d.streams.length) N) = decide (errF d = 0) := by
  rw [errF_zero hm, hm, Bool.true_and]
  unfold fitM fitS fitL allTo
  rw [ho.toNat, ← all_split]
  refine all_same fun n hn => ?_
  have hn := List.mem_range.1 hn
  rw [tbl_at _ _ _ _ hn, tbl_at _ _ _ _ hn, tbl_at _ _ _ _ hn, List.take_length, List.take_length]
  rfl

theorem ints_nil' (w : World) : Ints w none [] := ⟨fun _ h => (by cases h), .inl rfl⟩

theorem load_fit (d : Dm) (a : Da) (w : World) (h : DmAt w d a) :
    Calls Tryd.prog 8 #[d.val a] w fun e w' => Below w.heap.size w w' ∧ ∃ n A1 A2 A3 M S P, e = .returned (.tuple #[.slice A1 n n, .slice A2 n n, .slice A3 n n]) ∧ LdR w' d n A1 A2 A3 M S P := by
  refine (load_at d a w h).mono ?_
  rintro e w' ⟨hb, ⟨hm, rfl⟩ | ⟨hm, N, A1, A2, A3, ho, rfl, h1, h2, h3⟩⟩
  · refine ⟨hb, 0, none, none, none, [], [], [], rfl, by omega, ints_nil' w', ints_nil' w', ints_nil' w', rfl, rfl, rfl, ?_⟩
    unfold errF
    rw [hm]
    rfl
  · exact ⟨hb, N, A1, A2, A3, _, _, _, rfl, ho.n16, h1, h2, h3, tbl_len .., tbl_len .., tbl_len .., load_tie ho hm⟩
end Go.Proofs.YtdennekkbdlhdaaDoor
namespace Go.Proofs.YtdennekkbdlhdaaDoor
open Go.RowKit Go.Shelf
attribute [local go_sem] Oper.semAt_some
set_option linter.unusedVariables false
set_option linter.unusedSimpArgs false
set_option maxRecDepth 100000

theorem ints_none (w : World) : Calls Tryd.prog 12 #[.slice none 0 0, .slice none 0 0] w fun e w' => e = .returned (.bool true) ∧ Below w.heap.size w w' := by
  have HB := hide (Below.refl w.heap.size w)
  go_enter Tryd.func12, Tryd.ntmps12
  go_wp2_with fail
  go_loopw [5] (fun iv wr => iv = .int .i64 0 ∧ Below w.heap.size w wr) (fun _ _ => 0)
  case atStart => exact ⟨rfl, HB.out⟩
  case round =>
    obtain ⟨rfl, hb⟩ := hrel
    go_wp2_with fail
    go_ret
    exact ⟨rfl, hb⟩

set_option maxHeartbeats 4000000 in
theorem great_at (d : Dm) (a : Da) (w : World) (h : DmAt w d a) :
    Calls Tryd.prog 6 #[d.val a] w fun e w' => (∃ z, e = .returned (.int .i64 z)) ∧ Below w.heap.size w w' := by
  have HD := hide (fun W (hb : Below w.heap.size w W) => h.of_below hb (Nat.le_refl _))
  have HI := hide ints_none
  have HBx := hide (dm_box w d a 25)
  have HB := hide (bal w (.cells (d.cells a) 25))
  unfold Dm.val Dm.cells at *
  obtain ⟨T, hTe⟩ : ∃ T, T = d.tasks.length := ⟨_, rfl⟩
  obtain ⟨R, hRe⟩ : ∃ R, R = d.streams.length := ⟨_, rfl⟩
  have hR0 : R ≤ maxLen := by have := h.sLen; omega
  have HT := hide hTe
  have HR := hide hRe
  rw [← hTe, ← hRe] at HBx HB ⊢
  clear hTe hRe h
  have hR1 : R ≤ 9223372036854775807 := hR0
  clear hR0
  go_enter Tryd.func6, Tryd.ntmps6
  obtain ⟨dl, a0, a1, a2, a3, a4, a5, a6⟩ := HBx.out
  rw [← HT.out] at a5
  go_wp2_with fail
  clear dl a0 a1 a2 a3 a4 a5 a6
  go_loopw [3, 4] (fun nv kv wr => ∃ (z : Int) (k : Nat), k ≤ R ∧ nv = .int .i64 z ∧ kv = .int .i64 k ∧ Below w.heap.size w wr ∧ DmB wr w.heap.size d a) (fun _ kv _ => R - (intOf kv).toNat)
  case atStart => exact ⟨_, 0, Nat.zero_le _, rfl, rfl, HB.out, HBx.out⟩
  case round =>
    obtain ⟨z, k, hk, rfl, rfl, hb, hX⟩ := hrel
    have HX := hide hX
    obtain ⟨dl, a0, a1, a2, a3, a4, a5, a6⟩ := hX
    rw [← HR.out] at a6
    by_cases hlt : k < R
    · have hkl : k < d.streams.length := by rw [← HR.out]; exact hlt
      obtain ⟨b, off, As, cs, hA, hbl, c0, c1, c2, c3, c4, c5, _, _, _⟩ := (HD.out _ hb).streams.at hkl
      rw [hA] at a6
      have HBn := hide hb
      clear hb
      go_wp2_with fail
      go_roundw
      case rel => exact ⟨_, k + 1, hlt, rfl, by go_num, HBn.out, HX.out⟩
      case measure => simp [intOf]; omega
    · obtain rfl : k = R := by omega
      have HBn := hide hb
      clear hb
      go_wp2_with fail
      refine (HI.out _).mono ?_
      rintro e w1 ⟨rfl, hb1⟩
      have HB1 := hide (HBn.out.trans (hb1.mono HBn.out.size))
      clear hb1
      by_cases hz : 1000 < z
      · go_wp2_with fail
        go_ret
        exact ⟨⟨_, rfl⟩, HB1.out⟩
      · go_wp2_with fail
        go_ret
        exact ⟨⟨_, rfl⟩, HB1.out⟩
end Go.Proofs.YtdennekkbdlhdaaDoor
