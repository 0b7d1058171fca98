/-
  Arcs that lie in a slice; whether a ring and its arcs may be: the document's and the program's.
-/
import Derived.Test.YtmplioglihmkjaaRgA
namespace Go.Proofs.Ytmplioglihmkjaa
open Go.RowKit Go.Shelf
set_option linter.unusedVariables false
set_option linter.unusedSimpArgs false

abbrev Ai := Int × Int
def arcV (a : Ai) : Value := .agg #[.int .i64 a.1, .int .i64 a.2]
/-- arcs that lie in a slice -/
def Arcs (w : World) (A : Option Addr) (l : List Ai) : Prop :=
  (∀ z ∈ l, I64 z.1 ∧ I64 z.2) ∧ Lies w A l.length 2 fun i b o => w.cell? ⟨b, o, none⟩ = some (.int .i64 (l.getD i (0, 0)).1) ∧ w.cell? ⟨b, o + 1, none⟩ = some (.int .i64 (l.getD i (0, 0)).2)
theorem Arcs.of_below {w w' : World} {A : Option Addr} {l : List Ai} {B : Nat} (h : Arcs w A l) (hb : Below B w w') (hB : w.heap.size ≤ B) : Arcs w' A l :=
  ⟨h.1, h.2.of_below hb hB fun _ _ _ _ hlt hp => ⟨cell_below hb hB hlt hp.1, cell_below hb hB hlt hp.2⟩⟩
theorem Arcs.at {w : World} {A : Option Addr} {l : List Ai} (h : Arcs w A l) {k : Nat} (hk : k < l.length) :
    ∃ b off, A = some ⟨b, off, none⟩ ∧ b < w.heap.size ∧ w.cell? ⟨b, off + k * 2, none⟩ = some (.int .i64 (l.getD k (0, 0)).1) ∧ w.cell? ⟨b, off + k * 2 + 1, none⟩ = some (.int .i64 (l.getD k (0, 0)).2) := by
  rcases h.2 with h0 | ⟨b, off, rfl, hlt, hc⟩
  · omega
  · exact ⟨b, off, rfl, hlt, hc k hk⟩
theorem Arcs.nil (w : World) (A : Option Addr) : Arcs w A [] := ⟨fun z h => (by cases h), .inl rfl⟩
def okB (n : Int) (a : Ai) : Bool := decide (0 ≤ a.1 ∧ a.1 < n ∧ 0 ≤ a.2 ∧ a.2 ≤ n)
def mayB (n : Int) (l : List Ai) : Bool := ringB n && l.all (okB n)
theorem mayB_ring {n : Int} {l : List Ai} (h : ringB n = false) : mayB n l = false := by simp [mayB, h]
theorem all_false {n : Int} {l : List Ai} {a : Ai} (h : a ∈ l) (ha : okB n a = false) : l.all (okB n) = false := by
  cases hc : l.all (okB n) with
  | false => rfl
  | true => rw [List.all_eq_true.1 hc a h] at ha; cases ha
theorem mem_at {l : List Ai} {k : Nat} (h : k < l.length) : l.getD k (0, 0) ∈ l := by
  rw [List.getD_eq_getElem?_getD, List.getElem?_eq_getElem h]; exact List.getElem_mem _
theorem all_take {n : Int} {l : List Ai} {k : Nat} (h : k < l.length) (h1 : (l.take k).all (okB n) = true) (h2 : okB n (l.getD k (0, 0)) = true) : (l.take (k + 1)).all (okB n) = true := by
  rw [take_snoc l (0, 0) k h, List.all_append, h1, List.all_cons, h2]; rfl

theorem isArc_at (a : Ai) (n : Int) (w : World) :
    Calls Try.prog 43 #[arcV a, .int .i64 n] w fun e w' => e = .returned (.bool (okB n a)) ∧ Below w.heap.size w w' := by
  obtain ⟨f, l⟩ := a
  show Calls Try.prog 43 #[.agg #[.int .i64 f, .int .i64 l], .int .i64 n] w _
  have H : Hid (okB n (f, l) = decide (0 ≤ f ∧ f < n ∧ 0 ≤ l ∧ l ≤ n)) := rfl
  by_cases h1 : 0 ≤ f
  · by_cases h2 : f < n
    · by_cases h3 : 0 ≤ l
      · have H2 : Hid (decide (0 ≤ f ∧ f < n ∧ 0 ≤ l ∧ l ≤ n) = decide (l ≤ n)) := by show _ = _; simp [h1, h2, h3]
        go_enter Try.func43, Try.ntmps43
        go_wp2
        go_ret
        exact ⟨by rw [H.out, H2.out]; rfl, bal w _⟩
      · have H2 : Hid (decide (0 ≤ f ∧ f < n ∧ 0 ≤ l ∧ l ≤ n) = false) := by show _ = _; simp [h3]
        go_enter Try.func43, Try.ntmps43
        go_wp2
        go_ret
        exact ⟨by rw [H.out, H2.out]; rfl, bal w _⟩
    · have H2 : Hid (decide (0 ≤ f ∧ f < n ∧ 0 ≤ l ∧ l ≤ n) = false) := by show _ = _; simp [h2]
      go_enter Try.func43, Try.ntmps43
      go_wp2
      go_ret
      exact ⟨by rw [H.out, H2.out]; rfl, bal w _⟩
  · have H2 : Hid (decide (0 ≤ f ∧ f < n ∧ 0 ≤ l ∧ l ≤ n) = false) := by show _ = _; simp [h1]
    go_enter Try.func43, Try.ntmps43
    go_wp2
    go_ret
    exact ⟨by rw [H.out, H2.out]; rfl, bal w _⟩

set_option maxHeartbeats 1000000 in
theorem areArcs_at (l : List Ai) (A : Option Addr) (c : Nat) (n : Int) (w : World) (hI : Arcs w A l) (hl : l.length ≤ 9223372036854775806) :
    Calls Try.prog 39 #[.slice A l.length c, .int .i64 n] w fun e w' => e = .returned (.bool (mayB n l)) ∧ Below w.heap.size w w' := by
  cases hr : ringB n with
  | false =>
    have H := hide (mayB_ring (l := l) hr)
    have HR := hide hr
    clear hr
    go_enter Try.func39, Try.ntmps39
    go_wp2_with (go_at_call 36; refine (isRing_at _ _).mono ?_; rintro e w' ⟨rfl, rfl⟩; rw [HR.out])
    go_ret
    exact ⟨by rw [H.out]; rfl, Below.refl _ _⟩
  | true =>
    have H := hide (show mayB n l = l.all (okB n) by simp [mayB, hr])
    have HR := hide hr
    have HI := hide hI
    obtain ⟨m, hm⟩ : ∃ m, m = l.length := ⟨_, rfl⟩
    have HN := hide hm
    rw [← hm] at hl ⊢
    clear hI hm hr
    go_enter Try.func39, Try.ntmps39
    go_wp2_with (go_at_call 36; refine (isRing_at _ _).mono ?_; rintro e w' ⟨rfl, rfl⟩; rw [HR.out])
    go_loopw [12] (fun i wr => ∃ k : Nat, k ≤ m ∧ i = .int .i64 k ∧ (l.take k).all (okB n) = true ∧ Below w.heap.size w wr) (fun i _ => m - (intOf i).toNat)
    case atStart => exact ⟨0, Nat.zero_le _, rfl, by simp, Below.refl _ _⟩
    case round =>
      obtain ⟨k, hk, rfl, hall, hb⟩ := hrel
      have HA := hide hall
      have HB := hide hb
      by_cases hlt : k < m
      · have hkl : k < l.length := by rw [← HN.out]; exact hlt
        obtain ⟨b, off, rfl, hbl, c0, c1⟩ := (HI.out.of_below hb (Nat.le_refl _)).at hkl
        have HG := hide (mem_at hkl)
        have HT := hide (fun h => all_take (n := n) hkl HA.out h)
        generalize l.getD k (0, 0) = a at *
        obtain ⟨f, g⟩ := a
        clear hall hb hkl
        cases ha : okB n (f, g) with
        | true =>
          have HO := hide ha
          clear ha
          dsimp only at c0 c1
          go_wp2_with fail
          refine (isArc_at (f, g) n _).mono ?_
          rintro e w2 ⟨rfl, hb2⟩
          rw [HO.out]
          have HB2 := hide (HB.out.trans (((bal wr _).trans (hb2.mono (by simp))).mono HB.out.size))
          clear hb2
          go_wp2_with fail
          go_roundw
          case rel => exact ⟨k + 1, by omega, by go_num, HT.out HO.out, HB2.out⟩
          case measure => simp [intOf]; omega
        | false =>
          have HO := hide ha
          have HV := hide (show mayB n l = false by rw [H.out]; exact all_false HG.out ha)
          clear ha
          dsimp only at c0 c1
          go_wp2_with fail
          refine (isArc_at (f, g) n _).mono ?_
          rintro e w2 ⟨rfl, hb2⟩
          rw [HO.out]
          have HB2 := hide (HB.out.trans (((bal wr _).trans (hb2.mono (by simp))).mono HB.out.size))
          clear hb2
          go_wp2_with fail
          go_ret
          exact ⟨by rw [HV.out]; rfl, HB2.out⟩
      · obtain rfl : k = m := by omega
        have HT : Hid (l.take k = l) := by show _ = _; rw [HN.out, List.take_length]
        have HV := hide (show mayB n l = true by rw [H.out, ← HT.out]; exact HA.out)
        clear hall hb
        go_wp2_with fail
        go_ret
        exact ⟨by rw [HV.out]; rfl, HB.out⟩

set_option maxHeartbeats 2000000 in
/-- the document's own -/
theorem rmay_at (l : List Ai) (A : Option Addr) (c : Nat) (n : Int) (w : World) (hI : Arcs w A l) (hl : l.length ≤ 9223372036854775806) :
    Calls Try.prog 11 #[.slice A l.length c, .int .i64 n] w fun e w' => e = .returned (.bool (mayB n l)) ∧ w = w' := by
  by_cases h1 : n < 1
  · have H := hide (mayB_ring (l := l) (show ringB n = false from decide_eq_false fun h => by omega))
    go_enter Try.func11, Try.ntmps11
    go_wp2
    go_ret
    exact ⟨by rw [H.out]; rfl, rfl⟩
  by_cases h2 : n > 1048576
  · have H := hide (mayB_ring (l := l) (show ringB n = false from decide_eq_false fun h => by omega))
    go_enter Try.func11, Try.ntmps11
    go_wp2
    go_ret
    exact ⟨by rw [H.out]; rfl, rfl⟩
  have H := hide (show mayB n l = l.all (okB n) by unfold mayB; rw [show ringB n = true from decide_eq_true (by omega)]; rfl)
  have HI := hide hI
  obtain ⟨m, hm⟩ : ∃ m, m = l.length := ⟨_, rfl⟩
  have HN := hide hm
  rw [← hm] at hl ⊢
  clear hI hm
  go_enter Try.func11, Try.ntmps11
  go_wp2
  go_loop [5] (fun i => ∃ k : Nat, k ≤ m ∧ i = .int .i64 k ∧ (l.take k).all (okB n) = true) (fun i => m - (intOf i).toNat)
  case atStart => exact ⟨0, Nat.zero_le _, rfl, by simp⟩
  case round =>
    obtain ⟨k, hk, rfl, hall⟩ := hrel
    have HA := hide hall
    by_cases hlt : k < m
    · have hkl : k < l.length := by rw [← HN.out]; exact hlt
      obtain ⟨b, off, rfl, hbl, c0, c1⟩ := HI.out.at hkl
      have HG := hide (mem_at hkl)
      have HT := hide (fun h => all_take (n := n) hkl HA.out h)
      generalize l.getD k (0, 0) = a at *
      obtain ⟨f, g⟩ := a
      clear hall hkl
      cases ha : okB n (f, g) with
      | true =>
        have HO := hide ha
        have hp : 0 ≤ f ∧ f < n ∧ 0 ≤ g ∧ g ≤ n := of_decide_eq_true ha
        obtain ⟨p1, p2, p3, p4⟩ := hp
        clear ha
        dsimp only at c0 c1
        go_wp2
        go_round
        case rel => exact ⟨k + 1, by omega, by go_num, HT.out HO.out⟩
        case measure => simp [intOf]; omega
      | false =>
        have HV := hide (show mayB n l = false by rw [H.out]; exact all_false HG.out ha)
        have hp : ¬ (0 ≤ f ∧ f < n ∧ 0 ≤ g ∧ g ≤ n) := of_decide_eq_false ha
        clear ha
        dsimp only at c0 c1
        by_cases p1 : f < 0
        · clear hp
          go_wp2
          go_ret
          exact ⟨by rw [HV.out]; rfl, rfl⟩
        by_cases p2 : f ≥ n
        · clear hp
          go_wp2
          go_ret
          exact ⟨by rw [HV.out]; rfl, rfl⟩
        by_cases p3 : g < 0
        · clear hp
          go_wp2
          go_ret
          exact ⟨by rw [HV.out]; rfl, rfl⟩
        have p4 : g > n := by omega
        clear hp
        go_wp2
        go_ret
        exact ⟨by rw [HV.out]; rfl, rfl⟩
    · obtain rfl : k = m := by omega
      have HT : Hid (l.take k = l) := by show _ = _; rw [HN.out, List.take_length]
      have HV := hide (show mayB n l = true by rw [H.out, ← HT.out]; exact HA.out)
      clear hall
      go_wp2
      go_ret
      exact ⟨by rw [HV.out]; rfl, rfl⟩
end Go.Proofs.Ytmplioglihmkjaa
