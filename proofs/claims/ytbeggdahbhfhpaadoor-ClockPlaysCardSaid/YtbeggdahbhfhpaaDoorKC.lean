/-
  The document's own average: numbers laid into their order, one by one.
  The document's own clock: its average, and its round.
  Both clocks side by side: they know the same.
  A step of both clocks: the same answers, and both know the same behind it.
-/
import Derived.Test.YtbeggdahbhfhpaaDoorKB
import Derived.Deep.RegionHeld
import Derived.Deep.DeepCutAuto
namespace Go.Proofs.YtbeggdahbhfhpaaDoor
open Go.RowKit Go.Deep
set_option linter.unusedVariables false
set_option linter.unusedSimpArgs false

/-! ### Into their order -/
def posI (x : Int) : List Int → Nat
  | [] => 0
  | y :: l => if y < x then posI x l + 1 else 0
def insI (s : List Int) (x : Int) : List Int := s.take (posI x s) ++ [x] ++ s.drop (posI x s)
def sortI (l : List Int) : List Int := l.foldl insI []
theorem posI_le (x : Int) : ∀ s, posI x s ≤ s.length
  | [] => Nat.le_refl _
  | y :: l => by
    unfold posI
    have := posI_le x l
    split <;> simp <;> omega
theorem posI_more {x : Int} : ∀ {s : List Int} {p : Nat}, p ≤ posI x s → p < s.length → s.getD p 0 < x → p + 1 ≤ posI x s
  | [], p, _, h, _ => by simp at h
  | y :: l, 0, _, _, h => by
    unfold posI
    rw [if_pos (by simpa using h)]
    omega
  | y :: l, p + 1, hp, h, hx => by
    unfold posI at hp ⊢
    split at hp
    · rename_i hy
      rw [if_pos hy]
      have := posI_more (x := x) (s := l) (p := p) (by omega) (by simpa using h) (by simpa using hx)
      omega
    · omega
theorem posI_end {x : Int} : ∀ {s : List Int} {p : Nat}, p ≤ posI x s → p < s.length → ¬s.getD p 0 < x → posI x s = p
  | [], p, _, h, _ => by simp at h
  | y :: l, 0, _, _, h => by
    unfold posI
    rw [if_neg (by simpa using h)]
  | y :: l, p + 1, hp, h, hx => by
    unfold posI at hp ⊢
    split at hp
    · rename_i hy
      rw [if_pos hy]
      have := posI_end (x := x) (s := l) (p := p) (by omega) (by simpa using h) (by simpa using hx)
      omega
    · omega
theorem insI_cons (y : Int) (l : List Int) (x : Int) : insI (y :: l) x = if y < x then y :: insI l x else x :: y :: l := by
  unfold insI
  by_cases h : y < x
  · rw [if_pos h, show posI x (y :: l) = posI x l + 1 by show (if y < x then _ else _) = _; rw [if_pos h]]
    rfl
  · rw [if_neg h, show posI x (y :: l) = 0 by show (if y < x then _ else _) = _; rw [if_neg h]]
    rfl
theorem insI_perm (x : Int) : ∀ s, (insI s x).Perm (x :: s)
  | [] => by simp [insI, posI]
  | y :: l => by
    rw [insI_cons]
    split
    · exact ((insI_perm x l).cons y).trans (List.Perm.swap x y l)
    · exact List.Perm.refl _
theorem insI_pw (x : Int) : ∀ s, s.Pairwise (· ≤ ·) → (insI s x).Pairwise (· ≤ ·)
  | [], _ => by simp [insI, posI]
  | y :: l, h => by
    rw [insI_cons]
    obtain ⟨h1, h2⟩ := List.pairwise_cons.1 h
    split
    · rename_i hy
      refine List.pairwise_cons.2 ⟨fun z hz => ?_, insI_pw x l h2⟩
      rcases List.mem_cons.1 ((insI_perm x l).mem_iff.1 hz) with rfl | hz
      · omega
      · exact h1 z hz
    · rename_i hy
      refine List.pairwise_cons.2 ⟨fun z hz => ?_, h⟩
      rcases List.mem_cons.1 hz with rfl | hz
      · omega
      · have := h1 z hz; omega
theorem sortI_go : ∀ (l s : List Int), s.Pairwise (· ≤ ·) → (l.foldl insI s).Pairwise (· ≤ ·) ∧ (l.foldl insI s).Perm (l ++ s)
  | [], s, h => ⟨h, List.Perm.refl _⟩
  | x :: l, s, h => by
    obtain ⟨h1, h2⟩ := sortI_go l (insI s x) (insI_pw x s h)
    refine ⟨h1, h2.trans (((insI_perm x s).append_left l).trans ?_)⟩
    exact List.perm_middle
theorem sorted_eq : ∀ (a b : List Int), a.Pairwise (· ≤ ·) → b.Pairwise (· ≤ ·) → a.Perm b → a = b
  | [], b, _, _, h => (List.nil_perm.1 h).symm
  | x :: a, [], _, _, h => absurd (List.perm_nil.1 h) (by simp)
  | x :: a, y :: b, ha, hb, h => by
    obtain ⟨a1, a2⟩ := List.pairwise_cons.1 ha
    obtain ⟨b1, b2⟩ := List.pairwise_cons.1 hb
    have hxy : x = y := by
      have hx := h.mem_iff.1 (List.mem_cons_self (a := x) (l := a))
      have hy := h.mem_iff.2 (List.mem_cons_self (a := y) (l := b))
      rcases List.mem_cons.1 hx with e | hx
      · exact e
      · rcases List.mem_cons.1 hy with e | hy
        · exact e.symm
        · have := a1 y hy; have := b1 x hx; omega
    subst hxy
    rw [sorted_eq a b a2 b2 h.cons_inv]
theorem sortI_eq (l : List Int) : sortI l = isort l := by
  obtain ⟨h1, h2⟩ := sortI_go l [] List.Pairwise.nil
  rw [List.append_nil] at h2
  exact sorted_eq _ _ h1 (isort_pw l) (h2.trans (isort_perm l).symm)
theorem sortI_len (l : List Int) : (sortI l).length = l.length := by rw [sortI_eq, isort_len]
theorem sortI_step {l : List Int} {k : Nat} (hk : k < l.length) : sortI (l.take (k + 1)) = insI (sortI (l.take k)) (l.getD k 0) := by
  have e : l.take (k + 1) = l.take k ++ [l.getD k 0] := by rw [List.take_add_one, List.getD_eq_getElem?_getD, List.getElem?_eq_getElem hk]; rfl
  rw [e]
  unfold sortI
  rw [List.foldl_append]
  rfl

theorem vdrewNc {B : Nat} {w w' : World} (h : Below B w w') (n : Nat) : Below B w (w'.drewN n) := ⟨h.os, h.tape, h.output, h.size, h.block⟩

set_option maxRecDepth 100000 in
set_option maxHeartbeats 4000000 in
theorem middle_at (l : List Int) (v : Value) (base : Nat) (w : World) (hl : l.length ≤ 100) (hO : OwnI w base v l) (hr : ∀ z ∈ l, -2199023255552 ≤ z ∧ z ≤ 2199023255552) :
    Calls Tryd.prog 115 #[v] w fun e w' => e = .returned (.tuple #[.int .i64 (avg l), .bool (decide (0 < l.length))]) ∧ Below w.heap.size w w' := by
  have HO := hide hO
  have HRg : Hid (∀ z ∈ sortI l, -2199023255552 ≤ z ∧ z ≤ 2199023255552) := fun z hz => hr z (by rw [sortI_eq] at hz; exact isort_mem.1 hz)
  obtain ⟨A, C, rfl, hC, hA1, hA2⟩ := hO.opened
  have HA := hide hA1; have HA2 := hide hA2
  clear hO hA1 hA2 hr hC
  go_enter Tryd.func115, Tryd.ntmps115
  go_wp2_with fail
  go_loopw [4, 5, 6, 7] (fun s4 s5 s6 s7 W => ∃ k : Nat, k ≤ l.length ∧ s5 = .int .i64 k ∧ OwnI W w.heap.size s4 (sortI (l.take k)) ∧ Below w.heap.size w W) (fun _ s5 _ _ _ => l.length - (intOf s5).toNat)
  case atStart => exact ⟨0, by omega, rfl, OwnI.nil _ _, Below.refl _ _⟩
  case round =>
    obtain ⟨k, hk, rfl, hs, hbw⟩ := hrel
    have HBW := hide hbw; have HS := hide hs
    have HSL : Hid ((sortI (l.take k)).length = k) := by show _ = _; rw [sortI_len, List.length_take]; omega
    obtain ⟨As, Cs, rfl, hCs, hs1, hs2⟩ := hs.opened
    have HS1 := hide hs1; have HS2 := hide hs2
    clear hbw hs hs1 hs2
    have HSE : Hid (∀ q, sortI (l.take k) = q → sortI (l.take k) = q) := fun _ h => h
    obtain ⟨s, hss⟩ : ∃ s, sortI (l.take k) = s := ⟨_, rfl⟩
    rw [hss] at HS HSL HS1 HS2 hCs ⊢
    have HSS := hide hss
    clear hss HSE
    by_cases hlt : k < l.length
    · have HKL := hide (show k + 1 ≤ l.length by omega)
      have HST : Hid (sortI (l.take (k + 1)) = insI s (l.getD k 0)) := by show _ = _; rw [sortI_step hlt, HSS.out]
      rcases A with _ | b0
      · exact absurd (HA.out rfl).1 (by omega)
      obtain ⟨g, rfl, _, hgl, hgc⟩ := HA2.out b0 rfl
      have HX : Hid (∀ W, Below w.heap.size w W → W.cell? ⟨g, k, none⟩ = some (.int .i64 (l.getD k 0))) := fun W hb => cell_below hb (Nat.le_refl _) hgl (hgc k _ (by rw [List.getD_eq_getElem?_getD, List.getElem?_eq_getElem hlt]; rfl))
      clear hgc
      generalize l.getD k 0 = x at HST HX
      have HP := hide (posI_le x s)
      go_wp2_with fail
      go_loopw [6] (fun s6 W => ∃ p : Nat, s6 = .int .i64 p ∧ p ≤ posI x s ∧ Below w.heap.size w W ∧ OwnI W w.heap.size (.slice As s.length Cs) s) (fun s6 _ => s.length - (intOf s6).toNat)
      case atStart => exact ⟨0, rfl, Nat.zero_le _, HBW.out, HS.out⟩
      case round =>
        obtain ⟨p, rfl, hp, hbw, hs⟩ := hrel
        have HBW' : Hid (Below w.heap.size w wr.drew) := vdrewNc hbw 1; have hs100 : s.length ≤ 1000 := by have := HSL.out; omega
        have HS' : Hid (OwnI wr.drew w.heap.size (.slice As s.length Cs) s) := hs
        have hxc : wr.drew.cell? ⟨g, k, none⟩ = some (.int .i64 x) := HX.out wr hbw
        have hpl := Nat.le_trans hp HP.out
        have hp100 : p + 1 ≤ 1000 := by have := HSL.out; omega
        by_cases hps : p < s.length
        · rcases As with _ | b1
          · exact absurd (HS1.out rfl).1 (by omega)
          obtain ⟨gs, Cx, hsv, _, _, hsc⟩ := hs.at hps
          cases hsv
          have hyc : wr.drew.cell? ⟨gs, p, none⟩ = some (.int .i64 (s.getD p 0)) := hsc p hps
          have HM := hide (fun h => posI_more hp hps h)
          have HE := hide (fun h => posI_end hp hps h)
          have HH : Hid (wr.drew.cell? ⟨gs, p, none⟩ = some (.int .i64 (s.getD p 0)) ∧ wr.drew.cell? ⟨g, k, none⟩ = some (.int .i64 x)) := ⟨hyc, hxc⟩
          generalize s.getD p 0 = y at HM HE HH
          clear hxc hyc hsc hs hbw
          by_cases hy : y < x
          · have hm := HM.out hy
            go_wp2_with fail
            refine wp_region_held_drew (S := fun w' => w'.cell? ⟨gs, p, none⟩ = some (.int .i64 y) ∧ w'.cell? ⟨g, k, none⟩ = some (.int .i64 x)) (by kernel_rfl) (HH.out) (fun hHeld => ?_)
            refine wpAnyH_take (i := 0) (v := ?v1_0) rfl (by kernel_rfl) (by kernel_rfl) (by kernel_rfl) (fun _ _ _ h => h) (Or.inl ⟨by kernel_rfl, ?y1_0⟩) (by assumption) ?r1_0
            case y1_0 => (intro W hSW; (try dsimp only at hSW); go_simp; (try with_reducible rfl))
            change wpAnyH _ _ _ _ _ _ _ (Act.put _ (some 16) _) _
            (try simp only [Act.put, List.setIfInBounds_toArray, List.set_cons_zero, List.set_cons_succ])
            refine wpAnyH_take (i := 1) (v := ?v1_1) rfl (by kernel_rfl) (by kernel_rfl) (by kernel_rfl) (fun _ _ _ h => h) (Or.inl ⟨by kernel_rfl, ?y1_1⟩) (by assumption) ?r1_1
            case y1_1 => (intro W hSW; (try dsimp only at hSW); go_simp; (try with_reducible rfl))
            change wpAnyH _ _ _ _ _ _ _ (Act.put _ (some 17) _) _
            (try simp only [Act.put, List.setIfInBounds_toArray, List.set_cons_zero, List.set_cons_succ])
            refine wpAnyH_take (i := 2) (v := ?v1_2) rfl (by kernel_rfl) (by kernel_rfl) (by kernel_rfl) (fun _ _ _ h => h) (Or.inl ⟨by kernel_rfl, ?y1_2⟩) (by assumption) ?r1_2
            case y1_2 => (intro W hSW; (try dsimp only at hSW); go_simp; (try with_reducible rfl))
            change wpAnyH _ _ _ _ _ _ _ (Act.put _ (some 18) _) _
            (try simp only [Act.put, List.setIfInBounds_toArray, List.set_cons_zero, List.set_cons_succ])
            refine wpAnyH_take (i := 3) (v := ?v1_3) rfl (by kernel_rfl) (by kernel_rfl) (by kernel_rfl) (fun _ _ _ h => h) (Or.inl ⟨by kernel_rfl, ?y1_3⟩) (by assumption) ?r1_3
            case y1_3 => (intro W hSW; (try dsimp only at hSW); go_simp; (try with_reducible rfl))
            change wpAnyH _ _ _ _ _ _ _ (Act.put _ (some 19) _) _
            (try simp only [Act.put, List.setIfInBounds_toArray, List.set_cons_zero, List.set_cons_succ])
            refine wpAnyH_take (i := 4) (v := ?v1_4) rfl (by kernel_rfl) (by kernel_rfl) (by kernel_rfl) (fun _ _ _ h => h) (Or.inl ⟨by kernel_rfl, ?y1_4⟩) (by assumption) ?r1_4
            case y1_4 => (intro W hSW; (try dsimp only at hSW); go_simp; (try with_reducible rfl))
            change wpAnyH _ _ _ _ _ _ _ (Act.put _ (some 20) _) _
            (try simp only [Act.put, List.setIfInBounds_toArray, List.set_cons_zero, List.set_cons_succ])
            refine wpAnyH_take (i := 5) (v := ?v1_5) rfl (by kernel_rfl) (by kernel_rfl) (by kernel_rfl) (fun _ _ _ h => h) (Or.inl ⟨by kernel_rfl, ?y1_5⟩) (by assumption) ?r1_5
            case y1_5 => (intro W hSW; (try dsimp only at hSW); go_simp; (try with_reducible rfl))
            change wpAnyH _ _ _ _ _ _ _ (Act.put _ (some 21) _) _
            (try simp only [Act.put, List.setIfInBounds_toArray, List.set_cons_zero, List.set_cons_succ])
            refine wpAnyH_take (i := 6) (v := ?v1_6) rfl (by kernel_rfl) (by kernel_rfl) (by kernel_rfl) (fun _ _ _ h => h) (Or.inl ⟨by kernel_rfl, ?y1_6⟩) (by assumption) ?r1_6
            case y1_6 => (intro W hSW; (try dsimp only at hSW); go_simp; (try with_reducible rfl))
            change wpAnyH _ _ _ _ _ _ _ (Act.put _ (some 22) _) _
            (try simp only [Act.put, List.setIfInBounds_toArray, List.set_cons_zero, List.set_cons_succ])
            refine wpAnyH_take (i := 7) (v := ?v1_7) rfl (by kernel_rfl) (by kernel_rfl) (by kernel_rfl) (fun _ _ _ h => h) (Or.inl ⟨by kernel_rfl, ?y1_7⟩) (by assumption) ?r1_7
            case y1_7 => (intro W hSW; (try dsimp only at hSW); go_simp; (try with_reducible rfl))
            change wpAnyH _ _ _ _ _ _ _ (Act.put _ (some 23) _) _
            (try simp only [Act.put, List.setIfInBounds_toArray, List.set_cons_zero, List.set_cons_succ])
            refine wpAnyH_take (i := 8) (v := ?v1_8) rfl (by kernel_rfl) (by kernel_rfl) (by kernel_rfl) (fun _ _ _ h => h) (Or.inl ⟨by kernel_rfl, ?y1_8⟩) (by assumption) ?r1_8
            case y1_8 => (intro W hSW; (try dsimp only at hSW); go_simp; (try with_reducible rfl))
            change wpAnyH _ _ _ _ _ _ _ (Act.put _ (some 24) _) _
            (try simp only [Act.put, List.setIfInBounds_toArray, List.set_cons_zero, List.set_cons_succ])
            refine wpAnyH_take (i := 9) (v := ?v1_9) rfl (by kernel_rfl) (by kernel_rfl) (by kernel_rfl) (fun _ _ _ h => h) (Or.inl ⟨by kernel_rfl, ?y1_9⟩) (by assumption) ?r1_9
            case y1_9 => (intro W hSW; (try dsimp only at hSW); go_simp; (try with_reducible rfl))
            change wpAnyH _ _ _ _ _ _ _ (Act.put _ (some 25) _) _
            (try simp only [Act.put, List.setIfInBounds_toArray, List.set_cons_zero, List.set_cons_succ])
            refine wpAnyH_take (i := 10) (v := ?v1_10) rfl (by kernel_rfl) (by kernel_rfl) (by kernel_rfl) (fun _ _ _ h => h) (Or.inl ⟨by kernel_rfl, ?y1_10⟩) (by assumption) ?r1_10
            case y1_10 => (intro W hSW; (try dsimp only at hSW); go_simp; (try with_reducible rfl))
            change wpAnyH _ _ _ _ _ _ _ (Act.put _ (some 26) _) _
            (try simp only [Act.put, List.setIfInBounds_toArray, List.set_cons_zero, List.set_cons_succ])
            refine wpAnyH_take (i := 11) (v := ?v1_11) rfl (by kernel_rfl) (by kernel_rfl) (by kernel_rfl) (fun _ _ _ h => h) (Or.inl ⟨by kernel_rfl, ?y1_11⟩) (by assumption) ?r1_11
            case y1_11 => (intro W hSW; (try dsimp only at hSW); go_simp; (try with_reducible rfl))
            change wpAnyH _ _ _ _ _ _ _ (Act.put _ (some 27) _) _
            (try simp only [Act.put, List.setIfInBounds_toArray, List.set_cons_zero, List.set_cons_succ])
            refine wpAnyH_take (i := 12) (v := ?v1_12) rfl (by kernel_rfl) (by kernel_rfl) (by kernel_rfl) (fun _ _ _ h => h) (Or.inl ⟨by kernel_rfl, ?y1_12⟩) (by assumption) ?r1_12
            case y1_12 => (intro W hSW; (try dsimp only at hSW); go_simp; (try with_reducible rfl))
            change wpAnyH _ _ _ _ _ _ _ (Act.put _ (some 28) _) _
            (try simp only [Act.put, List.setIfInBounds_toArray, List.set_cons_zero, List.set_cons_succ])
            refine wpAnyH_take (i := 13) (v := ?v1_13) rfl (by kernel_rfl) (by kernel_rfl) (by kernel_rfl) (fun _ _ _ h => h) (Or.inl ⟨by kernel_rfl, ?y1_13⟩) (by assumption) ?r1_13
            case y1_13 => (intro W hSW; (try dsimp only at hSW); go_simp; (try with_reducible rfl))
            change wpAnyH _ _ _ _ _ _ _ (Act.put _ (some 29) _) _
            (try simp only [Act.put, List.setIfInBounds_toArray, List.set_cons_zero, List.set_cons_succ])
            refine wpAnyH_take (i := 14) (v := ?v1_14) rfl (by kernel_rfl) (by kernel_rfl) (by kernel_rfl) (fun _ _ _ h => h) (Or.inl ⟨by kernel_rfl, ?y1_14⟩) (by assumption) ?r1_14
            case y1_14 => (intro W hSW; (try dsimp only at hSW); go_simp; (try with_reducible rfl))
            change wpAnyH _ _ _ _ _ _ _ (Act.put _ (some 30) _) _
            (try simp only [Act.put, List.setIfInBounds_toArray, List.set_cons_zero, List.set_cons_succ])
            refine wpAnyH_done (by kernel_rfl) ?_ _
            clear hHeld HH
            go_wp2_with fail
            go_roundw
            case rel => exact ⟨p + 1, by go_num, hm, HBW'.out, HS'.out⟩
            case measure => simp [intOf]; omega
          · have hm := HE.out hy
            go_wp2_with fail
            refine wp_region_held_drew (S := fun w' => w'.cell? ⟨gs, p, none⟩ = some (.int .i64 y) ∧ w'.cell? ⟨g, k, none⟩ = some (.int .i64 x)) (by kernel_rfl) (HH.out) (fun hHeld => ?_)
            refine wpAnyH_take (i := 0) (v := ?v2_0) rfl (by kernel_rfl) (by kernel_rfl) (by kernel_rfl) (fun _ _ _ h => h) (Or.inl ⟨by kernel_rfl, ?y2_0⟩) (by assumption) ?r2_0
            case y2_0 => (intro W hSW; (try dsimp only at hSW); go_simp; (try with_reducible rfl))
            change wpAnyH _ _ _ _ _ _ _ (Act.put _ (some 16) _) _
            (try simp only [Act.put, List.setIfInBounds_toArray, List.set_cons_zero, List.set_cons_succ])
            refine wpAnyH_take (i := 1) (v := ?v2_1) rfl (by kernel_rfl) (by kernel_rfl) (by kernel_rfl) (fun _ _ _ h => h) (Or.inl ⟨by kernel_rfl, ?y2_1⟩) (by assumption) ?r2_1
            case y2_1 => (intro W hSW; (try dsimp only at hSW); go_simp; (try with_reducible rfl))
            change wpAnyH _ _ _ _ _ _ _ (Act.put _ (some 17) _) _
            (try simp only [Act.put, List.setIfInBounds_toArray, List.set_cons_zero, List.set_cons_succ])
            refine wpAnyH_take (i := 2) (v := ?v2_2) rfl (by kernel_rfl) (by kernel_rfl) (by kernel_rfl) (fun _ _ _ h => h) (Or.inl ⟨by kernel_rfl, ?y2_2⟩) (by assumption) ?r2_2
            case y2_2 => (intro W hSW; (try dsimp only at hSW); go_simp; (try with_reducible rfl))
            change wpAnyH _ _ _ _ _ _ _ (Act.put _ (some 18) _) _
            (try simp only [Act.put, List.setIfInBounds_toArray, List.set_cons_zero, List.set_cons_succ])
            refine wpAnyH_take (i := 3) (v := ?v2_3) rfl (by kernel_rfl) (by kernel_rfl) (by kernel_rfl) (fun _ _ _ h => h) (Or.inl ⟨by kernel_rfl, ?y2_3⟩) (by assumption) ?r2_3
            case y2_3 => (intro W hSW; (try dsimp only at hSW); go_simp; (try with_reducible rfl))
            change wpAnyH _ _ _ _ _ _ _ (Act.put _ (some 19) _) _
            (try simp only [Act.put, List.setIfInBounds_toArray, List.set_cons_zero, List.set_cons_succ])
            refine wpAnyH_take (i := 4) (v := ?v2_4) rfl (by kernel_rfl) (by kernel_rfl) (by kernel_rfl) (fun _ _ _ h => h) (Or.inl ⟨by kernel_rfl, ?y2_4⟩) (by assumption) ?r2_4
            case y2_4 => (intro W hSW; (try dsimp only at hSW); go_simp; (try with_reducible rfl))
            change wpAnyH _ _ _ _ _ _ _ (Act.put _ (some 20) _) _
            (try simp only [Act.put, List.setIfInBounds_toArray, List.set_cons_zero, List.set_cons_succ])
            refine wpAnyH_take (i := 5) (v := ?v2_5) rfl (by kernel_rfl) (by kernel_rfl) (by kernel_rfl) (fun _ _ _ h => h) (Or.inl ⟨by kernel_rfl, ?y2_5⟩) (by assumption) ?r2_5
            case y2_5 => (intro W hSW; (try dsimp only at hSW); go_simp; (try with_reducible rfl))
            change wpAnyH _ _ _ _ _ _ _ (Act.put _ (some 21) _) _
            (try simp only [Act.put, List.setIfInBounds_toArray, List.set_cons_zero, List.set_cons_succ])
            refine wpAnyH_take (i := 6) (v := ?v2_6) rfl (by kernel_rfl) (by kernel_rfl) (by kernel_rfl) (fun _ _ _ h => h) (Or.inl ⟨by kernel_rfl, ?y2_6⟩) (by assumption) ?r2_6
            case y2_6 => (intro W hSW; (try dsimp only at hSW); go_simp; (try with_reducible rfl))
            change wpAnyH _ _ _ _ _ _ _ (Act.put _ (some 22) _) _
            (try simp only [Act.put, List.setIfInBounds_toArray, List.set_cons_zero, List.set_cons_succ])
            refine wpAnyH_take (i := 7) (v := ?v2_7) rfl (by kernel_rfl) (by kernel_rfl) (by kernel_rfl) (fun _ _ _ h => h) (Or.inl ⟨by kernel_rfl, ?y2_7⟩) (by assumption) ?r2_7
            case y2_7 => (intro W hSW; (try dsimp only at hSW); go_simp; (try with_reducible rfl))
            change wpAnyH _ _ _ _ _ _ _ (Act.put _ (some 23) _) _
            (try simp only [Act.put, List.setIfInBounds_toArray, List.set_cons_zero, List.set_cons_succ])
            refine wpAnyH_take (i := 8) (v := ?v2_8) rfl (by kernel_rfl) (by kernel_rfl) (by kernel_rfl) (fun _ _ _ h => h) (Or.inl ⟨by kernel_rfl, ?y2_8⟩) (by assumption) ?r2_8
            case y2_8 => (intro W hSW; (try dsimp only at hSW); go_simp; (try with_reducible rfl))
            change wpAnyH _ _ _ _ _ _ _ (Act.put _ (some 24) _) _
            (try simp only [Act.put, List.setIfInBounds_toArray, List.set_cons_zero, List.set_cons_succ])
            refine wpAnyH_take (i := 9) (v := ?v2_9) rfl (by kernel_rfl) (by kernel_rfl) (by kernel_rfl) (fun _ _ _ h => h) (Or.inl ⟨by kernel_rfl, ?y2_9⟩) (by assumption) ?r2_9
            case y2_9 => (intro W hSW; (try dsimp only at hSW); go_simp; (try with_reducible rfl))
            change wpAnyH _ _ _ _ _ _ _ (Act.put _ (some 25) _) _
            (try simp only [Act.put, List.setIfInBounds_toArray, List.set_cons_zero, List.set_cons_succ])
            refine wpAnyH_take (i := 10) (v := ?v2_10) rfl (by kernel_rfl) (by kernel_rfl) (by kernel_rfl) (fun _ _ _ h => h) (Or.inl ⟨by kernel_rfl, ?y2_10⟩) (by assumption) ?r2_10
            case y2_10 => (intro W hSW; (try dsimp only at hSW); go_simp; (try with_reducible rfl))
            change wpAnyH _ _ _ _ _ _ _ (Act.put _ (some 26) _) _
            (try simp only [Act.put, List.setIfInBounds_toArray, List.set_cons_zero, List.set_cons_succ])
            refine wpAnyH_take (i := 11) (v := ?v2_11) rfl (by kernel_rfl) (by kernel_rfl) (by kernel_rfl) (fun _ _ _ h => h) (Or.inl ⟨by kernel_rfl, ?y2_11⟩) (by assumption) ?r2_11
            case y2_11 => (intro W hSW; (try dsimp only at hSW); go_simp; (try with_reducible rfl))
            change wpAnyH _ _ _ _ _ _ _ (Act.put _ (some 27) _) _
            (try simp only [Act.put, List.setIfInBounds_toArray, List.set_cons_zero, List.set_cons_succ])
            refine wpAnyH_take (i := 12) (v := ?v2_12) rfl (by kernel_rfl) (by kernel_rfl) (by kernel_rfl) (fun _ _ _ h => h) (Or.inl ⟨by kernel_rfl, ?y2_12⟩) (by assumption) ?r2_12
            case y2_12 => (intro W hSW; (try dsimp only at hSW); go_simp; (try with_reducible rfl))
            change wpAnyH _ _ _ _ _ _ _ (Act.put _ (some 28) _) _
            (try simp only [Act.put, List.setIfInBounds_toArray, List.set_cons_zero, List.set_cons_succ])
            refine wpAnyH_take (i := 13) (v := ?v2_13) rfl (by kernel_rfl) (by kernel_rfl) (by kernel_rfl) (fun _ _ _ h => h) (Or.inl ⟨by kernel_rfl, ?y2_13⟩) (by assumption) ?r2_13
            case y2_13 => (intro W hSW; (try dsimp only at hSW); go_simp; (try with_reducible rfl))
            change wpAnyH _ _ _ _ _ _ _ (Act.put _ (some 29) _) _
            (try simp only [Act.put, List.setIfInBounds_toArray, List.set_cons_zero, List.set_cons_succ])
            refine wpAnyH_take (i := 14) (v := ?v2_14) rfl (by kernel_rfl) (by kernel_rfl) (by kernel_rfl) (fun _ _ _ h => h) (Or.inl ⟨by kernel_rfl, ?y2_14⟩) (by assumption) ?r2_14
            case y2_14 => (intro W hSW; (try dsimp only at hSW); go_simp; (try with_reducible rfl))
            change wpAnyH _ _ _ _ _ _ _ (Act.put _ (some 30) _) _
            (try simp only [Act.put, List.setIfInBounds_toArray, List.set_cons_zero, List.set_cons_succ])
            refine wpAnyH_done (by kernel_rfl) ?_ _
            clear hHeld HH HM HE
            have HPI := hide hm
            have hpl2 : p ≤ s.length := by omega
            have hl1 : ([] : List Int).length + (s.take p).length ≤ 100000 := by rw [List.length_take]; simp; omega
            have hl2 : (([] : List Int) ++ s.take p).length + [x].length ≤ 100000 := by rw [List.nil_append, List.length_take]; simp; omega
            have hl3 : ((([] : List Int) ++ s.take p) ++ [x]).length + (s.drop p).length ≤ 100000 := by rw [List.nil_append, List.length_append, List.length_take, List.length_drop]; simp; omega
            generalize wr.drew = W1 at HBW' HS' ⊢
            go_upto_region 10 with (first | (refine wpList_lo rfl (.tmp 34) (.tmp 35) rfl _ w.heap.size p s rfl rfl HS'.out hpl2 ?_; intro v1 hv1; have HV1 := hide hv1; clear hv1) | (refine wpList_ontoI rfl (.tmp 33) (.tmp 36) rfl W1.heap.size _ v1 [] (s.take p) rfl rfl (OwnI.nil _ _) HV1.out hl1 (Nat.le_refl _) ?_; intro t1 W2 ht1 hb1; have HT1 := hide ht1; have HB1 := hide hb1; clear ht1 hb1))
            have HB2 := hide (HBW'.out.trans (HB1.out.mono HBW'.out.size))
            have hxc := HX.out W2 HB2.out
            have hz2 : W1.heap.size ≤ (W2.alloc (.cells #[.int .i64 x] 3)).heap.size := Nat.le_trans HB1.out.size (bal W2 _).size
            have HT2 := hide (HT1.out.below (bal W2 (.cells #[.int .i64 x] 3)) (Nat.le_refl _))
            have HBa := hide (HB1.out.trans ((bal W2 (.cells #[.int .i64 x] 3)).mono HB1.out.size))
            have HO1 := hide (SrcI.one W2 x)
            go_upto_region 11 with (refine wpList_ontoI rfl (.tmp 38) (.tmp 43) rfl W1.heap.size _ _ (([] : List Int) ++ s.take p) [x] rfl rfl HT2.out HO1.out hl2 hz2 ?_; intro t2 W3 ht2 hb2; have HT3 := hide ht2; have HB3 := hide hb2; clear ht2 hb2)
            clear hxc hz2
            have HBb := hide (HBa.out.trans HB3.out)
            have HS3 := hide (HS'.out.below HBb.out (Nat.le_refl _))
            have hz3 := HBb.out.size
            go_wp2_with (first | (refine wpList_hi rfl (.tmp 46) (.tmp 47) rfl _ w.heap.size p s rfl rfl HS3.out hpl2 ?_; intro v3 hv3; have HV3 := hide hv3; clear hv3) | (refine wpList_ontoI rfl (.tmp 45) (.tmp 48) rfl W1.heap.size _ v3 ((([] : List Int) ++ s.take p) ++ [x]) (s.drop p) rfl rfl HT3.out HV3.out hl3 hz3 ?_; intro t4 W4 ht4 hb4; have HT4 := hide ht4; have HB4 := hide hb4; clear ht4 hb4))
            have HF : Hid (OwnI W4 W1.heap.size t4 (insI s x)) := by
              have h4 := HT4.out
              unfold insI
              rw [HPI.out]
              exact h4
            have HBf := hide (HBW'.out.trans ((HBb.out.trans HB4.out).mono HBW'.out.size))
            have hzf := HBW'.out.size
            go_roundw
            case rel => exact ⟨k + 1, HKL.out, by go_num, by rw [HST.out]; exact HF.out.less hzf, HBf.out⟩
            case measure => have := HKL.out; simp [intOf]; omega
        · have hm : posI x s = p := by have := HP.out; omega
          clear hxc hs hbw
          go_wp2_with fail
          refine wp_region_held_drew (S := fun w' => True) (by kernel_rfl) (trivial) (fun hHeld => ?_)
          refine wpAnyH_take (i := 0) (v := ?v3_0) rfl (by kernel_rfl) (by kernel_rfl) (by kernel_rfl) (fun _ _ _ h => h) (Or.inl ⟨by kernel_rfl, ?y3_0⟩) (by assumption) ?r3_0
          case y3_0 => (intro W hSW; (try dsimp only at hSW); go_simp; (try with_reducible rfl))
          change wpAnyH _ _ _ _ _ _ _ (Act.put _ (some 16) _) _
          (try simp only [Act.put, List.setIfInBounds_toArray, List.set_cons_zero, List.set_cons_succ])
          refine wpAnyH_take (i := 1) (v := ?v3_1) rfl (by kernel_rfl) (by kernel_rfl) (by kernel_rfl) (fun _ _ _ h => h) (Or.inl ⟨by kernel_rfl, ?y3_1⟩) (by assumption) ?r3_1
          case y3_1 => (intro W hSW; (try dsimp only at hSW); go_simp; (try with_reducible rfl))
          change wpAnyH _ _ _ _ _ _ _ (Act.put _ (some 17) _) _
          (try simp only [Act.put, List.setIfInBounds_toArray, List.set_cons_zero, List.set_cons_succ])
          refine wpAnyH_take (i := 2) (v := ?v3_2) rfl (by kernel_rfl) (by kernel_rfl) (by kernel_rfl) (fun _ _ _ h => h) (Or.inl ⟨by kernel_rfl, ?y3_2⟩) (by assumption) ?r3_2
          case y3_2 => (intro W hSW; (try dsimp only at hSW); go_simp; (try with_reducible rfl))
          change wpAnyH _ _ _ _ _ _ _ (Act.put _ (some 18) _) _
          (try simp only [Act.put, List.setIfInBounds_toArray, List.set_cons_zero, List.set_cons_succ])
          refine wpAnyH_take (i := 3) (v := ?v3_3) rfl (by kernel_rfl) (by kernel_rfl) (by kernel_rfl) (fun _ _ _ h => h) (Or.inl ⟨by kernel_rfl, ?y3_3⟩) (by assumption) ?r3_3
          case y3_3 => (intro W hSW; (try dsimp only at hSW); go_simp; (try with_reducible rfl))
          change wpAnyH _ _ _ _ _ _ _ (Act.put _ (some 19) _) _
          (try simp only [Act.put, List.setIfInBounds_toArray, List.set_cons_zero, List.set_cons_succ])
          refine wpAnyH_take (i := 4) (v := ?v3_4) rfl (by kernel_rfl) (by kernel_rfl) (by kernel_rfl) (fun _ _ _ h => h) (Or.inl ⟨by kernel_rfl, ?y3_4⟩) (by assumption) ?r3_4
          case y3_4 => (intro W hSW; (try dsimp only at hSW); go_simp; (try with_reducible rfl))
          change wpAnyH _ _ _ _ _ _ _ (Act.put _ (some 20) _) _
          (try simp only [Act.put, List.setIfInBounds_toArray, List.set_cons_zero, List.set_cons_succ])
          refine wpAnyH_take (i := 5) (v := undef) rfl (by kernel_rfl) (by kernel_rfl) (by kernel_rfl) (fun _ _ _ h => h) (Or.inr ⟨by kernel_rfl, rfl⟩) (by assumption) ?_
          change wpAnyH _ _ _ _ _ _ _ (Act.put _ (some 21) _) _
          (try simp only [Act.put, List.setIfInBounds_toArray, List.set_cons_zero, List.set_cons_succ])
          refine wpAnyH_take (i := 6) (v := undef) rfl (by kernel_rfl) (by kernel_rfl) (by kernel_rfl) (fun _ _ _ h => h) (Or.inr ⟨by kernel_rfl, rfl⟩) (by assumption) ?_
          change wpAnyH _ _ _ _ _ _ _ (Act.put _ (some 22) _) _
          (try simp only [Act.put, List.setIfInBounds_toArray, List.set_cons_zero, List.set_cons_succ])
          refine wpAnyH_take (i := 7) (v := undef) rfl (by kernel_rfl) (by kernel_rfl) (by kernel_rfl) (fun _ _ _ h => h) (Or.inr ⟨by kernel_rfl, rfl⟩) (by assumption) ?_
          change wpAnyH _ _ _ _ _ _ _ (Act.put _ (some 23) _) _
          (try simp only [Act.put, List.setIfInBounds_toArray, List.set_cons_zero, List.set_cons_succ])
          refine wpAnyH_take (i := 8) (v := undef) rfl (by kernel_rfl) (by kernel_rfl) (by kernel_rfl) (fun _ _ _ h => h) (Or.inr ⟨by kernel_rfl, rfl⟩) (by assumption) ?_
          change wpAnyH _ _ _ _ _ _ _ (Act.put _ (some 24) _) _
          (try simp only [Act.put, List.setIfInBounds_toArray, List.set_cons_zero, List.set_cons_succ])
          refine wpAnyH_take (i := 9) (v := undef) rfl (by kernel_rfl) (by kernel_rfl) (by kernel_rfl) (fun _ _ _ h => h) (Or.inr ⟨by kernel_rfl, rfl⟩) (by assumption) ?_
          change wpAnyH _ _ _ _ _ _ _ (Act.put _ (some 25) _) _
          (try simp only [Act.put, List.setIfInBounds_toArray, List.set_cons_zero, List.set_cons_succ])
          refine wpAnyH_take (i := 10) (v := undef) rfl (by kernel_rfl) (by kernel_rfl) (by kernel_rfl) (fun _ _ _ h => h) (Or.inr ⟨by kernel_rfl, rfl⟩) (by assumption) ?_
          change wpAnyH _ _ _ _ _ _ _ (Act.put _ (some 26) _) _
          (try simp only [Act.put, List.setIfInBounds_toArray, List.set_cons_zero, List.set_cons_succ])
          refine wpAnyH_take (i := 11) (v := undef) rfl (by kernel_rfl) (by kernel_rfl) (by kernel_rfl) (fun _ _ _ h => h) (Or.inr ⟨by kernel_rfl, rfl⟩) (by assumption) ?_
          change wpAnyH _ _ _ _ _ _ _ (Act.put _ (some 27) _) _
          (try simp only [Act.put, List.setIfInBounds_toArray, List.set_cons_zero, List.set_cons_succ])
          refine wpAnyH_take (i := 12) (v := undef) rfl (by kernel_rfl) (by kernel_rfl) (by kernel_rfl) (fun _ _ _ h => h) (Or.inr ⟨by kernel_rfl, rfl⟩) (by assumption) ?_
          change wpAnyH _ _ _ _ _ _ _ (Act.put _ (some 28) _) _
          (try simp only [Act.put, List.setIfInBounds_toArray, List.set_cons_zero, List.set_cons_succ])
          refine wpAnyH_take (i := 13) (v := undef) rfl (by kernel_rfl) (by kernel_rfl) (by kernel_rfl) (fun _ _ _ h => h) (Or.inr ⟨by kernel_rfl, rfl⟩) (by assumption) ?_
          change wpAnyH _ _ _ _ _ _ _ (Act.put _ (some 29) _) _
          (try simp only [Act.put, List.setIfInBounds_toArray, List.set_cons_zero, List.set_cons_succ])
          refine wpAnyH_take (i := 14) (v := ?v3_14) rfl (by kernel_rfl) (by kernel_rfl) (by kernel_rfl) (fun _ _ _ h => h) (Or.inl ⟨by kernel_rfl, ?y3_14⟩) (by assumption) ?r3_14
          case y3_14 => (intro W hSW; (try dsimp only at hSW); go_simp; (try with_reducible rfl))
          change wpAnyH _ _ _ _ _ _ _ (Act.put _ (some 30) _) _
          (try simp only [Act.put, List.setIfInBounds_toArray, List.set_cons_zero, List.set_cons_succ])
          refine wpAnyH_done (by kernel_rfl) ?_ _
          clear hHeld
          have HPI := hide hm
          have hpl2 : p ≤ s.length := by omega
          have hl1 : ([] : List Int).length + (s.take p).length ≤ 100000 := by rw [List.length_take]; simp; omega
          have hl2 : (([] : List Int) ++ s.take p).length + [x].length ≤ 100000 := by rw [List.nil_append, List.length_take]; simp; omega
          have hl3 : ((([] : List Int) ++ s.take p) ++ [x]).length + (s.drop p).length ≤ 100000 := by rw [List.nil_append, List.length_append, List.length_take, List.length_drop]; simp; omega
          generalize wr.drew = W1 at HBW' HS' ⊢
          go_upto_region 10 with (first | (refine wpList_lo rfl (.tmp 34) (.tmp 35) rfl _ w.heap.size p s rfl rfl HS'.out hpl2 ?_; intro v1 hv1; have HV1 := hide hv1; clear hv1) | (refine wpList_ontoI rfl (.tmp 33) (.tmp 36) rfl W1.heap.size _ v1 [] (s.take p) rfl rfl (OwnI.nil _ _) HV1.out hl1 (Nat.le_refl _) ?_; intro t1 W2 ht1 hb1; have HT1 := hide ht1; have HB1 := hide hb1; clear ht1 hb1))
          have HB2 := hide (HBW'.out.trans (HB1.out.mono HBW'.out.size))
          have hxc := HX.out W2 HB2.out
          have hz2 : W1.heap.size ≤ (W2.alloc (.cells #[.int .i64 x] 3)).heap.size := Nat.le_trans HB1.out.size (bal W2 _).size
          have HT2 := hide (HT1.out.below (bal W2 (.cells #[.int .i64 x] 3)) (Nat.le_refl _))
          have HBa := hide (HB1.out.trans ((bal W2 (.cells #[.int .i64 x] 3)).mono HB1.out.size))
          have HO1 := hide (SrcI.one W2 x)
          go_upto_region 11 with (refine wpList_ontoI rfl (.tmp 38) (.tmp 43) rfl W1.heap.size _ _ (([] : List Int) ++ s.take p) [x] rfl rfl HT2.out HO1.out hl2 hz2 ?_; intro t2 W3 ht2 hb2; have HT3 := hide ht2; have HB3 := hide hb2; clear ht2 hb2)
          clear hxc hz2
          have HBb := hide (HBa.out.trans HB3.out)
          have HS3 := hide (HS'.out.below HBb.out (Nat.le_refl _))
          have hz3 := HBb.out.size
          go_wp2_with (first | (refine wpList_hi rfl (.tmp 46) (.tmp 47) rfl _ w.heap.size p s rfl rfl HS3.out hpl2 ?_; intro v3 hv3; have HV3 := hide hv3; clear hv3) | (refine wpList_ontoI rfl (.tmp 45) (.tmp 48) rfl W1.heap.size _ v3 ((([] : List Int) ++ s.take p) ++ [x]) (s.drop p) rfl rfl HT3.out HV3.out hl3 hz3 ?_; intro t4 W4 ht4 hb4; have HT4 := hide ht4; have HB4 := hide hb4; clear ht4 hb4))
          have HF : Hid (OwnI W4 W1.heap.size t4 (insI s x)) := by
            have h4 := HT4.out
            unfold insI
            rw [HPI.out]
            exact h4
          have HBf := hide (HBW'.out.trans ((HBb.out.trans HB4.out).mono HBW'.out.size))
          have hzf := HBW'.out.size
          go_roundw
          case rel => exact ⟨k + 1, HKL.out, by go_num, by rw [HST.out]; exact HF.out.less hzf, HBf.out⟩
          case measure => have := HKL.out; simp [intOf]; omega
    · obtain rfl : k = l.length := by omega
      have HSl : Hid (s = isort l) := by
        have := HSS.out
        rw [List.take_length, sortI_eq] at this
        exact this.symm
      have HRs : Hid (∀ j, j < s.length → -2199023255552 ≤ s.getD j 0 ∧ s.getD j 0 ≤ 2199023255552) := fun j hj => HRg.out _ (by
        rw [sortI_eq, ← HSl.out, List.getD_eq_getElem?_getD, List.getElem?_eq_getElem hj]
        exact List.getElem_mem hj)
      have HAv : Hid (avg l = if l.length = 0 then 0 else mid s) := by rw [HSl.out]; rfl
      have HW := hide HBW.out
      clear HSS HRg
      rcases hl0 : l.length with _ | n0
      · have HZ : Hid (avg l = 0) := by show _ = _; rw [HAv.out, if_pos hl0]
        have hs0 : s.length = 0 := HSL.out.trans hl0
        clear HAv HRs HSl HS1 HS2 HS HSL
        rw [hs0]
        have hl0' := hide hl0
        clear hl0
        go_wp2
        go_ret2
        exact ⟨by rw [HZ.out, hl0'.out]; rfl, HW.out⟩
      · rcases As with _ | b1
        · exact absurd (HS1.out rfl).1 (by have := HSL.out; omega)
        obtain ⟨gs, rfl, _, _, hsc⟩ := HS2.out b1 rfl
        have HC : Hid (∀ j, j < s.length → wr.cell? ⟨gs, j, none⟩ = some (.int .i64 (s.getD j 0))) := fun j hj => hsc j _ (by rw [List.getD_eq_getElem?_getD, List.getElem?_eq_getElem hj]; rfl)
        have HM : Hid (avg l = mid s) := by show _ = _; rw [HAv.out, if_neg (by omega)]
        have hq : 1 ≤ s.length := by have := HSL.out; omega
        have hq2 : s.length ≤ 100 := by have := HSL.out; omega
        have HL0 := hide (show 0 < l.length by omega)
        have c0 := HC.out 0 (by omega)
        have c1 := HC.out (s.length - 1) (by omega)
        have r0 := HRs.out 0 (by omega)
        have r1 := HRs.out (s.length - 1) (by omega)
        have hi1 : ((s.length : Nat) : Int) - 1 = ((s.length - 1 : Nat) : Int) := by omega
        have hb1 : s.length - 1 < s.length := by omega
        clear hsc HAv HS1 HS2 HS HSl HSL hlt
        by_cases h3 : 3 ≤ s.length
        · have HMd : Hid (mid s = (s.getD 1 0 + s.getD (s.length - 2) 0) / 2) := by show _ = _; unfold mid; rw [if_pos h3]
          have c2 := HC.out 1 (by omega)
          have c3 := HC.out (s.length - 2) (by omega)
          have r2 := HRs.out 1 (by omega)
          have r3 := HRs.out (s.length - 2) (by omega)
          have hi2 : ((s.length : Nat) : Int) - 2 = ((s.length - 2 : Nat) : Int) := by omega
          have hb2 : s.length - 2 < s.length := by omega
          have hg3 : (2 : Int) < ((s.length : Nat) : Int) := by omega
          generalize s.getD 0 0 = z0 at c0 r0
          generalize s.getD (s.length - 1) 0 = z1 at c1 r1
          generalize s.getD 1 0 = z2 at c2 r2 HMd
          generalize s.getD (s.length - 2) 0 = z3 at c3 r3 HMd
          have hw : IntKind.i64.wrap (z2 + z3) = z2 + z3 := by rw [IntKind.wrap_i64]; omega
          have HH := hide (fun W => half_at (z2 + z3) W (by omega))
          clear HC HRs r0 r1 r2 r3
          go_wp2_with fail
          refine (HH.out _).mono ?_
          rintro e w' ⟨rfl, rfl⟩
          go_wp2
          go_ret2
          exact ⟨by rw [HM.out, HMd.out, decide_eq_true HL0.out]; rfl, HW.out⟩
        · have HMd : Hid (mid s = (s.getD 0 0 + s.getD (s.length - 1) 0) / 2) := by show _ = _; unfold mid; rw [if_neg h3]
          have hg3 : ¬(2 : Int) < ((s.length : Nat) : Int) := by omega
          generalize s.getD 0 0 = z0 at c0 r0 HMd
          generalize s.getD (s.length - 1) 0 = z1 at c1 r1 HMd
          have hw : IntKind.i64.wrap (z0 + z1) = z0 + z1 := by rw [IntKind.wrap_i64]; omega
          have HH := hide (fun W => half_at (z0 + z1) W (by omega))
          clear HC HRs r0 r1
          go_wp2_with fail
          refine (HH.out _).mono ?_
          rintro e w' ⟨rfl, rfl⟩
          go_wp2
          go_ret2
          exact ⟨by rw [HM.out, HMd.out, decide_eq_true HL0.out]; rfl, HW.out⟩
end Go.Proofs.YtbeggdahbhfhpaaDoor
namespace Go.Proofs.YtbeggdahbhfhpaaDoor
open Go.RowKit Go.Deep
set_option linter.unusedVariables false
set_option linter.unusedSimpArgs false

theorem make_bl (n : Nat) (hn : n ≤ 100000) (W : World) : (Instr.makeSlice 76 (.int .i64 (n : Int)) (.int .i64 (n : Int))).run Tryd.prog W = .ok (.slice (some ⟨W.heap.size, 0, none⟩) n n) (W.alloc (.cells (bools (List.replicate n false)) 4)) := by
  have hi3 : (Tryd.prog.info? 4).map (fun i => (i.zero, i.size, i.bytes)) = some (some (.bool false), 1, 1) := by kernel_rfl
  rcases hi : Tryd.prog.info? 4 with _ | i
  · rw [hi] at hi3; cases hi3
  rw [hi] at hi3
  simp only [Option.map_some, Option.some.injEq, Prod.mk.injEq] at hi3
  obtain ⟨hz, hs2, hb⟩ := hi3
  have hm := run_make (P := Tryd.prog) W 76 4 i (.bool false) Tryd.underlying76 hi hz .i64 .i64 (n : Int) (n : Int) (by omega) (by omega) (by rw [hb]; omega) (by omega)
  rw [hm]
  have e : madeCells (Value.bool false).cells n = bools (List.replicate n false) := by
    unfold bools
    apply Array.ext_getElem?
    intro j
    by_cases hj : j < n
    · simp [madeCells, Value.cells, hj, Nat.mod_one]
    · simp [madeCells, hj]
  simp [hs2, e]
theorem make_nm (n : Nat) (hn : n ≤ 100000) (W : World) : (Instr.makeSlice 22 (.int .i64 (n : Int)) (.int .i64 (n : Int))).run Tryd.prog W = .ok (.slice (some ⟨W.heap.size, 0, none⟩) n n) (W.alloc (.cells (nums (List.replicate n 0)) 3)) := by
  have hi3 := info_cki
  rcases hi : Tryd.prog.info? 3 with _ | i
  · rw [hi] at hi3; cases hi3
  rw [hi] at hi3
  simp only [Option.map_some, Option.some.injEq, Prod.mk.injEq] at hi3
  obtain ⟨hz, hs2, hb⟩ := hi3
  have hm := run_make (P := Tryd.prog) W 22 3 i (.int .i64 0) Tryd.underlying22 hi hz .i64 .i64 (n : Int) (n : Int) (by omega) (by omega) (by rw [hb]; omega) (by omega)
  rw [hm]
  have e : madeCells (Value.int .i64 0).cells n = nums (List.replicate n 0) := by
    unfold nums
    apply Array.ext_getElem?
    intro j
    by_cases hj : j < n
    · simp [madeCells, Value.cells, hj, Nat.mod_one]
    · simp [madeCells, hj]
  simp [hs2, e]

/-- what counts of a node's reading -/
def rvalF (k : Rk) (mb own : Int) (n : Nat) : Option Int :=
  if isM mb n then (if (n : Int) = own then some 0 else if k.H.getD n false then some (k.R.getD n 0) else none) else none
def rreadsF (k : Rk) (mb own : Int) (n : Nat) : List Int := (List.range n).filterMap (rvalF k mb own)
theorem rreads_step (k : Rk) (mb own : Int) (n : Nat) : rreadsF k mb own (n + 1) = rreadsF k mb own n ++ (rvalF k mb own n).toList := by
  unfold rreadsF
  rw [List.range_succ, List.filterMap_append]
  rcases h : rvalF k mb own n with _ | z <;> simp [h]
theorem rreads_len (k : Rk) (mb own : Int) : ∀ n, (rreadsF k mb own n).length ≤ n
  | 0 => Nat.le_refl _
  | n + 1 => by
    rw [rreads_step, List.length_append]
    have := rreads_len k mb own n
    have : (rvalF k mb own n).toList.length ≤ 1 := by rcases rvalF k mb own n with _ | z <;> simp
    omega

set_option maxRecDepth 100000 in
set_option maxHeartbeats 2000000 in
theorem raverage_at {wb rb hb : Nat} {k : Rk} {w : World} (x : RkAt w wb rb hb k) (mb own : Int) (N : Nat) (hN : k.nodes = N) (hN16 : N ≤ 16) (hR : k.R.length = N) (hH : k.H.length = N) (hmb : 0 ≤ mb ∧ mb < 65536) (hr : ∀ z ∈ rreadsF k mb own N, -2199023255552 ≤ z ∧ z ≤ 2199023255552) :
    Calls Tryd.prog 69 #[.pointer (some ⟨wb, 0, none⟩), .int .u16 mb, .int .i64 own] w fun e w' => e = .returned (.tuple #[.int .i64 (avg (rreadsF k mb own N)), .bool (decide (0 < (rreadsF k mb own N).length))]) ∧ Below w.heap.size w w' := by
  have X := hide x; have HR := hide hr
  have HI := hide (fun n W (h : n ≤ 100) => ris_at mb n W hmb h)
  clear x hr
  go_enter Tryd.func69, Tryd.ntmps69
  go_wp2_with fail
  go_loopw [8, 9, 10] (fun s8 s9 s10 W => ∃ n : Nat, n ≤ N ∧ s9 = .int .i64 n ∧ OwnI W w.heap.size s8 (rreadsF k mb own n) ∧ Below w.heap.size w W) (fun _ s9 _ _ => N - (intOf s9).toNat)
  case atStart => exact ⟨0, by omega, rfl, OwnI.nil _ _, Below.refl _ _⟩
  case round =>
    obtain ⟨n, hn, rfl, hs, hbw⟩ := hrel
    have HBW := hide hbw; have HS := hide hs; have HX := hide (X.out.below hbw)
    have c0 : wr.cell? ⟨wb, 0, none⟩ = some (.int .i64 (N : Int)) := by rw [← hN]; exact HX.out.c0
    clear hbw hs
    by_cases hlt : n < N
    · have HNL := hide (show n + 1 ≤ N by omega)
      have HST := hide (rreads_step k mb own n)
      have c13 := HX.out.c13
      have c14 := HX.out.c14
      have cr := HX.out.rcell (n := n) (by omega)
      have ch := HX.out.hcell (n := n) (by omega)
      have HLn : Hid ((rreadsF k mb own n).length + 1 ≤ 100000) := by show _ ≤ _; have := rreads_len k mb own n; omega
      have hnR : n < k.R.length := by omega
      have hnH : n < k.H.length := by omega
      have hz := HBW.out.size
      go_wp2_with fail
      refine (HI.out n _ (by omega)).mono ?_
      rintro e w1 ⟨rfl, hw1⟩
      subst hw1
      have HV : Hid (rvalF k mb own n = if isM mb n then (if (n : Int) = own then some 0 else if k.H.getD n false then some (k.R.getD n 0) else none) else none) := rfl
      generalize isM mb n = is at HV ⊢
      generalize k.H.getD n false = hd at HV ch
      generalize k.R.getD n 0 = z at HV cr
      cases is
      · have HT : Hid (rreadsF k mb own (n + 1) = rreadsF k mb own n) := by
          show _ = _
          rw [HST.out, HV.out]; simp
        clear HST HV c13 c14 cr ch
        go_wp2_with fail
        go_roundw
        case rel => exact ⟨n + 1, HNL.out, by go_num, by rw [HT.out]; exact HS.out, HBW.out⟩
        case measure => have := HNL.out; simp [intOf]; omega
      · by_cases ho : (n : Int) = own
        · have hob : ((n : Int) == own) = true := by simpa using ho
          have HT : Hid (rreadsF k mb own (n + 1) = rreadsF k mb own n ++ [0]) := by
            show _ = _
            rw [HST.out, HV.out, if_pos rfl, if_pos ho]; rfl
          have HS2 := hide (HS.out.below (bal w1 (.cells #[.int .i64 0] 3)) (Nat.le_refl _))
          have HO1 := hide (SrcI.one w1 0)
          have hz2 : w.heap.size ≤ (w1.alloc (.cells #[.int .i64 0] 3)).heap.size := Nat.le_trans hz (bal w1 _).size
          have hln := HLn.out
          clear HST HV c13 c14 cr ch ho
          go_wp2_with (refine wpList_ontoI rfl (.tmp 29) (.tmp 30) rfl w.heap.size _ _ (rreadsF k mb own n) [0] rfl rfl HS2.out HO1.out hln hz2 ?_; intro v' W2 hv' hb2; have HV2 := hide hv'; have HB2 := hide hb2; clear hv' hb2)
          have HBf := hide (HBW.out.trans (((bal w1 (.cells #[.int .i64 0] 3)).mono hz).trans HB2.out))
          go_roundw
          case rel => exact ⟨n + 1, HNL.out, by go_num, by rw [HT.out]; exact HV2.out, HBf.out⟩
          case measure => have := HNL.out; simp [intOf]; omega
        · have hob : ((n : Int) == own) = false := by simpa using ho
          cases hd
          · have HT : Hid (rreadsF k mb own (n + 1) = rreadsF k mb own n) := by
              show _ = _
              rw [HST.out, HV.out, if_pos rfl, if_neg ho]; simp
            clear HST HV cr ho
            go_wp2_with fail
            go_roundw
            case rel => exact ⟨n + 1, HNL.out, by go_num, by rw [HT.out]; exact HS.out, HBW.out⟩
            case measure => have := HNL.out; simp [intOf]; omega
          · have HT : Hid (rreadsF k mb own (n + 1) = rreadsF k mb own n ++ [z]) := by
              show _ = _
              rw [HST.out, HV.out, if_pos rfl, if_neg ho, if_pos rfl]; rfl
            have HS2 := hide (HS.out.below (bal w1 (.cells #[.int .i64 z] 3)) (Nat.le_refl _))
            have HO1 := hide (SrcI.one w1 z)
            have hz2 : w.heap.size ≤ (w1.alloc (.cells #[.int .i64 z] 3)).heap.size := Nat.le_trans hz (bal w1 _).size
            have hln := HLn.out
            clear HST HV ho
            go_wp2_with (refine wpList_ontoI rfl (.tmp 42) (.tmp 50) rfl w.heap.size _ _ (rreadsF k mb own n) [z] rfl rfl HS2.out HO1.out hln hz2 ?_; intro v' W2 hv' hb2; have HV2 := hide hv'; have HB2 := hide hb2; clear hv' hb2)
            have HBf := hide (HBW.out.trans (((bal w1 (.cells #[.int .i64 z] 3)).mono hz).trans HB2.out))
            go_roundw
            case rel => exact ⟨n + 1, HNL.out, by go_num, by rw [HT.out]; exact HV2.out, HBf.out⟩
            case measure => have := HNL.out; simp [intOf]; omega
    · obtain rfl : n = N := by omega
      have HMd := hide (middle_at _ _ _ wr (Nat.le_trans (rreads_len k mb own n) (by omega)) HS.out HR.out)
      have HB := hide HBW.out
      have hzf := HBW.out.size
      clear HS HX HBW
      go_wp2_with fail
      refine HMd.out.mono ?_
      rintro e w2 ⟨rfl, hb2⟩
      have HBf := hide (HB.out.trans (hb2.mono hzf))
      clear hb2
      go_wp2
      go_ret2
      exact ⟨rfl, HBf.out⟩

set_option maxRecDepth 100000 in
set_option maxHeartbeats 2000000 in
theorem rround_at {wb rb hb : Nat} {k : Rk} {w : World} (x : RkAt w wb rb hb k) (mb own : Int) (N : Nat) (hN : k.nodes = N) (hN16 : N ≤ 16) (hR : k.R.length = N) (hH : k.H.length = N) (hmb : 0 ≤ mb ∧ mb < 65536) (hr : ∀ z ∈ rreadsF k mb own N, -2199023255552 ≤ z ∧ z ≤ 2199023255552)
    (ho : -ckEnd ≤ k.off ∧ k.off ≤ ckEnd) (hd : 0 ≤ k.bound ∧ k.bound ≤ ckEnd) :
    Calls Tryd.prog 71 #[.pointer (some ⟨wb, 0, none⟩), .int .u16 mb, .int .i64 own] w fun e w' => e = .returned (.int .i64 (cutF (avg (rreadsF k mb own N)) (-k.bound) k.bound)) ∧ Ud [wb] w w' ∧ ∃ hb', w.heap.size ≤ hb' ∧
      RkAt w' wb rb hb' { k with off := cutF (k.off + cutF (avg (rreadsF k mb own N)) (-k.bound) k.bound) (-ckEnd) ckEnd, H := List.replicate N false } := by
  have h0 : ckEnd = 1099511627776 := rfl
  have HA := hide (raverage_at x mb own N hN hN16 hR hH hmb hr)
  have X := hide x
  have hq := cutF_range (avg (rreadsF k mb own N)) (show -k.bound ≤ k.bound by omega)
  have HC1 := hide (fun W => rcut_at (avg (rreadsF k mb own N)) k.bound W (by omega))
  generalize avg (rreadsF k mb own N) = av at HA hq HC1 ⊢
  generalize cutF av (-k.bound) k.bound = q at hq HC1 ⊢
  have hw : IntKind.i64.wrap (k.off + q) = k.off + q := by rw [IntKind.wrap_i64]; omega
  have HC2 := hide (fun W => rcut_at (k.off + q) 1099511627776 W (by omega))
  have HE := hide (show cutF (k.off + q) (-1099511627776) 1099511627776 = cutF (k.off + q) (-ckEnd) ckEnd from rfl)
  rw [HE.out] at HC2
  generalize cutF (k.off + q) (-ckEnd) ckEnd = r at HC2 ⊢
  clear x hr ho hd h0 HE hq
  go_enter Tryd.func71, Tryd.ntmps71
  go_wp2_with fail
  refine HA.out.mono ?_
  rintro e w1 ⟨rfl, hb1⟩
  have HX1 := hide (X.out.below hb1); have HB1 := hide hb1
  clear hb1 X HA
  have c5 := HX1.out.c5
  go_wp2_with fail
  refine (HC1.out _).mono ?_
  rintro e w2 ⟨rfl, hw2⟩
  subst hw2
  clear c5 HC1
  have c12 := HX1.out.c12
  have f12 := HX1.out.free 12
  go_wp2_with fail
  refine (HC2.out _).mono ?_
  rintro e w3 ⟨rfl, hw3⟩
  subst hw3
  clear HC2
  have HX2 := hide (HX1.out.setOff r)
  have HU2 : Hid (Ud [wb] w (w3.setCell ⟨wb, 12, none⟩ (.int .i64 r))) := (Ud.of_below HB1.out).trans (Ud.set _ (by simp) _)
  have c0 := HX2.out.c0
  dsimp only at c0
  rw [hN] at c0
  have HX3 := hide (HX2.out.newH (List.replicate N false))
  have HU3 := hide ((HU2.out.trans (Ud.of_below (bal (w3.setCell ⟨wb, 12, none⟩ (.int .i64 r)) (.cells (bools (List.replicate N false)) 4)))).trans (Ud.set (k := 14) _ (show wb ∈ [wb] by simp) (.slice (some ⟨(w3.setCell ⟨wb, 12, none⟩ (.int .i64 r)).heap.size, 0, none⟩) (List.replicate N false).length (List.replicate N false).length)))
  have hmk := make_bl N (by omega) (w3.setCell ⟨wb, 12, none⟩ (.int .i64 r))
  have c14 : ((w3.setCell ⟨wb, 12, none⟩ (.int .i64 r)).alloc (.cells (bools (List.replicate N false)) 4)).cell? ⟨wb, 14, none⟩ = some (.slice (some ⟨hb, 0, none⟩) k.H.length k.H.length) := (HX2.out.below (bal _ _)).c14
  have f14 : ((w3.setCell ⟨wb, 12, none⟩ (.int .i64 r)).alloc (.cells (bools (List.replicate N false)) 4)).frozen? ⟨wb, 14, none⟩ = false := (HX2.out.below (bal _ _)).free 14
  have HZ := hide (Nat.le_trans HB1.out.size (Nat.le_of_eq (set_size w3 ⟨wb, 12, none⟩ (.int .i64 r)).symm))
  rw [List.length_replicate] at HU3
  have HL := hide (List.length_replicate (n := N) (a := false))
  go_upto_region 4 with fail
  clear c12 f12
  generalize w3.setCell ⟨wb, 12, none⟩ (.int .i64 r) = w4 at *
  go_wp2
  go_ret
  refine ⟨rfl, HU3.out, _, HZ.out, ?_⟩
  have h3 := HX3.out
  rw [HL.out] at h3
  exact h3
end Go.Proofs.YtbeggdahbhfhpaaDoor
namespace Go.Proofs.YtbeggdahbhfhpaaDoor
open Go.RowKit Go.Deep
set_option linter.unusedVariables false
set_option linter.unusedSimpArgs false

set_option maxRecDepth 100000 in
theorem set_bad {g : Nat} {k : Ck} {w : World} (x : CkAt w g k) (z : Int) (h : ¬(-ckEnd ≤ z ∧ z ≤ ckEnd)) : Calls Tryd.prog 58 #[.pointer (some ⟨g, 0, none⟩), .int .i64 z] w fun e w' => e = .returned (.int .i64 2) ∧ w' = w := by
  have hmade := cmade_at g w (x.cell 0 _ rfl)
  have h0 : ckEnd = 1099511627776 := rfl
  clear x
  by_cases h1 : z < -1099511627776
  · have d1 : decide (z < -1099511627776) = true := decide_eq_true h1
    go_enter Tryd.func58, Tryd.ntmps58
    go_wp2_with fail
    refine hmade.mono ?_
    rintro e w' ⟨rfl, rfl⟩
    go_wp2
    go_ret
    exact ⟨rfl, rfl⟩
  · have d1 : decide (z < -1099511627776) = false := decide_eq_false h1
    have h2 : (1099511627776 : Int) < z := by omega
    have d2 : decide ((1099511627776 : Int) < z) = true := decide_eq_true h2
    go_enter Tryd.func58, Tryd.ntmps58
    go_wp2_with fail
    refine hmade.mono ?_
    rintro e w' ⟨rfl, rfl⟩
    go_wp2
    go_ret
    exact ⟨rfl, rfl⟩
set_option maxRecDepth 100000 in
set_option maxHeartbeats 1000000 in
theorem hear_bad {g : Nat} {k : Ck} {w : World} (x : CkAt w g k) (n z : Int) (h : ¬(0 ≤ n ∧ n < k.nodes ∧ -2199023255552 ≤ z ∧ z ≤ 2199023255552)) :
    Calls Tryd.prog 66 #[.pointer (some ⟨g, 0, none⟩), .int .i64 n, .int .i64 z] w fun v w' => v = .returned (.int .i64 2) ∧ w' = w := by
  have hmade := cmade_at g w (x.cell 0 _ rfl)
  have c1 : w.cell? ⟨g, 1, none⟩ = some (.int .i64 k.nodes) := x.cell 1 _ rfl
  clear x
  obtain ⟨nodes, drift, reading, margin, bound, off, rd⟩ := k
  dsimp only at *
  by_cases h1 : n < 0
  · have d1 : decide (n < 0) = true := decide_eq_true h1
    clear h
    go_enter Tryd.func66, Tryd.ntmps66
    go_wp2_with fail
    refine hmade.mono ?_
    rintro e w' ⟨rfl, rfl⟩
    go_wp2
    go_ret
    exact ⟨rfl, rfl⟩
  · have d1 : decide (n < 0) = false := decide_eq_false h1
    by_cases h2 : nodes ≤ n
    · have d2 : decide (nodes ≤ n) = true := decide_eq_true h2
      clear h
      go_enter Tryd.func66, Tryd.ntmps66
      go_wp2_with fail
      refine hmade.mono ?_
      rintro e w' ⟨rfl, rfl⟩
      go_wp2
      go_ret
      exact ⟨rfl, rfl⟩
    · have d2 : decide (nodes ≤ n) = false := decide_eq_false h2
      by_cases h3 : z < -2199023255552
      · have d3 : decide (z < -2199023255552) = true := decide_eq_true h3
        clear h
        go_enter Tryd.func66, Tryd.ntmps66
        go_wp2_with fail
        refine hmade.mono ?_
        rintro e w' ⟨rfl, rfl⟩
        go_wp2
        go_ret
        exact ⟨rfl, rfl⟩
      · have d3 : decide (z < -2199023255552) = false := decide_eq_false h3
        have h4 : (2199023255552 : Int) < z := by omega
        have d4 : decide ((2199023255552 : Int) < z) = true := decide_eq_true h4
        clear h
        go_enter Tryd.func66, Tryd.ntmps66
        go_wp2_with fail
        refine hmade.mono ?_
        rintro e w' ⟨rfl, rfl⟩
        go_wp2
        go_ret
        exact ⟨rfl, rfl⟩

/-- what both know -/
structure Same2 (k : Ck) (r : Rk) (N : Nat) : Prop where
  kn : k.nodes = N
  rn : r.nodes = N
  n16 : N ≤ 16
  R : r.R.length = N
  H : r.H.length = N
  drift : r.drift = k.drift
  reading : r.reading = k.reading
  margin : r.margin = k.margin
  bound : r.bound = k.bound
  off : r.off = k.off
  d1 : 0 ≤ k.drift ∧ k.drift ≤ ckEnd
  d2 : 0 ≤ k.reading ∧ k.reading ≤ ckEnd
  d3 : 0 ≤ k.margin ∧ k.margin ≤ ckEnd
  d4 : 0 ≤ k.bound ∧ k.bound ≤ ckEnd
  o : -ckEnd ≤ k.off ∧ k.off ≤ ckEnd
  rl : k.rd.length = 16
  sm : ∀ n, n < N → (k.rd.getD n default).2 = r.H.getD n false ∧ (r.H.getD n false = true → (k.rd.getD n default).1 = r.R.getD n 0 ∧ -2199023255552 ≤ r.R.getD n 0 ∧ r.R.getD n 0 ≤ 2199023255552)
theorem Same2.val {k : Ck} {r : Rk} {N : Nat} (s : Same2 k r N) (mb own : Int) (n : Nat) (hn : n < N) : valF k mb own n = rvalF r mb own n := by
  obtain ⟨h1, h2⟩ := s.sm n hn
  unfold valF rvalF
  rw [h1]
  split
  · split
    · rfl
    · split
      · rename_i hh
        rw [(h2 hh).1]
      · rfl
  · rfl
theorem fm_congr {α β : Type} {f g : α → Option β} : ∀ {l : List α}, (∀ x ∈ l, f x = g x) → l.filterMap f = l.filterMap g
  | [], _ => rfl
  | x :: l, h => by
    rw [List.filterMap_cons, List.filterMap_cons, h x (List.mem_cons_self ..), fm_congr fun y hy => h y (List.mem_cons_of_mem _ hy)]
theorem Same2.reads {k : Ck} {r : Rk} {N : Nat} (s : Same2 k r N) (mb own : Int) : readsF k mb own = rreadsF r mb own N := by
  unfold readsF rreadsF
  rw [s.kn, Int.toNat_natCast]
  exact fm_congr fun n hn => s.val mb own n (List.mem_range.1 hn)
theorem Same2.range {k : Ck} {r : Rk} {N : Nat} (s : Same2 k r N) (mb own : Int) : ∀ z ∈ rreadsF r mb own N, -2199023255552 ≤ z ∧ z ≤ 2199023255552 := fun z hz => by
  obtain ⟨n, hn, he⟩ := List.mem_filterMap.1 hz
  have hn := List.mem_range.1 hn
  unfold rvalF at he
  split at he
  · split at he
    · cases he; omega
    · split at he
      · rename_i hh
        cases he
        exact ((s.sm n hn).2 hh).2
      · cases he
  · cases he
theorem Same2.setOff {k : Ck} {r : Rk} {N : Nat} (s : Same2 k r N) (z : Int) (h : -ckEnd ≤ z ∧ z ≤ ckEnd) : Same2 { k with off := z } { r with off := z } N :=
  { s with off := rfl, o := h }
theorem Same2.heard {k : Ck} {r : Rk} {N : Nat} (s : Same2 k r N) (n : Nat) (hn : n < N) (z : Int) (hz : -2199023255552 ≤ z ∧ z ≤ 2199023255552) : Same2 { k with rd := k.rd.set n (z, true) } { r with R := r.R.set n z, H := r.H.set n true } N := by
  refine { s with R := by simpa using s.R, H := by simpa using s.H, rl := by simpa using s.rl, sm := fun j hj => ?_ }
  have h1 := s.R; have h2 := s.H; have h3 := s.rl; have h4 := s.n16
  simp only [List.getD_eq_getElem?_getD, List.getElem?_set]
  by_cases e : n = j
  · subst e
    simp only [if_pos, if_pos (show n < k.rd.length by omega), if_pos (show n < r.H.length by omega), if_pos (show n < r.R.length by omega), Option.getD_some]
    exact ⟨trivial, fun _ => ⟨trivial, hz⟩⟩
  · simp only [if_neg e]
    have := s.sm j hj
    simpa only [List.getD_eq_getElem?_getD] using this
theorem Same2.fresh {k : Ck} {r : Rk} {N : Nat} (s : Same2 k r N) (z : Int) (h : -ckEnd ≤ z ∧ z ≤ ckEnd) : Same2 { k with off := z, rd := zero16 } { r with off := z, H := List.replicate N false } N := by
  refine { s with off := rfl, o := h, H := List.length_replicate, rl := rfl, sm := fun j hj => ?_ }
  have h4 := s.n16
  have e1 : (zero16.getD j default).2 = false := by
    unfold zero16
    rw [List.getD_eq_getElem?_getD, List.getElem?_replicate, if_pos (by omega)]; rfl
  have e2 : (List.replicate N false).getD j false = false := by
    rw [List.getD_eq_getElem?_getD, List.getElem?_replicate, if_pos hj]; rfl
  exact ⟨e1.trans e2.symm, fun e => by rw [e2] at e; cases e⟩

/-- both, in memory: behind B -/
structure Bo2 (W : World) (B g wb rb hb : Nat) (k : Ck) (r : Rk) (N : Nat) : Prop where
  a : CkAt W g k
  b : RkAt W wb rb hb r
  s : Same2 k r N
  n1 : g ≠ wb
  n2 : g ≠ rb
  n3 : g ≠ hb
  l1 : B ≤ g
  l2 : B ≤ wb
  l3 : B ≤ rb
  l4 : B ≤ hb
section
variable {W W' : World} {B g wb rb hb : Nat} {k k' : Ck} {r r' : Rk} {N : Nat}
theorem Bo2.size (x : Bo2 W B g wb rb hb k r N) : B ≤ W.heap.size := Nat.le_trans x.l1 (Nat.le_of_lt x.a.lt)
theorem Bo2.below (x : Bo2 W B g wb rb hb k r N) (h : Below W.heap.size W W') : Bo2 W' B g wb rb hb k r N :=
  ⟨x.a.below h, x.b.below h, x.s, x.n1, x.n2, x.n3, x.l1, x.l2, x.l3, x.l4⟩
theorem RkAt.upd {g : Nat} (x : RkAt W wb rb hb r) (u : Upd g W W') (h1 : g ≠ wb) (h2 : g ≠ rb) (h3 : g ≠ hb) : RkAt W' wb rb hb r :=
  x.kept u.siz (u.blk _ x.lt h1.symm) (u.blk _ x.rlt h2.symm) (u.blk _ x.hlt h3.symm)
theorem Upd.low {g B : Nat} (u : Upd g W W') (h : B ≤ g) : Below B W W' := u.bel.mono h
theorem CkAt.ud {S : List Nat} (x : CkAt W g k) (u : Ud S W W') (h : g ∉ S) : CkAt W' g k := x.kept (u.blk _ x.lt h)
end
end Go.Proofs.YtbeggdahbhfhpaaDoor
namespace Go.Proofs.YtbeggdahbhfhpaaDoor
open Go.RowKit Go.Deep
set_option linter.unusedVariables false
set_option linter.unusedSimpArgs false

def StepPost (w : World) (B g wb rb : Nat) (N : Nat) (e : Ending) (w' : World) : Prop := e = .returned (.bool true) ∧ Below B w w' ∧ ∃ hb k r, Bo2 w' B g wb rb hb k r N

set_option maxRecDepth 100000 in
set_option maxHeartbeats 2000000 in
theorem step0 {w : World} {B g wb rb hb : Nat} {k : Ck} {r : Rk} {N : Nat} (x : Bo2 w B g wb rb hb k r N) (a b mb : Int) (h : -ckEnd ≤ a ∧ a ≤ ckEnd) (hmb : 0 ≤ mb ∧ mb < 65536) :
    Calls Tryd.prog 24 #[.pointer (some ⟨g, 0, none⟩), .pointer (some ⟨wb, 0, none⟩), .agg #[.int .i64 0, .int .i64 a, .int .i64 b, .int .u16 mb]] w (StepPost w B g wb rb N) := by
  have hb1 := bal w (.cells #[.int .i64 0, .int .i64 a, .int .i64 b, .int .u16 mb] 85)
  have HX := hide (x.below hb1)
  have HLow := hide ((Below.refl B w).trans (hb1.mono x.size))
  have HXB := hide (heap_alloc_new w (.cells #[.int .i64 0, .int .i64 a, .int .i64 b, .int .u16 mb] 85))
  have HPo : Hid (∀ e w', StepPost w B g wb rb N e w' ↔ e = .returned (.bool true) ∧ Below B w w' ∧ ∃ hb k r, Bo2 w' B g wb rb hb k r N) := fun _ _ => Iff.rfl
  have hgx : w.heap.size ≠ g := Nat.ne_of_gt x.a.lt
  generalize StepPost w B g wb rb N = PP at HPo ⊢
  clear hb1 x
  go_enter Tryd.func24, Tryd.ntmps24
  go_upto_region 1 with fail
  generalize w.alloc (.cells #[.int .i64 0, .int .i64 a, .int .i64 b, .int .u16 mb] 85) = w1 at HX HLow HXB ⊢
  generalize w.heap.size = xb at HXB hgx ⊢
  have k0 : w1.cell? ⟨xb, 0, none⟩ = some (.int .i64 0) := (cell_row HXB.out).trans rfl
  have k1 : w1.cell? ⟨xb, 1, none⟩ = some (.int .i64 a) := (cell_row HXB.out).trans rfl
  have k2 : w1.cell? ⟨xb, 2, none⟩ = some (.int .i64 b) := (cell_row HXB.out).trans rfl
  have k3 : w1.cell? ⟨xb, 3, none⟩ = some (.int .u16 mb) := (cell_row HXB.out).trans rfl
  go_wp2_with fail
  refine (set_at HX.out.a a h).mono ?_
  rintro e w2 ⟨rfl, hu, hc⟩
  have HU := hide hu; have HC := hide hc
  have HXB2 := hide ((hu.blk xb (Array.getElem?_eq_some_iff.1 HXB.out).1 hgx).trans HXB.out)
  clear hu hc
  clear k0 k1 k2 k3
  have HR := hide (HX.out.b.upd HU.out HX.out.n1 HX.out.n2 HX.out.n3)
  clear HXB
  have HXB := HXB2
  have k0 : w2.cell? ⟨xb, 0, none⟩ = some (.int .i64 0) := (cell_row HXB.out).trans rfl
  have k1 : w2.cell? ⟨xb, 1, none⟩ = some (.int .i64 a) := (cell_row HXB.out).trans rfl
  have k2 : w2.cell? ⟨xb, 2, none⟩ = some (.int .i64 b) := (cell_row HXB.out).trans rfl
  have k3 : w2.cell? ⟨xb, 3, none⟩ = some (.int .u16 mb) := (cell_row HXB.out).trans rfl
  go_wp2_with fail
  refine (rset_at HR.out a h).mono ?_
  rintro e w3 ⟨rfl, hu2, hr2⟩
  have HU2 := hide hu2; have HR2 := hide hr2
  clear hu2 hr2
  clear k0 k1 k2 k3
  go_wp2
  refine (HPo.out _ _).2 ⟨rfl, (HLow.out.trans (HU.out.low HX.out.l1)).trans (HU2.out.below (by simpa using HX.out.l2) (Nat.le_trans HX.out.size HU.out.siz)), hb, _, _, HC.out.ud HU2.out (by simpa using HX.out.n1), HR2.out, HX.out.s.setOff a h, HX.out.n1, HX.out.n2, HX.out.n3, HX.out.l1, HX.out.l2, HX.out.l3, HX.out.l4⟩

set_option maxRecDepth 100000 in
set_option maxHeartbeats 2000000 in
theorem step0b {w : World} {B g wb rb hb : Nat} {k : Ck} {r : Rk} {N : Nat} (x : Bo2 w B g wb rb hb k r N) (a b mb : Int) (h : ¬(-ckEnd ≤ a ∧ a ≤ ckEnd)) (hmb : 0 ≤ mb ∧ mb < 65536) :
    Calls Tryd.prog 24 #[.pointer (some ⟨g, 0, none⟩), .pointer (some ⟨wb, 0, none⟩), .agg #[.int .i64 0, .int .i64 a, .int .i64 b, .int .u16 mb]] w (StepPost w B g wb rb N) := by
  have hb1 := bal w (.cells #[.int .i64 0, .int .i64 a, .int .i64 b, .int .u16 mb] 85)
  have HX := hide (x.below hb1)
  have HLow := hide ((Below.refl B w).trans (hb1.mono x.size))
  have HXB := hide (heap_alloc_new w (.cells #[.int .i64 0, .int .i64 a, .int .i64 b, .int .u16 mb] 85))
  have HPo : Hid (∀ e w', StepPost w B g wb rb N e w' ↔ e = .returned (.bool true) ∧ Below B w w' ∧ ∃ hb k r, Bo2 w' B g wb rb hb k r N) := fun _ _ => Iff.rfl
  have hgx : w.heap.size ≠ g := Nat.ne_of_gt x.a.lt
  generalize StepPost w B g wb rb N = PP at HPo ⊢
  clear hb1 x
  go_enter Tryd.func24, Tryd.ntmps24
  go_upto_region 1 with fail
  generalize w.alloc (.cells #[.int .i64 0, .int .i64 a, .int .i64 b, .int .u16 mb] 85) = w1 at HX HLow HXB ⊢
  generalize w.heap.size = xb at HXB hgx ⊢
  have k0 : w1.cell? ⟨xb, 0, none⟩ = some (.int .i64 0) := (cell_row HXB.out).trans rfl
  have k1 : w1.cell? ⟨xb, 1, none⟩ = some (.int .i64 a) := (cell_row HXB.out).trans rfl
  have k2 : w1.cell? ⟨xb, 2, none⟩ = some (.int .i64 b) := (cell_row HXB.out).trans rfl
  have k3 : w1.cell? ⟨xb, 3, none⟩ = some (.int .u16 mb) := (cell_row HXB.out).trans rfl
  go_wp2_with fail
  refine (set_bad HX.out.a a h).mono ?_
  rintro e w2 ⟨rfl, hw⟩
  subst hw
  clear k0 k1 k2 k3
  have k0 : w2.cell? ⟨xb, 0, none⟩ = some (.int .i64 0) := (cell_row HXB.out).trans rfl
  have k1 : w2.cell? ⟨xb, 1, none⟩ = some (.int .i64 a) := (cell_row HXB.out).trans rfl
  have k2 : w2.cell? ⟨xb, 2, none⟩ = some (.int .i64 b) := (cell_row HXB.out).trans rfl
  have k3 : w2.cell? ⟨xb, 3, none⟩ = some (.int .u16 mb) := (cell_row HXB.out).trans rfl
  go_wp2_with fail
  refine (rset_bad a h).mono ?_
  rintro e w3 ⟨rfl, hw⟩
  subst hw
  clear k0 k1 k2 k3
  go_wp2
  exact (HPo.out _ _).2 ⟨rfl, HLow.out, hb, _, _, HX.out⟩

set_option maxRecDepth 100000 in
set_option maxHeartbeats 2000000 in
theorem step1 {w : World} {B g wb rb hb : Nat} {k : Ck} {r : Rk} {N : Nat} (x : Bo2 w B g wb rb hb k r N) (a b mb : Int) (hmb : 0 ≤ mb ∧ mb < 65536) :
    Calls Tryd.prog 24 #[.pointer (some ⟨g, 0, none⟩), .pointer (some ⟨wb, 0, none⟩), .agg #[.int .i64 1, .int .i64 a, .int .i64 b, .int .u16 mb]] w (StepPost w B g wb rb N) := by
  have hb1 := bal w (.cells #[.int .i64 1, .int .i64 a, .int .i64 b, .int .u16 mb] 85)
  have HX := hide (x.below hb1)
  have HLow := hide ((Below.refl B w).trans (hb1.mono x.size))
  have HXB := hide (heap_alloc_new w (.cells #[.int .i64 1, .int .i64 a, .int .i64 b, .int .u16 mb] 85))
  have HPo : Hid (∀ e w', StepPost w B g wb rb N e w' ↔ e = .returned (.bool true) ∧ Below B w w' ∧ ∃ hb k r, Bo2 w' B g wb rb hb k r N) := fun _ _ => Iff.rfl
  have hgx : w.heap.size ≠ g := Nat.ne_of_gt x.a.lt
  generalize StepPost w B g wb rb N = PP at HPo ⊢
  clear hb1 x
  go_enter Tryd.func24, Tryd.ntmps24
  go_upto_region 1 with fail
  generalize w.alloc (.cells #[.int .i64 1, .int .i64 a, .int .i64 b, .int .u16 mb] 85) = w1 at HX HLow HXB ⊢
  generalize w.heap.size = xb at HXB hgx ⊢
  have k0 : w1.cell? ⟨xb, 0, none⟩ = some (.int .i64 1) := (cell_row HXB.out).trans rfl
  have k1 : w1.cell? ⟨xb, 1, none⟩ = some (.int .i64 a) := (cell_row HXB.out).trans rfl
  have k2 : w1.cell? ⟨xb, 2, none⟩ = some (.int .i64 b) := (cell_row HXB.out).trans rfl
  have k3 : w1.cell? ⟨xb, 3, none⟩ = some (.int .u16 mb) := (cell_row HXB.out).trans rfl
  go_wp2_with fail
  refine (drift_at HX.out.a a HX.out.s.o HX.out.s.d1).mono ?_
  rintro e w2 ⟨rfl, hu, hc⟩
  have HU := hide hu; have HC := hide hc
  have HXB2 := hide ((hu.blk xb (Array.getElem?_eq_some_iff.1 HXB.out).1 hgx).trans HXB.out)
  clear hu hc
  clear k0 k1 k2 k3
  have HR := hide (HX.out.b.upd HU.out HX.out.n1 HX.out.n2 HX.out.n3)
  clear HXB
  have HXB := HXB2
  have HOo := hide HX.out.s.o; have HOd := hide HX.out.s.d1
  have k0 : w2.cell? ⟨xb, 0, none⟩ = some (.int .i64 1) := (cell_row HXB.out).trans rfl
  have k1 : w2.cell? ⟨xb, 1, none⟩ = some (.int .i64 a) := (cell_row HXB.out).trans rfl
  have k2 : w2.cell? ⟨xb, 2, none⟩ = some (.int .i64 b) := (cell_row HXB.out).trans rfl
  have k3 : w2.cell? ⟨xb, 3, none⟩ = some (.int .u16 mb) := (cell_row HXB.out).trans rfl
  go_wp2_with fail
  refine (rdrift_at HR.out a (by rw [HX.out.s.off]; exact HX.out.s.o) (by rw [HX.out.s.drift]; exact HX.out.s.d1)).mono ?_
  rintro e w3 ⟨rfl, hu2, hr2⟩
  rw [show cutF (r.off + cutF a (-r.drift) r.drift) (-ckEnd) ckEnd = cutF (k.off + cutF a (-k.drift) k.drift) (-ckEnd) ckEnd by rw [HX.out.s.off, HX.out.s.drift]] at hr2
  have HU2 := hide hu2; have HR2 := hide hr2
  clear hu2 hr2
  clear k0 k1 k2 k3
  go_wp2
  have h0 : ckEnd = 1099511627776 := rfl
  refine (HPo.out _ _).2 ⟨rfl, (HLow.out.trans (HU.out.low HX.out.l1)).trans (HU2.out.below (by simpa using HX.out.l2) (Nat.le_trans HX.out.size HU.out.siz)), hb, _, _, HC.out.ud HU2.out (by simpa using HX.out.n1), HR2.out, HX.out.s.setOff _ (cutF_range _ (by omega)), HX.out.n1, HX.out.n2, HX.out.n3, HX.out.l1, HX.out.l2, HX.out.l3, HX.out.l4⟩

set_option maxRecDepth 100000 in
set_option maxHeartbeats 2000000 in
theorem step2 {w : World} {B g wb rb hb : Nat} {k : Ck} {r : Rk} {N : Nat} (x : Bo2 w B g wb rb hb k r N) (a b mb : Int) (hmb : 0 ≤ mb ∧ mb < 65536) :
    Calls Tryd.prog 24 #[.pointer (some ⟨g, 0, none⟩), .pointer (some ⟨wb, 0, none⟩), .agg #[.int .i64 2, .int .i64 a, .int .i64 b, .int .u16 mb]] w (StepPost w B g wb rb N) := by
  have hb1 := bal w (.cells #[.int .i64 2, .int .i64 a, .int .i64 b, .int .u16 mb] 85)
  have HX := hide (x.below hb1)
  have HLow := hide ((Below.refl B w).trans (hb1.mono x.size))
  have HXB := hide (heap_alloc_new w (.cells #[.int .i64 2, .int .i64 a, .int .i64 b, .int .u16 mb] 85))
  have HPo : Hid (∀ e w', StepPost w B g wb rb N e w' ↔ e = .returned (.bool true) ∧ Below B w w' ∧ ∃ hb k r, Bo2 w' B g wb rb hb k r N) := fun _ _ => Iff.rfl
  have hgx : w.heap.size ≠ g := Nat.ne_of_gt x.a.lt
  generalize StepPost w B g wb rb N = PP at HPo ⊢
  clear hb1 x
  go_enter Tryd.func24, Tryd.ntmps24
  go_upto_region 1 with fail
  generalize w.alloc (.cells #[.int .i64 2, .int .i64 a, .int .i64 b, .int .u16 mb] 85) = w1 at HX HLow HXB ⊢
  generalize w.heap.size = xb at HXB hgx ⊢
  have k0 : w1.cell? ⟨xb, 0, none⟩ = some (.int .i64 2) := (cell_row HXB.out).trans rfl
  have k1 : w1.cell? ⟨xb, 1, none⟩ = some (.int .i64 a) := (cell_row HXB.out).trans rfl
  have k2 : w1.cell? ⟨xb, 2, none⟩ = some (.int .i64 b) := (cell_row HXB.out).trans rfl
  have k3 : w1.cell? ⟨xb, 3, none⟩ = some (.int .u16 mb) := (cell_row HXB.out).trans rfl
  go_wp2_with fail
  refine (read_at HX.out.a a b HX.out.s.o HX.out.s.d2).mono ?_
  rintro e w2 ⟨rfl, m1, hw⟩
  have hbw : Below w1.heap.size w1 w2 := by rw [hw]; exact cdrewN (Below.refl _ _) m1
  clear hw
  have HX2 := hide (HX.out.below hbw)
  have HXB2 := hide ((hbw.block xb (Array.getElem?_eq_some_iff.1 HXB.out).1).trans HXB.out)
  have HB2 := hide (HLow.out.trans (hbw.mono HX.out.size))
  clear hbw
  clear k0 k1 k2 k3
  clear HXB
  have HXB := HXB2
  have k0 : w2.cell? ⟨xb, 0, none⟩ = some (.int .i64 2) := (cell_row HXB.out).trans rfl
  have k1 : w2.cell? ⟨xb, 1, none⟩ = some (.int .i64 a) := (cell_row HXB.out).trans rfl
  have k2 : w2.cell? ⟨xb, 2, none⟩ = some (.int .i64 b) := (cell_row HXB.out).trans rfl
  have k3 : w2.cell? ⟨xb, 3, none⟩ = some (.int .u16 mb) := (cell_row HXB.out).trans rfl
  go_wp2_with fail
  refine (rread_at HX2.out.b a b (by rw [HX2.out.s.off]; exact HX2.out.s.o) (by rw [HX2.out.s.reading]; exact HX2.out.s.d2)).mono ?_
  rintro e w3 ⟨rfl, m2, hw⟩
  have hbw : Below w2.heap.size w2 w3 := by rw [hw]; exact cdrewN (Below.refl _ _) m2
  clear hw
  have HX3 := hide (HX2.out.below hbw)
  have HB3 := hide (HB2.out.trans (hbw.mono HX2.out.size))
  rw [HX2.out.s.off, HX2.out.s.reading]
  generalize cutF a (-ckEnd) ckEnd - k.off + cutF b (-k.reading) k.reading = vv
  clear hbw
  clear k0 k1 k2 k3
  go_wp2
  exact (HPo.out _ _).2 ⟨rfl, HB3.out, hb, _, _, HX3.out⟩

set_option maxRecDepth 100000 in
set_option maxHeartbeats 2000000 in
theorem step3 {w : World} {B g wb rb hb : Nat} {k : Ck} {r : Rk} {N : Nat} (x : Bo2 w B g wb rb hb k r N) (a b mb : Int) (hmb : 0 ≤ mb ∧ mb < 65536) :
    Calls Tryd.prog 24 #[.pointer (some ⟨g, 0, none⟩), .pointer (some ⟨wb, 0, none⟩), .agg #[.int .i64 3, .int .i64 a, .int .i64 b, .int .u16 mb]] w (StepPost w B g wb rb N) := by
  have hb1 := bal w (.cells #[.int .i64 3, .int .i64 a, .int .i64 b, .int .u16 mb] 85)
  have HX := hide (x.below hb1)
  have HLow := hide ((Below.refl B w).trans (hb1.mono x.size))
  have HXB := hide (heap_alloc_new w (.cells #[.int .i64 3, .int .i64 a, .int .i64 b, .int .u16 mb] 85))
  have HPo : Hid (∀ e w', StepPost w B g wb rb N e w' ↔ e = .returned (.bool true) ∧ Below B w w' ∧ ∃ hb k r, Bo2 w' B g wb rb hb k r N) := fun _ _ => Iff.rfl
  have hgx : w.heap.size ≠ g := Nat.ne_of_gt x.a.lt
  generalize StepPost w B g wb rb N = PP at HPo ⊢
  clear hb1 x
  go_enter Tryd.func24, Tryd.ntmps24
  go_upto_region 1 with fail
  generalize w.alloc (.cells #[.int .i64 3, .int .i64 a, .int .i64 b, .int .u16 mb] 85) = w1 at HX HLow HXB ⊢
  generalize w.heap.size = xb at HXB hgx ⊢
  have k0 : w1.cell? ⟨xb, 0, none⟩ = some (.int .i64 3) := (cell_row HXB.out).trans rfl
  have k1 : w1.cell? ⟨xb, 1, none⟩ = some (.int .i64 a) := (cell_row HXB.out).trans rfl
  have k2 : w1.cell? ⟨xb, 2, none⟩ = some (.int .i64 b) := (cell_row HXB.out).trans rfl
  have k3 : w1.cell? ⟨xb, 3, none⟩ = some (.int .u16 mb) := (cell_row HXB.out).trans rfl
  go_wp2_with fail
  refine (fits_at HX.out.a a HX.out.s.d3).mono ?_
  rintro e w2 ⟨rfl, hw⟩
  subst hw
  clear k0 k1 k2 k3
  have k0 : w2.cell? ⟨xb, 0, none⟩ = some (.int .i64 3) := (cell_row HXB.out).trans rfl
  have k1 : w2.cell? ⟨xb, 1, none⟩ = some (.int .i64 a) := (cell_row HXB.out).trans rfl
  have k2 : w2.cell? ⟨xb, 2, none⟩ = some (.int .i64 b) := (cell_row HXB.out).trans rfl
  have k3 : w2.cell? ⟨xb, 3, none⟩ = some (.int .u16 mb) := (cell_row HXB.out).trans rfl
  go_wp2_with fail
  refine (rfits_at HX.out.b a (by rw [HX.out.s.margin]; exact HX.out.s.d3)).mono ?_
  rintro e w3 ⟨rfl, hw⟩
  subst hw
  rw [HX.out.s.margin]
  generalize (decide (-k.margin ≤ a) && decide (a ≤ k.margin)) = vv
  clear k0 k1 k2 k3
  go_wp2
  exact (HPo.out _ _).2 ⟨rfl, HLow.out, hb, _, _, HX.out⟩

set_option maxRecDepth 100000 in
set_option maxHeartbeats 2000000 in
theorem step4 {w : World} {B g wb rb hb : Nat} {k : Ck} {r : Rk} {N : Nat} (x : Bo2 w B g wb rb hb k r N) (n : Nat) (b mb : Int) (hn : n < N) (h : -2199023255552 ≤ b ∧ b ≤ 2199023255552) (hmb : 0 ≤ mb ∧ mb < 65536) :
    Calls Tryd.prog 24 #[.pointer (some ⟨g, 0, none⟩), .pointer (some ⟨wb, 0, none⟩), .agg #[.int .i64 4, .int .i64 (n : Int), .int .i64 b, .int .u16 mb]] w (StepPost w B g wb rb N) := by
  have hb1 := bal w (.cells #[.int .i64 4, .int .i64 (n : Int), .int .i64 b, .int .u16 mb] 85)
  have HX := hide (x.below hb1)
  have HLow := hide ((Below.refl B w).trans (hb1.mono x.size))
  have HXB := hide (heap_alloc_new w (.cells #[.int .i64 4, .int .i64 (n : Int), .int .i64 b, .int .u16 mb] 85))
  have HPo : Hid (∀ e w', StepPost w B g wb rb N e w' ↔ e = .returned (.bool true) ∧ Below B w w' ∧ ∃ hb k r, Bo2 w' B g wb rb hb k r N) := fun _ _ => Iff.rfl
  have hgx : w.heap.size ≠ g := Nat.ne_of_gt x.a.lt
  generalize StepPost w B g wb rb N = PP at HPo ⊢
  clear hb1 x
  go_enter Tryd.func24, Tryd.ntmps24
  go_upto_region 1 with fail
  generalize w.alloc (.cells #[.int .i64 4, .int .i64 (n : Int), .int .i64 b, .int .u16 mb] 85) = w1 at HX HLow HXB ⊢
  generalize w.heap.size = xb at HXB hgx ⊢
  have k0 : w1.cell? ⟨xb, 0, none⟩ = some (.int .i64 4) := (cell_row HXB.out).trans rfl
  have k1 : w1.cell? ⟨xb, 1, none⟩ = some (.int .i64 (n : Int)) := (cell_row HXB.out).trans rfl
  have k2 : w1.cell? ⟨xb, 2, none⟩ = some (.int .i64 b) := (cell_row HXB.out).trans rfl
  have k3 : w1.cell? ⟨xb, 3, none⟩ = some (.int .u16 mb) := (cell_row HXB.out).trans rfl
  go_wp2_with fail
  refine (hear_at HX.out.a n b (by rw [HX.out.s.kn]; have := HX.out.s.n16; omega) (by rw [HX.out.s.kn]; omega) h).mono ?_
  rintro e w2 ⟨rfl, hu, hc⟩
  have HU := hide hu; have HC := hide hc
  have HXB2 := hide ((hu.blk xb (Array.getElem?_eq_some_iff.1 HXB.out).1 hgx).trans HXB.out)
  clear hu hc
  clear k0 k1 k2 k3
  have HR := hide (HX.out.b.upd HU.out HX.out.n1 HX.out.n2 HX.out.n3)
  clear HXB
  have HXB := HXB2
  have k0 : w2.cell? ⟨xb, 0, none⟩ = some (.int .i64 4) := (cell_row HXB.out).trans rfl
  have k1 : w2.cell? ⟨xb, 1, none⟩ = some (.int .i64 (n : Int)) := (cell_row HXB.out).trans rfl
  have k2 : w2.cell? ⟨xb, 2, none⟩ = some (.int .i64 b) := (cell_row HXB.out).trans rfl
  have k3 : w2.cell? ⟨xb, 3, none⟩ = some (.int .u16 mb) := (cell_row HXB.out).trans rfl
  go_wp2_with fail
  refine (rhear_at HR.out n b (by rw [HX.out.s.rn]; omega) (by rw [HX.out.s.rn, HX.out.s.R]) (by rw [HX.out.s.rn, HX.out.s.H]) h).mono ?_
  rintro e w3 ⟨rfl, hu2, hr2⟩
  have HU2 := hide hu2; have HR2 := hide hr2
  clear hu2 hr2
  clear k0 k1 k2 k3
  go_wp2
  refine (HPo.out _ _).2 ⟨rfl, (HLow.out.trans (HU.out.low HX.out.l1)).trans (HU2.out.below (fun y hy => by have := HX.out.l3; have := HX.out.l4; simp only [List.mem_cons, List.not_mem_nil, or_false] at hy; rcases hy with rfl | rfl <;> assumption) (Nat.le_trans HX.out.size HU.out.siz)), hb, _, _, HC.out.ud HU2.out (by simpa using ⟨HX.out.n2, HX.out.n3⟩), HR2.out, HX.out.s.heard n hn b h, HX.out.n1, HX.out.n2, HX.out.n3, HX.out.l1, HX.out.l2, HX.out.l3, HX.out.l4⟩

set_option maxRecDepth 100000 in
set_option maxHeartbeats 2000000 in
theorem step4b {w : World} {B g wb rb hb : Nat} {k : Ck} {r : Rk} {N : Nat} (x : Bo2 w B g wb rb hb k r N) (a b mb : Int) (h : ¬(0 ≤ a ∧ a < (N : Int) ∧ -2199023255552 ≤ b ∧ b ≤ 2199023255552)) (hmb : 0 ≤ mb ∧ mb < 65536) :
    Calls Tryd.prog 24 #[.pointer (some ⟨g, 0, none⟩), .pointer (some ⟨wb, 0, none⟩), .agg #[.int .i64 4, .int .i64 a, .int .i64 b, .int .u16 mb]] w (StepPost w B g wb rb N) := by
  have hb1 := bal w (.cells #[.int .i64 4, .int .i64 a, .int .i64 b, .int .u16 mb] 85)
  have HX := hide (x.below hb1)
  have HLow := hide ((Below.refl B w).trans (hb1.mono x.size))
  have HXB := hide (heap_alloc_new w (.cells #[.int .i64 4, .int .i64 a, .int .i64 b, .int .u16 mb] 85))
  have HPo : Hid (∀ e w', StepPost w B g wb rb N e w' ↔ e = .returned (.bool true) ∧ Below B w w' ∧ ∃ hb k r, Bo2 w' B g wb rb hb k r N) := fun _ _ => Iff.rfl
  have hgx : w.heap.size ≠ g := Nat.ne_of_gt x.a.lt
  generalize StepPost w B g wb rb N = PP at HPo ⊢
  clear hb1 x
  go_enter Tryd.func24, Tryd.ntmps24
  go_upto_region 1 with fail
  generalize w.alloc (.cells #[.int .i64 4, .int .i64 a, .int .i64 b, .int .u16 mb] 85) = w1 at HX HLow HXB ⊢
  generalize w.heap.size = xb at HXB hgx ⊢
  have k0 : w1.cell? ⟨xb, 0, none⟩ = some (.int .i64 4) := (cell_row HXB.out).trans rfl
  have k1 : w1.cell? ⟨xb, 1, none⟩ = some (.int .i64 a) := (cell_row HXB.out).trans rfl
  have k2 : w1.cell? ⟨xb, 2, none⟩ = some (.int .i64 b) := (cell_row HXB.out).trans rfl
  have k3 : w1.cell? ⟨xb, 3, none⟩ = some (.int .u16 mb) := (cell_row HXB.out).trans rfl
  go_wp2_with fail
  refine (hear_bad HX.out.a a b (by rw [HX.out.s.kn]; exact h)).mono ?_
  rintro e w2 ⟨rfl, hw⟩
  subst hw
  clear k0 k1 k2 k3
  have k0 : w2.cell? ⟨xb, 0, none⟩ = some (.int .i64 4) := (cell_row HXB.out).trans rfl
  have k1 : w2.cell? ⟨xb, 1, none⟩ = some (.int .i64 a) := (cell_row HXB.out).trans rfl
  have k2 : w2.cell? ⟨xb, 2, none⟩ = some (.int .i64 b) := (cell_row HXB.out).trans rfl
  have k3 : w2.cell? ⟨xb, 3, none⟩ = some (.int .u16 mb) := (cell_row HXB.out).trans rfl
  go_wp2_with fail
  refine (rhear_bad HX.out.b a b (by rw [HX.out.s.rn]; exact h)).mono ?_
  rintro e w3 ⟨rfl, hw⟩
  subst hw
  clear k0 k1 k2 k3
  go_wp2
  exact (HPo.out _ _).2 ⟨rfl, HLow.out, hb, _, _, HX.out⟩

set_option maxRecDepth 100000 in
set_option maxHeartbeats 2000000 in
theorem step5 {w : World} {B g wb rb hb : Nat} {k : Ck} {r : Rk} {N : Nat} (x : Bo2 w B g wb rb hb k r N) (a b mb : Int) (hmb : 0 ≤ mb ∧ mb < 65536) :
    Calls Tryd.prog 24 #[.pointer (some ⟨g, 0, none⟩), .pointer (some ⟨wb, 0, none⟩), .agg #[.int .i64 5, .int .i64 a, .int .i64 b, .int .u16 mb]] w (StepPost w B g wb rb N) := by
  have hb1 := bal w (.cells #[.int .i64 5, .int .i64 a, .int .i64 b, .int .u16 mb] 85)
  have HX := hide (x.below hb1)
  have HLow := hide ((Below.refl B w).trans (hb1.mono x.size))
  have HXB := hide (heap_alloc_new w (.cells #[.int .i64 5, .int .i64 a, .int .i64 b, .int .u16 mb] 85))
  have HPo : Hid (∀ e w', StepPost w B g wb rb N e w' ↔ e = .returned (.bool true) ∧ Below B w w' ∧ ∃ hb k r, Bo2 w' B g wb rb hb k r N) := fun _ _ => Iff.rfl
  have hgx : w.heap.size ≠ g := Nat.ne_of_gt x.a.lt
  generalize StepPost w B g wb rb N = PP at HPo ⊢
  clear hb1 x
  go_enter Tryd.func24, Tryd.ntmps24
  go_upto_region 1 with fail
  generalize w.alloc (.cells #[.int .i64 5, .int .i64 a, .int .i64 b, .int .u16 mb] 85) = w1 at HX HLow HXB ⊢
  generalize w.heap.size = xb at HXB hgx ⊢
  have k0 : w1.cell? ⟨xb, 0, none⟩ = some (.int .i64 5) := (cell_row HXB.out).trans rfl
  have k1 : w1.cell? ⟨xb, 1, none⟩ = some (.int .i64 a) := (cell_row HXB.out).trans rfl
  have k2 : w1.cell? ⟨xb, 2, none⟩ = some (.int .i64 b) := (cell_row HXB.out).trans rfl
  have k3 : w1.cell? ⟨xb, 3, none⟩ = some (.int .u16 mb) := (cell_row HXB.out).trans rfl
  go_wp2_with fail
  refine (average_at HX.out.a mb a HX.out.s.kn HX.out.s.n16 hmb (fun z hz => by have := HX.out.s.range mb a z (by rw [← HX.out.s.reads]; exact hz); omega)).mono ?_
  rintro e w2 ⟨rfl, hbw⟩
  have HX2 := hide (HX.out.below hbw)
  have HXB2 := hide ((hbw.block xb (Array.getElem?_eq_some_iff.1 HXB.out).1).trans HXB.out)
  have HB2 := hide (HLow.out.trans (hbw.mono HX.out.size))
  clear hbw
  clear k0 k1 k2 k3
  clear HXB
  have HXB := HXB2
  have k0 : w2.cell? ⟨xb, 0, none⟩ = some (.int .i64 5) := (cell_row HXB.out).trans rfl
  have k1 : w2.cell? ⟨xb, 1, none⟩ = some (.int .i64 a) := (cell_row HXB.out).trans rfl
  have k2 : w2.cell? ⟨xb, 2, none⟩ = some (.int .i64 b) := (cell_row HXB.out).trans rfl
  have k3 : w2.cell? ⟨xb, 3, none⟩ = some (.int .u16 mb) := (cell_row HXB.out).trans rfl
  go_wp2_with fail
  refine (raverage_at HX2.out.b mb a N HX2.out.s.rn HX2.out.s.n16 HX2.out.s.R HX2.out.s.H hmb (HX2.out.s.range mb a)).mono ?_
  rintro e w3 ⟨rfl, hbw⟩
  have HX3 := hide (HX2.out.below hbw)
  have HB3 := hide (HB2.out.trans (hbw.mono HX2.out.size))
  rw [← HX2.out.s.reads]
  generalize avg (readsF k mb a) = vv
  generalize decide (0 < (readsF k mb a).length) = vb
  clear hbw
  clear k0 k1 k2 k3
  go_wp2
  exact (HPo.out _ _).2 ⟨by first | rfl | simp, HB3.out, hb, _, _, HX3.out⟩

set_option maxRecDepth 100000 in
set_option maxHeartbeats 2000000 in
theorem step6 {w : World} {B g wb rb hb : Nat} {k : Ck} {r : Rk} {N : Nat} (x : Bo2 w B g wb rb hb k r N) (a b mb : Int) (hmb : 0 ≤ mb ∧ mb < 65536) :
    Calls Tryd.prog 24 #[.pointer (some ⟨g, 0, none⟩), .pointer (some ⟨wb, 0, none⟩), .agg #[.int .i64 6, .int .i64 a, .int .i64 b, .int .u16 mb]] w (StepPost w B g wb rb N) := by
  have hb1 := bal w (.cells #[.int .i64 6, .int .i64 a, .int .i64 b, .int .u16 mb] 85)
  have HX := hide (x.below hb1)
  have HLow := hide ((Below.refl B w).trans (hb1.mono x.size))
  have HXB := hide (heap_alloc_new w (.cells #[.int .i64 6, .int .i64 a, .int .i64 b, .int .u16 mb] 85))
  have HPo : Hid (∀ e w', StepPost w B g wb rb N e w' ↔ e = .returned (.bool true) ∧ Below B w w' ∧ ∃ hb k r, Bo2 w' B g wb rb hb k r N) := fun _ _ => Iff.rfl
  have hgx : w.heap.size ≠ g := Nat.ne_of_gt x.a.lt
  generalize StepPost w B g wb rb N = PP at HPo ⊢
  clear hb1 x
  go_enter Tryd.func24, Tryd.ntmps24
  go_upto_region 1 with fail
  generalize w.alloc (.cells #[.int .i64 6, .int .i64 a, .int .i64 b, .int .u16 mb] 85) = w1 at HX HLow HXB ⊢
  generalize w.heap.size = xb at HXB hgx ⊢
  have k0 : w1.cell? ⟨xb, 0, none⟩ = some (.int .i64 6) := (cell_row HXB.out).trans rfl
  have k1 : w1.cell? ⟨xb, 1, none⟩ = some (.int .i64 a) := (cell_row HXB.out).trans rfl
  have k2 : w1.cell? ⟨xb, 2, none⟩ = some (.int .i64 b) := (cell_row HXB.out).trans rfl
  have k3 : w1.cell? ⟨xb, 3, none⟩ = some (.int .u16 mb) := (cell_row HXB.out).trans rfl
  go_wp2_with fail
  refine (round_at HX.out.a mb a HX.out.s.kn HX.out.s.n16 hmb (fun z hz => by have := HX.out.s.range mb a z (by rw [← HX.out.s.reads]; exact hz); omega) HX.out.s.o HX.out.s.d4).mono ?_
  rintro e w2 ⟨rfl, hu, hc⟩
  have HU := hide hu; have HC := hide hc
  have HXB2 := hide ((hu.blk xb (Array.getElem?_eq_some_iff.1 HXB.out).1 hgx).trans HXB.out)
  clear hu hc
  clear k0 k1 k2 k3
  have HR := hide (HX.out.b.upd HU.out HX.out.n1 HX.out.n2 HX.out.n3)
  clear HXB
  have HXB := HXB2
  have k0 : w2.cell? ⟨xb, 0, none⟩ = some (.int .i64 6) := (cell_row HXB.out).trans rfl
  have k1 : w2.cell? ⟨xb, 1, none⟩ = some (.int .i64 a) := (cell_row HXB.out).trans rfl
  have k2 : w2.cell? ⟨xb, 2, none⟩ = some (.int .i64 b) := (cell_row HXB.out).trans rfl
  have k3 : w2.cell? ⟨xb, 3, none⟩ = some (.int .u16 mb) := (cell_row HXB.out).trans rfl
  go_wp2_with fail
  refine (rround_at HR.out mb a N HX.out.s.rn HX.out.s.n16 HX.out.s.R HX.out.s.H hmb (HX.out.s.range mb a) (by rw [HX.out.s.off]; exact HX.out.s.o) (by rw [HX.out.s.bound]; exact HX.out.s.d4)).mono ?_
  rintro e w3 ⟨rfl, hu2, hb', hbz, hr2⟩
  rw [show cutF (r.off + cutF (avg (rreadsF r mb a N)) (-r.bound) r.bound) (-ckEnd) ckEnd = cutF (k.off + cutF (avg (readsF k mb a)) (-k.bound) k.bound) (-ckEnd) ckEnd by rw [HX.out.s.off, HX.out.s.bound, ← HX.out.s.reads]] at hr2
  rw [HX.out.s.bound, ← HX.out.s.reads]
  have HU2 := hide hu2; have HR2 := hide hr2; have HBZ := hide hbz
  generalize cutF (avg (readsF k mb a)) (-k.bound) k.bound = vv at HC HR2 ⊢
  clear hu2 hr2 hbz
  clear k0 k1 k2 k3
  go_wp2
  have h0 : ckEnd = 1099511627776 := rfl
  have hgl := HC.out.lt
  refine (HPo.out _ _).2 ⟨rfl, (HLow.out.trans (HU.out.low HX.out.l1)).trans (HU2.out.below (by simpa using HX.out.l2) (Nat.le_trans HX.out.size HU.out.siz)), hb', _, _, HC.out.ud HU2.out (by simpa using HX.out.n1), HR2.out, HX.out.s.fresh _ (cutF_range _ (by omega)), HX.out.n1, HX.out.n2, (by have := HBZ.out; omega), HX.out.l1, HX.out.l2, HX.out.l3, Nat.le_trans (Nat.le_trans HX.out.size HU.out.siz) HBZ.out⟩

set_option maxRecDepth 100000 in
set_option maxHeartbeats 2000000 in
theorem stepN {w : World} {B g wb rb hb : Nat} {k : Ck} {r : Rk} {N : Nat} (x : Bo2 w B g wb rb hb k r N) (kd a b mb : Int) (h : kd ≠ 0 ∧ kd ≠ 1 ∧ kd ≠ 2 ∧ kd ≠ 3 ∧ kd ≠ 4 ∧ kd ≠ 5 ∧ kd ≠ 6) (hmb : 0 ≤ mb ∧ mb < 65536) :
    Calls Tryd.prog 24 #[.pointer (some ⟨g, 0, none⟩), .pointer (some ⟨wb, 0, none⟩), .agg #[.int .i64 kd, .int .i64 a, .int .i64 b, .int .u16 mb]] w (StepPost w B g wb rb N) := by
  have hb1 := bal w (.cells #[.int .i64 kd, .int .i64 a, .int .i64 b, .int .u16 mb] 85)
  have HX := hide (x.below hb1)
  have HLow := hide ((Below.refl B w).trans (hb1.mono x.size))
  have HXB := hide (heap_alloc_new w (.cells #[.int .i64 kd, .int .i64 a, .int .i64 b, .int .u16 mb] 85))
  have HPo : Hid (∀ e w', StepPost w B g wb rb N e w' ↔ e = .returned (.bool true) ∧ Below B w w' ∧ ∃ hb k r, Bo2 w' B g wb rb hb k r N) := fun _ _ => Iff.rfl
  have hgx : w.heap.size ≠ g := Nat.ne_of_gt x.a.lt
  generalize StepPost w B g wb rb N = PP at HPo ⊢
  clear hb1 x
  obtain ⟨h0, h1, h2, h3, h4, h5, h6⟩ := h
  have d0 : (kd == 0) = false := beq_eq_false_iff_ne.2 h0
  have d1 : (kd == 1) = false := beq_eq_false_iff_ne.2 h1
  have d2 : (kd == 2) = false := beq_eq_false_iff_ne.2 h2
  have d3 : (kd == 3) = false := beq_eq_false_iff_ne.2 h3
  have d4 : (kd == 4) = false := beq_eq_false_iff_ne.2 h4
  have d5 : (kd == 5) = false := beq_eq_false_iff_ne.2 h5
  have d6 : (kd == 6) = false := beq_eq_false_iff_ne.2 h6
  clear h0 h1 h2 h3 h4 h5 h6
  go_enter Tryd.func24, Tryd.ntmps24
  go_upto_region 1 with fail
  generalize w.alloc (.cells #[.int .i64 kd, .int .i64 a, .int .i64 b, .int .u16 mb] 85) = w1 at HX HLow HXB ⊢
  generalize w.heap.size = xb at HXB hgx ⊢
  have k0 : w1.cell? ⟨xb, 0, none⟩ = some (.int .i64 kd) := (cell_row HXB.out).trans rfl
  have k1 : w1.cell? ⟨xb, 1, none⟩ = some (.int .i64 a) := (cell_row HXB.out).trans rfl
  have k2 : w1.cell? ⟨xb, 2, none⟩ = some (.int .i64 b) := (cell_row HXB.out).trans rfl
  have k3 : w1.cell? ⟨xb, 3, none⟩ = some (.int .u16 mb) := (cell_row HXB.out).trans rfl
  go_wp2
  exact (HPo.out _ _).2 ⟨rfl, HLow.out, hb, _, _, HX.out⟩

theorem step_at {w : World} {B g wb rb hb : Nat} {k : Ck} {r : Rk} {N : Nat} (x : Bo2 w B g wb rb hb k r N) (kd a b mb : Int) (hmb : 0 ≤ mb ∧ mb < 65536) :
    Calls Tryd.prog 24 #[.pointer (some ⟨g, 0, none⟩), .pointer (some ⟨wb, 0, none⟩), .agg #[.int .i64 kd, .int .i64 a, .int .i64 b, .int .u16 mb]] w (StepPost w B g wb rb N) := by
  by_cases h0 : kd = 0
  · subst h0
    by_cases h : -ckEnd ≤ a ∧ a ≤ ckEnd
    · exact step0 x a b mb h hmb
    · exact step0b x a b mb h hmb
  by_cases h1 : kd = 1
  · subst h1; exact step1 x a b mb hmb
  by_cases h2 : kd = 2
  · subst h2; exact step2 x a b mb hmb
  by_cases h3 : kd = 3
  · subst h3; exact step3 x a b mb hmb
  by_cases h4 : kd = 4
  · subst h4
    by_cases h : 0 ≤ a ∧ a < (N : Int) ∧ -2199023255552 ≤ b ∧ b ≤ 2199023255552
    · obtain ⟨n, rfl⟩ := Int.eq_ofNat_of_zero_le h.1
      exact step4 x n b mb (by omega) h.2.2 hmb
    · exact step4b x a b mb h hmb
  by_cases h5 : kd = 5
  · subst h5; exact step5 x a b mb hmb
  by_cases h6 : kd = 6
  · subst h6; exact step6 x a b mb hmb
  exact stepN x kd a b mb ⟨h0, h1, h2, h3, h4, h5, h6⟩ hmb
end Go.Proofs.YtbeggdahbhfhpaaDoor
