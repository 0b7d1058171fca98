/-
  A box of the document's own: its four calls, in the words of what a box holds.
-/
import Derived.Test.YtdimllmbalponaaRefPut
namespace Go.Proofs.Ytdimllmbalponaa
open Go.RowKit Go.Shelf
set_option linter.unusedVariables false

theorem Rws.head {W : World} {base : Nat} {h : Value} {r : Rw} {rs : List Rw} (x : Rws W base h (r :: rs)) :
    ∃ g cap, h = .slice (some ⟨g, 0, none⟩) (rs.length + 1) cap ∧ rs.length + 1 ≤ cap ∧ cap ≤ maxLen ∧ W.cell? ⟨g, 0, none⟩ = some r.cell ∧ RowsAt W (if cap = 1 then some ⟨g, 0, none⟩ else some ⟨g, 1, none⟩) rs := by
  have hby : ∀ r' ∈ rs, Bytes W (some ⟨r'.blk, 0, none⟩) r'.txt := fun r' hr => OwnS.bytes (x.each r' (List.mem_cons_of_mem _ hr))
  rcases x.own.2 with ⟨_, h2⟩ | ⟨g, cap, cur, h1, h0, h4, h2, h3, _⟩
  · simp at h2
  · subst h1
    simp only [List.length_cons] at h2
    have hat : ∀ i r', (r :: rs)[i]? = some r' → W.cell? ⟨g, i, none⟩ = some r'.cell := fun i r' hi => by
      have hlt := (List.getElem?_eq_some_iff.1 hi).1
      rw [x.own.cellAt i (by simpa using hlt), List.getElem?_map, hi]; rfl
    refine ⟨g, cap, by simp, h2, h3, hat 0 r rfl, ?_, hby⟩
    by_cases hc : cap = 1
    · exact .inl (List.eq_nil_of_length_eq_zero (by omega))
    · rw [if_neg hc]
      exact .inr ⟨g, 1, rfl, (Array.getElem?_eq_some_iff.1 h4).1, fun i r' hi => by rw [Nat.add_comm]; exact hat (i + 1) r' (by simpa using hi)⟩

set_option maxRecDepth 100000 in
set_option maxHeartbeats 1000000 in
theorem ref_get0 {Xs : Nat → Prop} {base b : Nat} {P : Prm} {h : Value} {slot : Int} {lost : Bool} {w : World} (x : RefW w base b P h [] slot lost Xs) :
    Calls Try.prog 33 #[.pointer (some ⟨b, 0, none⟩)] w fun e w' => e = .returned (.tuple #[.slice none 0 0, .bool false]) ∧ w = w' := by
  obtain ⟨A0, c0, rfl, hc0, hc1⟩ := x.rws.len
  have c6 : w.cell? ⟨b, 6, none⟩ = some (.slice A0 0 c0) := x.cell 6 _ rfl
  clear x
  go_enter Try.func33, Try.ntmps33
  go_wp2
  go_ret2
  exact ⟨rfl, rfl⟩

set_option maxRecDepth 100000 in
set_option maxHeartbeats 1000000 in
theorem ref_get {Xs : Nat → Prop} {base b : Nat} {P : Prm} {h : Value} {r : Rw} {rs : List Rw} {slot : Int} {lost : Bool} {w : World} (x : RefW w base b P h (r :: rs) slot lost Xs) (hX : ∀ k, Xs k → k < w.heap.size) (hrl : rs.length ≤ 500) (hrs : ∀ r' ∈ r :: rs, 0 < r'.txt.length ∧ r'.txt.length ≤ 1000) :
    Calls Try.prog 33 #[.pointer (some ⟨b, 0, none⟩)] w fun e w' => ∃ v, e = .returned (.tuple #[v, .bool true]) ∧ Got w w' v r.txt ∧ (∃ h' rs', RefW w' base b P h' rs' slot lost Xs ∧ rs'.map Rw.txt = (if P.k = 2 then rs else r :: rs).map Rw.txt) ∧ KeepB base b w w' := by
  have hlo := x.lo
  have hbl := x.lt
  have hr0 := hrs r (List.mem_cons_self ..)
  have hrr : ∀ r' ∈ rs, 0 < r'.txt.length ∧ r'.txt.length ≤ 1000 := fun r' hr' => hrs r' (List.mem_cons_of_mem _ hr')
  have c1 : w.cell? ⟨b, 1, none⟩ = some (.int .i64 P.k) := x.cell 1 _ rfl
  obtain ⟨g, cap, rfl, hc0, hc1, hcell, hra⟩ := x.rws.head
  have c6 : w.cell? ⟨b, 6, none⟩ = some (.slice (some ⟨g, 0, none⟩) (rs.length + 1) cap) := x.cell 6 _ rfl
  have q0 : w.cell? ⟨g, 0, none⟩ = some (.slice (some ⟨r.blk, 0, none⟩) r.txt.length r.cap) := hcell
  have hby := OwnS.bytes (x.rws.each r (List.mem_cons_self ..))
  have X := hide x; have HRA := hide hra; have HRR := hide hrr; have HBY := hide hby
  clear x hra hrr hby hcell hrs
  go_enter Try.func33, Try.ntmps33
  go_wp2_with fail
  refine (twin_at (some ⟨r.blk, 0, none⟩) r.txt.length r.cap r.txt w rfl HBY.out (by omega)).mono ?_
  rintro e w1 ⟨v, rfl, gg, hb1⟩
  have GG := hide gg
  have X1 := hide (X.out.later hb1); have B1 := hide hb1
  have z1 := hb1.size
  have d1 : w1.cell? ⟨b, 1, none⟩ = some (.int .i64 P.k) := X1.out.cell 1 _ rfl
  have d6 : w1.cell? ⟨b, 6, none⟩ = some (.slice (some ⟨g, 0, none⟩) (rs.length + 1) cap) := X1.out.cell 6 _ rfl
  clear gg hb1 c1 c6 q0
  by_cases hk : P.k = 2
  · rw [hk] at d1
    by_cases hcc : cap = 1
    · subst hcc
      obtain rfl : rs = [] := List.eq_nil_of_length_eq_zero (by omega)
      go_wp2_with fail
      refine (twins_at (some ⟨g, 0, none⟩) 0 0 [] w1 rfl (by omega) (by omega) ⟨.inl rfl, by simp⟩ (by simp)).mono ?_
      rintro e w3 ⟨v3, rs', rfl, y3, ht3, hb3⟩
      obtain rfl : rs' = [] := List.eq_nil_of_length_eq_zero (by have := congrArg List.length ht3; simpa using this)
      have B3 := hide (B1.out.trans (hb3.mono z1))
      have G3 := hide (show Got w w3 v r.txt from by
        rcases GG.out with ⟨h1, h2⟩ | ⟨q, c, h1, h2⟩
        · exact .inl ⟨h1, h2⟩
        · exact .inr ⟨q, c, h1, h2.later hb3 h2.blk⟩)
      have hrow3 := (B3.out.block b hbl).trans X.out.row
      have c63 : w3.cell? ⟨b, 6, none⟩ = some (.slice (some ⟨g, 0, none⟩) 1 1) := by rw [cell_of_row _ _ _ _ _ _ hrow3]; rfl
      have f63 : w3.frozen? ⟨b, 6, none⟩ = false := by unfold World.frozen?; rw [hrow3]; rfl
      have HROW := hide hrow3
      have YO := hide (Off.new (Xs := Xs) y3 (fun k hk => Nat.lt_of_lt_of_le (hX k hk) z1)); have Y3 := hide (y3.from (base' := base) (by omega)); have HT3 := hide ht3
      obtain ⟨A6, c6, rfl, _, _⟩ := y3.len
      clear y3 hb3 ht3 hrow3 d1 d6 GG
      go_wp2
      go_ret2
      refine ⟨v, rfl, ?_, ⟨_, RefW.setL hlo HROW.out Y3.out YO.out⟩, (KeepB.of B3.out (by omega)).set hlo 6 _⟩
      rcases G3.out with ⟨h1, h2⟩ | ⟨q, c, h1, h2⟩
      · exact .inl ⟨h1, h2⟩
      · exact .inr ⟨q, c, h1, h2.kept (heap_setCell_other _ _ _ _ (by have := h2.base; show q ≠ b; omega))⟩
    · have hcc2 : ¬ cap = 1 := hcc
      go_wp2_with fail
      refine (twins_at (some ⟨g, 1, none⟩) rs.length (cap - 1) rs w1 rfl (by omega) (by omega) ((by have h := HRA.out; rw [if_neg hcc] at h; exact h : RowsAt w (some ⟨g, 1, none⟩) rs).of_below B1.out (Nat.le_refl _)) HRR.out).mono ?_
      rintro e w3 ⟨v3, rs', rfl, y3, ht3, hb3⟩
      have B3 := hide (B1.out.trans (hb3.mono z1))
      have G3 := hide (show Got w w3 v r.txt from by
        rcases GG.out with ⟨h1, h2⟩ | ⟨q, c, h1, h2⟩
        · exact .inl ⟨h1, h2⟩
        · exact .inr ⟨q, c, h1, h2.later hb3 h2.blk⟩)
      have hrow3 := (B3.out.block b hbl).trans X.out.row
      have c63 : w3.cell? ⟨b, 6, none⟩ = some (.slice (some ⟨g, 0, none⟩) (rs.length + 1) cap) := by rw [cell_of_row _ _ _ _ _ _ hrow3]; rfl
      have f63 : w3.frozen? ⟨b, 6, none⟩ = false := by unfold World.frozen?; rw [hrow3]; rfl
      have HROW := hide hrow3
      have YO := hide (Off.new (Xs := Xs) y3 (fun k hk => Nat.lt_of_lt_of_le (hX k hk) z1)); have Y3 := hide (y3.from (base' := base) (by omega)); have HT3 := hide ht3
      obtain ⟨A6, c6, rfl, _, _⟩ := y3.len
      clear y3 hb3 ht3 hrow3 d1 d6 GG
      go_wp2
      go_ret2
      refine ⟨v, rfl, ?_, ⟨_, rs', RefW.setL hlo HROW.out Y3.out YO.out, by simp [HT3.out]⟩, (KeepB.of B3.out (by omega)).set hlo 6 _⟩
      rcases G3.out with ⟨h1, h2⟩ | ⟨q, c, h1, h2⟩
      · exact .inl ⟨h1, h2⟩
      · exact .inr ⟨q, c, h1, h2.kept (heap_setCell_other _ _ _ _ (by have := h2.base; show q ≠ b; omega))⟩
  · go_wp2
    go_ret2
    exact ⟨v, rfl, GG.out, ⟨_, r :: rs, X1.out, by simp⟩, KeepB.of B1.out (by omega)⟩

/-- a box of the document's own that has such a state -/
structure RefS (W : World) (base b : Nat) (P : Prm) (S : St) (Xs : Nat → Prop) : Prop where
  is : ∃ h rs slot, RefW W base b P h rs slot S.2 Xs ∧ rs.map Rw.txt = S.1.map Prod.fst ∧ (P.k = 1 → P.d = 2 → ∀ x ∈ S.1, x.2 = slot) ∧ 0 ≤ slot ∧ slot ≤ 9223372036854775807
  size : ∀ x ∈ S.1, (x.1.length : Int) = P.s
  few : S.1.length ≤ 8
theorem RefS.later {Xs : Nat → Prop} {W W' : World} {base b : Nat} {P : Prm} {S : St} (x : RefS W base b P S Xs) (hb : Below W.heap.size W W') : RefS W' base b P S Xs := by
  obtain ⟨h, rs, slot, y, h1⟩ := x.is
  exact ⟨⟨h, rs, slot, y.later hb, h1⟩, x.size, x.few⟩
theorem putL_putF (P : Prm) (S : St) (l : List Nat) (z : Int) (hk : P.k = 1 ∨ P.k = 2) : (putL P (S.1.map Prod.fst) l).1 = (putF P S (l, z)).1 ∧ (putL P (S.1.map Prod.fst) l).2 = (putF P S (l, z)).2.1.map Prod.fst := by
  rcases hk with hk | hk
  · simp [putL, putF, hk]
  · by_cases he : P.e ≤ (S.1.length : Int)
    · simp [putL, putF, hk, he]
    · simp [putL, putF, hk, he]
end Go.Proofs.Ytdimllmbalponaa
