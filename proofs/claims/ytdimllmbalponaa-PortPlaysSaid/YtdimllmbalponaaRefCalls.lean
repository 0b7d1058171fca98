/-
  A box of the document's own: Send, Take, Arrive, Recv answer what a box of that state does.
-/
import Derived.Test.YtdimllmbalponaaRefGet
namespace Go.Proofs.Ytdimllmbalponaa
open Go.RowKit Go.Shelf
set_option linter.unusedVariables false

theorem putF_keeps (P : Prm) (S : St) (l : List Nat) (z : Int) (ok : Okay P) (hs : ∀ x ∈ S.1, (x.1.length : Int) = P.s) (hf : S.1.length ≤ 8) (hl : (l.length : Int) = P.s) :
    (∀ x ∈ (putF P S (l, z)).2.1, (x.1.length : Int) = P.s) ∧ (putF P S (l, z)).2.1.length ≤ 8 := by
  unfold putF
  split
  · exact ⟨by intro x hx; rw [List.mem_singleton.1 hx]; exact hl, by simp⟩
  · rename_i hk
    split
    · exact ⟨hs, hf⟩
    · rename_i he
      refine ⟨fun x hx => ?_, ?_⟩
      · rcases List.mem_append.1 hx with h | h
        · exact hs x h
        · rw [List.mem_singleton.1 h]; exact hl
      · have : P.e ≤ 8 := by
          rcases ok.is with ⟨h, _⟩ | ⟨h, _⟩ | ⟨_, _, _, _, _, h⟩ | ⟨_, _, _, _, _, h⟩
          · exact absurd h hk
          · exact absurd h hk
          · exact h
          · exact h
        simp only [List.length_append, List.length_cons, List.length_nil]
        omega
theorem rs_sizes {rs : List Rw} {S : St} {P : Prm} (ok : Okay P) (hm : rs.map Rw.txt = S.1.map Prod.fst) (hs : ∀ x ∈ S.1, (x.1.length : Int) = P.s) : ∀ r ∈ rs, 0 < r.txt.length ∧ r.txt.length ≤ 1000 := by
  intro r hr
  have h1 : r.txt ∈ S.1.map Prod.fst := hm ▸ List.mem_map_of_mem hr
  obtain ⟨x, hx, h2⟩ := List.mem_map.1 h1
  have h3 := hs x hx; have h4 := ok.s1; have h5 := ok.s2
  rw [h2] at h3
  omega
theorem putF_codes (P : Prm) (S : St) (l : List Nat) (z : Int) (hd : P.d = 2) :
    ((putF P S (l, z)).1 = 0 ∧ (putF P S (l, z)).2.2 = S.2 ∧ (P.k = 1 → P.d = 2 → ∀ x ∈ (putF P S (l, z)).2.1, x.2 = z)) ∨ ((putF P S (l, z)).1 = 41 ∧ (putF P S (l, z)).2.2 = true ∧ ¬ P.k = 1) := by
  unfold putF
  split
  · exact .inl ⟨rfl, rfl, fun _ _ x hx => by rw [List.mem_singleton.1 hx]⟩
  · rename_i hk
    split
    · exact .inr ⟨rfl, by first | rfl | (show (if P.d = 2 then true else S.2) = true; rw [if_pos hd]), hk⟩
    · exact .inl ⟨rfl, rfl, fun h => absurd h hk⟩
theorem kinds_of {P : Prm} (ok : Okay P) : P.k = 1 ∨ P.k = 2 := by
  rcases ok.is with ⟨h, _⟩ | ⟨h, _⟩ | ⟨h, _⟩ | ⟨h, _⟩
  · exact .inl h
  · exact .inl h
  · exact .inr h
  · exact .inr h
section
variable {Xs : Nat → Prop} {base b : Nat} {P : Prm} {S : St} {w : World}

set_option maxRecDepth 100000 in
set_option maxHeartbeats 1000000 in
theorem ref_send (x : RefS w base b P S Xs) (hX : ∀ k, Xs k → k < w.heap.size) (ok : Okay P) (A : Option Addr) (n c : Nat) (l : List Nat) (hl : l.length = n) (hB : Bytes w A l) :
    Calls Try.prog 15 #[.pointer (some ⟨b, 0, none⟩), .slice A n c] w fun e w' => e = .returned (.int .i64 (sendF P S l).1) ∧ RefS w' base b P (sendF P S l).2 Xs ∧ KeepB base b w w' := by
  obtain ⟨h, rs, slot, y, hm, hsl, h0, h1⟩ := x.is
  have hbl := y.lt; have hlo := y.lo
  have s1 := ok.s1; have s2 := ok.s2
  have c2 : w.cell? ⟨b, 2, none⟩ = some (.int .i64 P.d) := y.cell 2 _ rfl
  have c3 : w.cell? ⟨b, 3, none⟩ = some (.int .i64 P.s) := y.cell 3 _ rfl
  by_cases hd : P.d = 1
  · by_cases hs : (n : Int) = P.s
    · have hF : sendF P S l = putF P S (l, 0) := by simp only [sendF]; rw [if_neg (by simpa using hd), if_neg (by simpa [hl] using hs)]
      obtain ⟨e1, e2⟩ := putL_putF P S l 0 (kinds_of ok)
      obtain ⟨k1, k2⟩ := putF_keeps P S l 0 ok x.size x.few (by rw [hl]; exact hs)
      have hlost : (putF P S (l, 0)).2.2 = S.2 := by
        unfold putF
        split
        · rfl
        · split
          · show (if P.d = 2 then true else S.2) = S.2; rw [if_neg (by omega)]
          · rfl
      have hrl : rs.length ≤ 500 := by have h1 := congrArg List.length hm; have h2 := x.few; simp only [List.length_map] at h1; omega
      have hc := ref_put y hX A n c l hl hB (by omega) hrl (rs_sizes ok hm x.size)
      rw [hm, e1, e2] at hc
      rw [hF]
      rw [hd] at c2
      have HN : ¬ (n : Int) ≠ P.s := by omega
      have HLOST := hide hlost; have K1 := hide k1; have K2 := hide k2
      obtain ⟨R, hR⟩ : ∃ R, putF P S (l, 0) = R := ⟨_, rfl⟩
      rw [hR] at hc HLOST K1 K2 ⊢
      clear hR hlost k1 k2 x y hm hsl e1 e2 hrl
      go_enter Try.func15, Try.ntmps15
      go_wp2_with fail
      refine hc.mono ?_
      rintro e w' ⟨rfl, h', rs', y', hm', k⟩
      have HR := hide (show RefS w' base b P R.2 Xs from ⟨⟨h', rs', slot, by rw [HLOST.out]; exact y', hm', fun _ h => by omega, h0, h1⟩, K1.out, K2.out⟩)
      have HK := hide k
      clear hc y' hm' k
      go_wp2
      go_ret
      exact ⟨rfl, HR.out, HK.out⟩
    · have hF : sendF P S l = (45, S) := by simp only [sendF]; rw [if_neg (by simpa using hd), if_pos (by simpa [hl] using hs)]
      rw [hF]
      rw [hd] at c2
      have X := hide x
      clear x y hm hsl
      go_enter Try.func15, Try.ntmps15
      go_wp2
      go_ret
      exact ⟨rfl, X.out, KeepB.of (Below.refl _ _) (by omega)⟩
  · have hF : sendF P S l = (40, S) := by simp only [sendF]; rw [if_pos hd]
    rw [hF]
    have X := hide x
    clear x y hm hsl
    go_enter Try.func15, Try.ntmps15
    go_wp2
    go_ret
    exact ⟨rfl, X.out, KeepB.of (Below.refl _ _) (by omega)⟩

set_option maxRecDepth 100000 in
set_option maxHeartbeats 1000000 in
theorem ref_arrive (x : RefS w base b P S Xs) (hX : ∀ k, Xs k → k < w.heap.size) (ok : Okay P) (A : Option Addr) (n c : Nat) (l : List Nat) (z : Int) (hz : z ≤ 9223372036854775807) (hl : l.length = n) (hB : Bytes w A l) :
    Calls Try.prog 20 #[.pointer (some ⟨b, 0, none⟩), .slice A n c, .int .i64 z] w fun e w' => e = .returned (.int .i64 (arriveF P S l z).1) ∧ RefS w' base b P (arriveF P S l z).2 Xs ∧ KeepB base b w w' := by
  obtain ⟨h, rs, slot, y, hm, hsl, h0, h1⟩ := x.is
  have hbl := y.lt; have hlo := y.lo
  have s1 := ok.s1; have s2 := ok.s2
  have c2 : w.cell? ⟨b, 2, none⟩ = some (.int .i64 P.d) := y.cell 2 _ rfl
  have c3 : w.cell? ⟨b, 3, none⟩ = some (.int .i64 P.s) := y.cell 3 _ rfl
  by_cases hd : P.d = 2
  · by_cases hz0 : z < 0
    · have hF : arriveF P S l z = (2, S) := by simp only [arriveF]; rw [if_neg (by simpa using hd), if_pos hz0]
      rw [hF]
      rw [hd] at c2
      have X := hide x
      clear x y hm hsl
      go_enter Try.func20, Try.ntmps20
      go_wp2
      go_ret
      exact ⟨rfl, X.out, KeepB.of (Below.refl _ _) (by omega)⟩
    · have hz1 : 0 ≤ z := by omega
      by_cases hs : (n : Int) = P.s
      · have hF : arriveF P S l z = putF P S (l, z) := by simp only [arriveF]; rw [if_neg (by simpa using hd), if_neg hz0, if_neg (by simpa [hl] using hs)]
        obtain ⟨e1, e2⟩ := putL_putF P S l z (kinds_of ok)
        obtain ⟨k1, k2⟩ := putF_keeps P S l z ok x.size x.few (by rw [hl]; exact hs)
        have hcode := putF_codes P S l z hd
        have hrl : rs.length ≤ 500 := by have h1 := congrArg List.length hm; have h2 := x.few; simp only [List.length_map] at h1; omega
        have hc := ref_put y hX A n c l hl hB (by omega) hrl (rs_sizes ok hm x.size)
        rw [hm, e1, e2] at hc
        rw [hF]
        rw [hd] at c2
        have HSL := hide hsl; have K1 := hide k1; have K2 := hide k2
        obtain ⟨R, hR⟩ : ∃ R, putF P S (l, z) = R := ⟨_, rfl⟩
        rw [hR] at hc hcode K1 K2 ⊢
        clear hR k1 k2 x y hm hsl e1 e2 hrl
        rcases hcode with ⟨hc1, hc2, hc3⟩ | ⟨hc1, hc2, hc3⟩
        · rw [hc1] at hc ⊢
          have HC2 := hide hc2; have HC3 := hide hc3
          clear hc1 hc2 hc3
          go_enter Try.func20, Try.ntmps20
          go_wp2_with fail
          refine hc.mono ?_
          rintro e w' ⟨rfl, h', rs', y', hm', k⟩
          have c7 := y'.cell 7 _ rfl
          have f7 := y'.free 7
          have HR := hide (show RefS (w'.setCell ⟨b, 7, none⟩ (.int .i64 z)) base b P R.2 Xs from ⟨⟨h', rs', z, by rw [HC2.out]; exact y'.setSlot z, hm', HC3.out, hz1, hz⟩, K1.out, K2.out⟩)
          have HK := hide (k.set hlo 7 (.int .i64 z))
          clear hc y' hm' k
          go_wp2
          go_ret
          exact ⟨rfl, HR.out, HK.out⟩
        · rw [hc1] at hc ⊢
          have HC2 := hide hc2; have HC3 := hide hc3
          clear hc1 hc2 hc3
          go_enter Try.func20, Try.ntmps20
          go_wp2_with fail
          refine hc.mono ?_
          rintro e w' ⟨rfl, h', rs', y', hm', k⟩
          have c8 := y'.cell 8 _ rfl
          have f8 := y'.free 8
          have HR := hide (show RefS (w'.setCell ⟨b, 8, none⟩ (.bool true)) base b P R.2 Xs from ⟨⟨h', rs', slot, by rw [HC2.out]; exact y'.setLost true, hm', fun h => absurd h HC3.out, h0, h1⟩, K1.out, K2.out⟩)
          have HK := hide (k.set hlo 8 (.bool true))
          clear hc y' hm' k
          go_wp2
          go_ret
          exact ⟨rfl, HR.out, HK.out⟩
      · have hF : arriveF P S l z = (45, S) := by simp only [arriveF]; rw [if_neg (by simpa using hd), if_neg hz0, if_pos (by simpa [hl] using hs)]
        rw [hF]
        rw [hd] at c2
        have X := hide x
        clear x y hm hsl
        go_enter Try.func20, Try.ntmps20
        go_wp2
        go_ret
        exact ⟨rfl, X.out, KeepB.of (Below.refl _ _) (by omega)⟩
  · have hF : arriveF P S l z = (40, S) := by simp only [arriveF]; rw [if_pos hd]
    rw [hF]
    have X := hide x
    clear x y hm hsl
    go_enter Try.func20, Try.ntmps20
    go_wp2
    go_ret
    exact ⟨rfl, X.out, KeepB.of (Below.refl _ _) (by omega)⟩
end
end Go.Proofs.Ytdimllmbalponaa
