/-
  Two boxes that hold the same give out the same.
-/
import Derived.Test.YtelhbkjmaeglaaaAsk
namespace Go.Proofs.Ytelhbkjmaeglaaa
open Go.RowKit Go.Shelf
set_option linter.unusedVariables false

/-- two boxes side by side -/
structure Pair (W : World) (base b1 b2 : Nat) (P : Prm) (h1 h2 : Value) (ms1 ms2 : List Msg) (S1 S2 : St) : Prop where
  x1 : BoxS W base b1 P h1 ms1 S1
  x2 : BoxS W base b2 P h2 ms2 S2
  nb : b1 ≠ b2
  nh : ∀ k, h1.ownBlock = some k → h2.ownBlock ≠ some k
section
variable {W W' : World} {base b1 b2 : Nat} {P : Prm} {h1 h2 : Value} {ms1 ms2 : List Msg} {S1 S2 S : St}
theorem Pair.swap (t : Pair W base b1 b2 P h1 h2 ms1 ms2 S1 S2) : Pair W base b2 b1 P h2 h1 ms2 ms1 S2 S1 := ⟨t.x2, t.x1, fun e => t.nb e.symm, fun k h e => t.nh k e h⟩
theorem Pair.first (t : Pair W base b1 b2 P h1 h2 ms1 ms2 S1 S2) (g : Went W W' base b1 P h1 ms1 S) : ∃ h1' ms1', Pair W' base b1 b2 P h1' h2 ms1' ms2 S S2 := by
  obtain ⟨h', ms', y, k, hm⟩ := g.is
  exact ⟨h', ms', y, { t.x2 with box := t.x1.box.beside k.toKeep t.x2.box t.nb t.nh }, t.nb, apart_after k t.x2.box t.nh⟩
theorem Pair.second (t : Pair W base b1 b2 P h1 h2 ms1 ms2 S1 S2) (g : Went W W' base b2 P h2 ms2 S) : ∃ h2' ms2', Pair W' base b1 b2 P h1 h2' ms1 ms2' S1 S := by
  obtain ⟨h', ms', t'⟩ := t.swap.first g
  exact ⟨h', ms', t'.swap⟩
theorem Pair.later (t : Pair W base b1 b2 P h1 h2 ms1 ms2 S1 S2) (hb : Below W.heap.size W W') : Pair W' base b1 b2 P h1 h2 ms1 ms2 S1 S2 := ⟨t.x1.later hb, t.x2.later hb, t.nb, t.nh⟩
end

set_option maxRecDepth 100000 in
set_option maxHeartbeats 2000000 in
theorem same_any {base b1 b2 : Nat} {P : Prm} {h1 h2 : Value} {ms1 ms2 : List Msg} {S : St} {w : World} (t : Pair w base b1 b2 P h1 h2 ms1 ms2 S S) (ok : Okay P) :
    Calls Try.prog 25 #[.pointer (some ⟨b1, 0, none⟩), .pointer (some ⟨b2, 0, none⟩)] w fun e w' => e = .returned (.bool true) ∧ Below base w w' := by
  have T := hide t
  clear t
  go_enter Try.func25, Try.ntmps25
  go_wp2_with fail
  go_loopg [5] 20 (fun r i wr => ∃ (k : Nat) (h1 h2 : Value) (ms1 ms2 : List Msg) (S : St), k + r = 20 ∧ i = .int .i64 k ∧ Pair wr base b1 b2 P h1 h2 ms1 ms2 S S ∧ Below base w wr)
  case atStart => exact ⟨0, h1, h2, ms1, ms2, S, rfl, rfl, T.out, Below.refl _ _⟩
  case round =>
    clear T
    obtain ⟨k, h1, h2, ms1, ms2, S, hk, rfl, t, hb⟩ := hrel
    have T := hide t; have HB := hide hb
    clear t hb
    by_cases hlt : k < 20
    · obtain ⟨q, hq⟩ : ∃ q, k % 2 = q := ⟨_, rfl⟩
      have hq2 : q < 2 := by omega
      have v1 : (k : Int).tmod 2 = (q : Int) := by rw [← hq]; rfl
      have v2 : IntKind.i64.wrap (q : Int) = (q : Int) := i64_id (by omega) (by omega)
      have v3 : IntKind.i64.wrap ((q : Int) * 2) = (q : Int) * 2 := i64_id (by omega) (by omega)
      have v4 : IntKind.i64.wrap (1 + (q : Int) * 2) = 1 + (q : Int) * 2 := i64_id (by omega) (by omega)
      clear hq
      have hc1 := fun (W : World) (h : Value) (ms : List Msg) (x : BoxS W base b1 P h ms S) => ask_any x ok (1 + (q : Int) * 2) [] 0 none 0 0 (by omega) rfl (Bytes.empty W none)
      have hc2 := fun (W : World) (h : Value) (ms : List Msg) (x : BoxS W base b2 P h ms S) => ask_any x ok (1 + (q : Int) * 2) [] 0 none 0 0 (by omega) rfl (Bytes.empty W none)
      obtain ⟨⟨⟨r, r2⟩, S2⟩, hR⟩ : ∃ R, askF P S (1 + (q : Int) * 2) [] 0 = R := ⟨_, rfl⟩
      simp only [hR] at hc1 hc2
      have HC1 := hide hc1; have HC2 := hide hc2
      clear hR hc1 hc2
      go_wp2_with (refine wpList_built rfl 39 _ rfl #[.int .i64 (1 + (q : Int) * 2), .slice none 0 0, .int .i64 0] (by kernel_rfl) ?_)
      refine (HC1.out wr h1 ms1 T.out.x1).mono ?_
      rintro e wa ⟨rfl, g⟩
      obtain ⟨h1', ms1', t2⟩ := T.out.first g
      have T2 := hide t2; have HB2 := hide (HB.out.trans g.bel)
      clear t2 g T
      go_wp2_with (refine wpList_built rfl 39 _ rfl #[.int .i64 (1 + (q : Int) * 2), .slice none 0 0, .int .i64 0] (by kernel_rfl) ?_)
      refine (HC2.out wa h2 ms2 T2.out.x2).mono ?_
      rintro e wb ⟨rfl, g⟩
      obtain ⟨h2', ms2', t3⟩ := T2.out.second g
      have T3 := hide t3; have HB3 := hide (HB2.out.trans g.bel)
      clear t3 g T2
      go_wp2_with fail
      go_roundg (19 - k)
      case measure => omega
      case rel => exact ⟨k + 1, h1', h2', ms1', ms2', S2, by omega, by go_num, T3.out, HB3.out⟩
    · obtain rfl : k = 20 := by omega
      go_wp2
      go_ret
      exact ⟨rfl, HB.out⟩
end Go.Proofs.Ytelhbkjmaeglaaa
