/-
  ask: a call on any box, by its kind; two boxes that hold the same give out the same.
-/
import Derived.Test.YtelhbkjmaeglaaaGen
import Derived.Deep.LoopGhost
import Derived.Deep.DeepCutAuto
namespace Go.Proofs.Ytelhbkjmaeglaaa
open Go.RowKit Go.Shelf
set_option linter.unusedVariables false

section
variable {base b : Nat} {P : Prm} {h : Value} {ms : List Msg} {S S' : St} {w w1 w' : World}
theorem Went.pre (hb : Below w.heap.size w w1) (x : BoxS w base b P h ms S) (g : Went w1 w' base b P h ms S') : Went w w' base b P h ms S' := by
  obtain ⟨h', ms', y, k, hm⟩ := g.is
  have hz := hb.size
  refine ⟨h', ms', y, ⟨⟨(hb.mono (by have := x.box.lt; have := x.box.lo; omega)).trans k.bel, fun j hj h1 h2 => (k.blk j (by omega) h1 h2).trans (hb.block j hj), Nat.le_trans hz k.siz⟩, k.wh.imp id fun h j hj => Nat.le_trans hz (h j hj)⟩, fun m hm' => (hm m hm').imp id fun h => Nat.le_trans hz h⟩
theorem Went.post (g : Went w w1 base b P h ms S') (hb : Below w1.heap.size w1 w') : Went w w' base b P h ms S' := by
  obtain ⟨h', ms', y, k, hm⟩ := g.is
  exact ⟨h', ms', y.later hb, ⟨⟨k.bel.trans (hb.mono (by have := y.box.lt; have := y.box.lo; omega)), fun j hj h1 h2 => (hb.block j (by have := k.siz; omega)).trans (k.blk j hj h1 h2), Nat.le_trans k.siz hb.size⟩, k.wh⟩, hm⟩
theorem Went.siz (g : Went w w1 base b P h ms S') : w.heap.size ≤ w1.heap.size := by
  obtain ⟨h', ms', y, k, hm⟩ := g.is
  exact k.siz
theorem Went.bel (g : Went w w1 base b P h ms S') : Below base w w1 := by
  obtain ⟨h', ms', y, k, hm⟩ := g.is
  exact k.bel
theorem Got.str {W W' : World} {v : Value} {l : List Nat} (g : Got W W' v l) : (convert 37 9 v).run Try.prog W' = .ok (.string (str l)) W' := by
  rcases g with ⟨rfl, rfl⟩ | ⟨g, c, rfl, h⟩
  · exact str_of W' none 0 0 [] (Bytes.empty W' _) rfl
  · exact str_of W' _ _ c l h.bytes rfl
end

def askF (P : Prm) (S : St) (k : Int) (l : List Nat) (z : Int) : (List Nat × Int) × St :=
  if k = 0 then (([], (sendF P S l).1), (sendF P S l).2)
  else if k = 1 then (if (takeF P S).1.2 then (((takeF P S).1.1, 1), (takeF P S).2) else (([], ((takeF P S).2.1.length : Int)), (takeF P S).2))
  else if k = 2 then (([], (arriveF P S l z).1), (arriveF P S l z).2)
  else if k = 3 then recvF P S z
  else (([], (S.1.length : Int)), S)

set_option maxRecDepth 100000 in
set_option maxHeartbeats 1000000 in
theorem ask_any {base b : Nat} {P : Prm} {h : Value} {ms : List Msg} {S : St} {w : World} (x : BoxS w base b P h ms S) (ok : Okay P) (k : Int) (l : List Nat) (n : Nat) (A : Option Addr) (cap : Nat) (z : Int) (hz : z ≤ 9223372036854775807) (hn : l.length = n) (hB : Bytes w A l) :
    Calls Try.prog 24 #[.pointer (some ⟨b, 0, none⟩), .agg #[.int .i64 k, .slice A n cap, .int .i64 z]] w fun e w' => e = .returned (.tuple #[.string (str (askF P S k l z).1.1), .int .i64 (askF P S k l z).1.2]) ∧ Went w w' base b P h ms (askF P S k l z).2 := by
  have hs0 : str [] = ({ data := #[] } : ByteArray) := rfl
  have hb1 := bal w (.cells #[.int .i64 k, .slice A n cap, .int .i64 z] 39)
  have hr1 := heap_alloc_new w (.cells #[.int .i64 k, .slice A n cap, .int .i64 z] 39)
  obtain ⟨w1, hw1⟩ : ∃ w1, w.alloc (.cells #[.int .i64 k, .slice A n cap, .int .i64 z] 39) = w1 := ⟨_, rfl⟩
  rw [hw1] at hb1 hr1
  have c0 : w1.cell? ⟨w.heap.size, 0, none⟩ = some (.int .i64 k) := by rw [cell_of_row _ _ _ _ _ _ hr1]; rfl
  have c1 : w1.cell? ⟨w.heap.size, 1, none⟩ = some (.slice A n cap) := by rw [cell_of_row _ _ _ _ _ _ hr1]; rfl
  have c2 : w1.cell? ⟨w.heap.size, 2, none⟩ = some (.int .i64 z) := by rw [cell_of_row _ _ _ _ _ _ hr1]; rfl
  have X1 := hide (x.later hb1)
  have B1 := hide (hB.of_below hb1 (Nat.le_refl _))
  have HB := hide hb1
  have HX := hide x
  have HS0 := hide hs0
  clear hb1 hr1 hB x hs0
  by_cases k0 : k = 0
  · subst k0
    rw [show askF P S 0 l z = (([], (sendF P S l).1), (sendF P S l).2) from rfl]
    have hc := send_any X1.out ok l n A cap hn B1.out
    obtain ⟨⟨r, S2⟩, hR⟩ : ∃ R, sendF P S l = R := ⟨_, rfl⟩
    rw [hR] at hc ⊢
    clear hR
    go_enter Try.func24, Try.ntmps24
    go_wp2_with fail
    refine hc.mono ?_
    rintro e w2 ⟨rfl, g⟩
    have G := hide (Went.pre HB.out HX.out g)
    clear g hc
    go_wp2
    go_ret2
    exact ⟨rfl, G.out⟩
  by_cases k1 : k = 1
  · subst k1
    rw [show askF P S 1 l z = (if (takeF P S).1.2 then (((takeF P S).1.1, 1), (takeF P S).2) else (([], ((takeF P S).2.1.length : Int)), (takeF P S).2)) from rfl]
    have hc := take_any X1.out ok
    obtain ⟨⟨⟨r, q⟩, S2⟩, hR⟩ : ∃ R, takeF P S = R := ⟨_, rfl⟩
    rw [hR] at hc ⊢
    clear hR
    obtain ⟨N2, hN2⟩ : ∃ N2, S2.1.length = N2 := ⟨_, rfl⟩
    have HN2 := hide hN2
    cases q
    · rw [show (if ((r, false), S2).1.2 = true then ((((r, false), S2).1.1, (1 : Int)), ((r, false), S2).2) else (([], ((((r, false), S2).2.1.length : Nat) : Int)), ((r, false), S2).2)) = (([], (N2 : Int)), S2) by simp [hN2]]
      clear hN2
      go_enter Try.func24, Try.ntmps24
      go_wp2_with fail
      refine hc.mono ?_
      rintro e w2 ⟨v, rfl, gg, g⟩
      have G := hide (Went.pre HB.out HX.out g)
      obtain ⟨h', ms', y, _, _⟩ := g.is
      have hl := len_at y.box
      rw [y.len, HN2.out] at hl
      clear g gg hc y
      go_wp2_with fail
      refine hl.mono ?_
      rintro e w3 ⟨rfl, rfl⟩
      go_wp2
      go_ret2
      exact ⟨rfl, G.out⟩
    · rw [show (if ((r, true), S2).1.2 = true then ((((r, true), S2).1.1, (1 : Int)), ((r, true), S2).2) else (([], ((((r, true), S2).2.1.length : Nat) : Int)), ((r, true), S2).2)) = ((r, 1), S2) by simp]
      clear hN2 HN2
      go_enter Try.func24, Try.ntmps24
      go_wp2_with fail
      refine hc.mono ?_
      rintro e w2 ⟨v, rfl, gg, g⟩
      have G := hide (Went.pre HB.out HX.out g)
      have st := gg.str
      clear g gg hc
      go_wp2
      go_ret2
      exact ⟨rfl, G.out⟩
  by_cases k2 : k = 2
  · subst k2
    rw [show askF P S 2 l z = (([], (arriveF P S l z).1), (arriveF P S l z).2) from rfl]
    have hc := arrive_any X1.out ok l n A cap z hz hn B1.out
    obtain ⟨⟨r, S2⟩, hR⟩ : ∃ R, arriveF P S l z = R := ⟨_, rfl⟩
    rw [hR] at hc ⊢
    clear hR
    go_enter Try.func24, Try.ntmps24
    go_wp2_with fail
    refine hc.mono ?_
    rintro e w2 ⟨rfl, g⟩
    have G := hide (Went.pre HB.out HX.out g)
    clear g hc
    go_wp2
    go_ret2
    exact ⟨rfl, G.out⟩
  by_cases k3 : k = 3
  · subst k3
    rw [show askF P S 3 l z = recvF P S z from rfl]
    have hc := recv_any X1.out ok z hz
    obtain ⟨⟨⟨r, r2⟩, S2⟩, hR⟩ : ∃ R, recvF P S z = R := ⟨_, rfl⟩
    rw [hR] at hc ⊢
    clear hR
    go_enter Try.func24, Try.ntmps24
    go_wp2_with fail
    refine hc.mono ?_
    rintro e w2 ⟨v, rfl, gg, g⟩
    have G := hide (Went.pre HB.out HX.out g)
    have st := gg.str
    clear g gg hc
    go_wp2
    go_ret2
    exact ⟨rfl, G.out⟩
  rw [show askF P S k l z = (([], (S.1.length : Int)), S) by simp only [askF]; rw [if_neg k0, if_neg k1, if_neg k2, if_neg k3]]
  have hl := len_at X1.out.box
  rw [X1.out.len] at hl
  go_enter Try.func24, Try.ntmps24
  go_wp2_with fail
  refine hl.mono ?_
  rintro e w3 ⟨rfl, rfl⟩
  go_wp2
  go_ret2
  exact ⟨rfl, Went.stay HX.out HB.out⟩
end Go.Proofs.Ytelhbkjmaeglaaa
