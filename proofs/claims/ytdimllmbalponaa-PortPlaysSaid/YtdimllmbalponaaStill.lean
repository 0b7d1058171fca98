/-
  What was kept of messages: do they say what they did?
-/
import Derived.Test.YtdimllmbalponaaRefNew
namespace Go.Proofs.Ytdimllmbalponaa
open Go.RowKit Go.Shelf
set_option linter.unusedVariables false

/-- what is kept: messages, and what they said -/
structure KeptW (W : World) (base kb : Nat) (hT hW : Value) (tT tW : List Rw) : Prop where
  lo : base ≤ kb
  row : W.heap[kb]? = some (.cells #[hT, hW] 36 (0, 0))
  told : Rws W base hT tT
  was : Rws W base hW tW
  same : tT.map Rw.txt = tW.map Rw.txt
  nh : ∀ k, hT.ownBlock = some k → hW.ownBlock ≠ some k
theorem KeptW.later {W W' : World} {base kb : Nat} {hT hW : Value} {tT tW : List Rw} (x : KeptW W base kb hT hW tT tW) (hb : Below W.heap.size W W') : KeptW W' base kb hT hW tT tW :=
  { x with row := (hb.block kb (Array.getElem?_eq_some_iff.1 x.row).1).trans x.row, told := x.told.later hb, was := x.was.later hb }
theorem Rws.atq {W : World} {base : Nat} {h : Value} {rs : List Rw} (x : Rws W base h rs) {j : Nat} {r : Rw} (hr : rs[j]? = some r) : ∃ g cap, h = .slice (some ⟨g, 0, none⟩) rs.length cap ∧ W.cell? ⟨g, j, none⟩ = some r.cell := by
  have hlt := (List.getElem?_eq_some_iff.1 hr).1
  rcases x.own.2 with ⟨_, h2⟩ | ⟨g, cap, cur, h1, _⟩
  · omega
  · subst h1
    refine ⟨g, cap, rfl, ?_⟩
    rw [x.own.cellAt j (by simpa using hlt), List.getElem?_map, hr]
    rfl

theorem add_drewN (w : World) (m n : Nat) : (w.drewN m).drewN n = w.drewN (m + n) := by
  unfold World.drewN
  simp [Nat.add_assoc]
set_option maxRecDepth 100000 in
set_option maxHeartbeats 2000000 in
theorem still_at {base kb : Nat} {hT hW : Value} {tT tW : List Rw} {w : World} (x : KeptW w base kb hT hW tT tW) (hn : tT.length ≤ 5000) :
    Calls Try.prog 7 #[.pointer (some ⟨kb, 0, none⟩)] w fun e w' => e = .returned (.bool true) ∧ ∃ m, w' = w.drewN m := by
  have hlen : tT.length = tW.length := by have := congrArg List.length x.same; simpa using this
  obtain ⟨A0, c0, rfl, hc0, hc1⟩ := x.told.len
  obtain ⟨A1, c1, rfl, hc2, hc3⟩ := x.was.len
  have X := hide x; have HLEN := hide hlen
  have q0 : w.cell? ⟨kb, 0, none⟩ = some (.slice A0 tT.length c0) := by rw [cell_of_row _ _ _ _ _ _ x.row]; rfl
  clear x hlen
  go_enter Try.func7, Try.ntmps7
  go_wp2_with fail
  go_loopg [9] tT.length (fun r i wr => ∃ j : Nat, j + r = tT.length ∧ i = .int .i64 j ∧ ∃ m, wr = w.drewN m)
  case atStart => exact ⟨0, by omega, rfl, 0, rfl⟩
  case round =>
    obtain ⟨j, hj, rfl, md, hmd⟩ := hrel
    have HMD := hide hmd
    have hb : Below w.heap.size w wr := hmd ▸ below_drewN (Below.refl _ _) md
    have HB := hide hb
    clear hmd
    clear hb q0
    by_cases hlt : j < tT.length
    · have Y := hide (X.out.later HB.out)
      obtain ⟨r, hr⟩ : ∃ r, tT[j]? = some r := ⟨_, List.getElem?_eq_getElem hlt⟩
      have hlw : j < tW.length := by have := HLEN.out; omega
      obtain ⟨r2, hr2⟩ : ∃ r2, tW[j]? = some r2 := ⟨_, List.getElem?_eq_getElem hlw⟩
      obtain ⟨g, cp, e1, k1⟩ := Y.out.told.atq hr
      obtain ⟨g2, cp2, e2, k2⟩ := Y.out.was.atq hr2
      simp only [Value.slice.injEq] at e1 e2
      obtain ⟨rfl, _, rfl⟩ := e1
      obtain ⟨rfl, _, rfl⟩ := e2
      have htx : r.txt = r2.txt := by
        have h1 := congrArg (fun l => l[j]?) X.out.same
        simpa [hr, hr2] using h1
      have d0 : wr.cell? ⟨kb, 0, none⟩ = some (.slice (some ⟨g, 0, none⟩) tT.length c0) := by rw [cell_of_row _ _ _ _ _ _ Y.out.row]; rfl
      have d1 : wr.cell? ⟨kb, 1, none⟩ = some (.slice (some ⟨g2, 0, none⟩) tW.length c1) := by rw [cell_of_row _ _ _ _ _ _ Y.out.row]; rfl
      have k1' : wr.cell? ⟨g, j, none⟩ = some (.slice (some ⟨r.blk, 0, none⟩) r.txt.length r.cap) := k1
      have k2' : wr.cell? ⟨g2, j, none⟩ = some (.slice (some ⟨r2.blk, 0, none⟩) r2.txt.length r2.cap) := k2
      have hb1 := OwnS.bytes (Y.out.told.each r (List.mem_of_getElem? hr))
      have hb2 := OwnS.bytes (Y.out.was.each r2 (List.mem_of_getElem? hr2))
      have st1 := fun m : Nat => str_of (wr.drewN m) (some ⟨r.blk, 0, none⟩) r.txt.length r.cap r.txt hb1 rfl
      have st2 := fun m : Nat => str_of (wr.drewN m) (some ⟨r2.blk, 0, none⟩) r2.txt.length r2.cap r2.txt hb2 rfl
      rw [← htx] at st2 k2'
      generalize r.txt.length = n1 at k1' k2' st1 st2
      clear k1 k2 hb1 hb2 hr hr2 htx
      go_wp2_with fail
      go_quiet (fail)
      have HB2 := hide (show ∃ m, wr.drewN nq = w.drewN m from ⟨md + nq, by rw [HMD.out]; exact (add_drewN w md nq)⟩)
      clear st1 st2 k1' k2' d0 d1 Y
      go_wp2
      go_roundg (tT.length - j - 1)
      case measure => omega
      case rel => exact ⟨j + 1, by omega, by go_num, HB2.out⟩
    · have hje : (j : Int) = (tT.length : Int) := by omega
      have hji : ¬ (j : Int) < (tT.length : Int) := by omega
      go_wp2
      go_ret
      exact ⟨rfl, md, HMD.out⟩
end Go.Proofs.Ytdimllmbalponaa
