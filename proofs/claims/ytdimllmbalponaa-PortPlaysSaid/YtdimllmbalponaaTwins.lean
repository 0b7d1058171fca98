/-
  rotaref04.twins: rows of bytes, each in memory of its own; a box of the document's own.
-/
import Derived.Test.YtdimllmbalponaaTwin
namespace Go.Proofs.Ytdimllmbalponaa
open Go.RowKit Go.Shelf
set_option linter.unusedVariables false

theorem Got.own {W W' : World} {v : Value} {l : List Nat} (g : Got W W' v l) (h : 0 < l.length) : ∃ r : Rw, v = r.cell ∧ r.txt = l ∧ r.at W' W.heap.size := by
  rcases g with ⟨_, rfl⟩ | ⟨q, c, rfl, ho⟩
  · simp at h
  · exact ⟨⟨q, c, l⟩, rfl, rfl, ho⟩

set_option maxRecDepth 100000 in
set_option maxHeartbeats 1000000 in
theorem twins_at (A : Option Addr) (n c : Nat) (rs : List Rw) (w : World) (hn : rs.length = n) (hn2 : n ≤ 1000) (hc : n ≤ c) (hR : RowsAt w A rs) (hs : ∀ r ∈ rs, 0 < r.txt.length ∧ r.txt.length ≤ 1000) :
    Calls Try.prog 38 #[.slice A n c] w fun e w' => ∃ v rs', e = .returned v ∧ Rws w' w.heap.size v rs' ∧ rs'.map Rw.txt = rs.map Rw.txt ∧ Below w.heap.size w w' := by
  have HR := hide hR; have HN := hide hn; have HS := hide hs
  clear hR hn hs
  go_enter Try.func38, Try.ntmps38
  go_wp2_with fail
  go_loopg [3, 4] n (fun r v i wr => ∃ (j : Nat) (rs' : List Rw), j + r = n ∧ i = .int .i64 j ∧ Rws wr w.heap.size v rs' ∧ rs'.map Rw.txt = (rs.take j).map Rw.txt ∧ Below w.heap.size w wr)
  case atStart => exact ⟨0, [], by omega, rfl, Rws.nil _ _, by simp, Below.refl _ _⟩
  case round =>
    obtain ⟨j, rs', hj, rfl, x, ht, hb⟩ := hrel
    have hzr := hb.size
    have hlen : rs'.length ≤ 1000 := by
      have h1 := congrArg List.length ht
      simp only [List.length_map, List.length_take] at h1
      omega
    have X := hide x; have HT := hide ht; have HB := hide hb
    obtain ⟨A0, c0, rfl, _, _⟩ := x.len
    clear x ht hb
    by_cases hlt : j < n
    · obtain ⟨r, hr⟩ : ∃ r, rs[j]? = some r := ⟨_, List.getElem?_eq_getElem (by rw [HN.out]; exact hlt)⟩
      have hmem : r ∈ rs := List.mem_of_getElem? hr
      have hsz := HS.out r hmem
      have hR2 := HR.out.of_below HB.out (Nat.le_refl _)
      obtain ⟨g, off, hA, hg, hcell⟩ : ∃ g off, A = some ⟨g, off, none⟩ ∧ g < wr.heap.size ∧ wr.cell? ⟨g, off + j, none⟩ = some r.cell := by
        rcases hR2.1 with h | ⟨g, off, h1, h2, h3⟩
        · rw [h] at hr; simp at hr
        · exact ⟨g, off, h1, h2, h3 j r hr⟩
      subst hA
      have hby := hR2.2 r hmem
      have HRE := hide hr
      have q0 : wr.cell? ⟨g, off + j, none⟩ = some (.slice (some ⟨r.blk, 0, none⟩) r.txt.length r.cap) := hcell
      have HBY := hide hby
      clear hR2 hcell hby hr
      go_wp2_with fail
      refine (twin_at (some ⟨r.blk, 0, none⟩) r.txt.length r.cap r.txt wr rfl HBY.out (by omega)).mono ?_
      rintro e w1 ⟨v, rfl, gg, hb1⟩
      obtain ⟨r', rfl, htx, hat⟩ := gg.own hsz.1
      have X1 := hide (X.out.later hb1); have HB1 := hide (HB.out.trans (hb1.mono (by omega)))
      have HA1 := hide (OwnS.from hat (Nat.le_trans hzr (OwnS.base hat)))
      have HTX := hide htx
      have hz1 := hb1.size
      have hbl : r'.blk < w1.heap.size := OwnS.blk hat
      have hbn : ∀ k, (Value.slice A0 rs'.length c0).ownBlock = some k → k ≠ r'.blk := fun k hk e => by
        have h1 := (X.out.blk hk).1; have h2 := OwnS.base hat; omega
      clear gg hb1 hat htx q0
      obtain ⟨R1, hR1⟩ : ∃ R1, r'.cell = R1 := ⟨_, rfl⟩
      have hR1c : R1.oneCell' = true := by rw [← hR1]; rfl
      rw [hR1]
      have HR1 := hide hR1
      obtain ⟨A5, n5, c5, rfl⟩ : ∃ A n c, R1 = .slice A n c := ⟨_, _, _, hR1.symm⟩
      clear hR1
      go_wp2_with (at_builtin
                   refine wpList_row_append rfl (.tmp 17) (.tmp 19) rfl w.heap.size (.slice A0 rs'.length c0) rs' rfl (X1.out.later (bal w1 (.cells #[.slice A5 n5 c5] 37))) w1.heap.size 1 r' rfl (by rw [cell_of_row _ _ _ _ _ _ (heap_alloc_new w1 _), HR1.out]; rfl) (OwnS.later HA1.out (bal w1 _) hbl) (fun e => hbn _ e rfl) (by omega) (by simp; omega) ?_
                   intro h2 w2 x2 hg2 _
                   have X2 := hide x2
                   have HB2 := hide ((HB1.out.trans ((bal w1 (.cells #[.slice A5 n5 c5] 37)).mono (by omega))).trans ((Below.refl _ _).grown hg2 (by simp; omega) (fun k hk => ((X1.out.later (bal w1 (.cells #[.slice A5 n5 c5] 37))).blk hk).2.1)))
                   obtain ⟨A6, c6, rfl, _, _⟩ := x2.len
                   clear x2 hg2)
      go_roundg (n - j - 1)
      case measure => omega
      case rel => exact ⟨j + 1, rs' ++ [r'], by omega, by go_num, (by have h := X2.out; rw [List.length_append] at h; exact h), by rw [List.map_append, HT.out, List.take_add_one, HRE.out]; simp [HTX.out], HB2.out⟩
    · obtain rfl : j = n := by omega
      go_wp2
      go_ret
      exact ⟨_, rs', rfl, X.out, by rw [HT.out, ← HN.out, List.take_length], HB.out⟩
end Go.Proofs.Ytdimllmbalponaa
