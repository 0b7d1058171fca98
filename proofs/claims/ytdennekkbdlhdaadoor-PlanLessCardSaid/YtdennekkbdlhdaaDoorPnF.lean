/-
  A task is given the first places of a row that are not given yet; and all rows of windows.
-/
import Derived.Test.YtdennekkbdlhdaaDoorPnE
namespace Go.Proofs.YtdennekkbdlhdaaDoor
open Go.RowKit Go.Shelf
attribute [local go_sem] Oper.semAt_some
set_option linter.unusedVariables false
set_option linter.unusedSimpArgs false
set_option maxRecDepth 100000

/-- a row of which some places are given: X, then free ones -/
def rowX (n : Nat) (X : List Int) : List Int := X ++ List.replicate (n - X.length) (-1)
theorem rowX_len {n : Nat} {X : List Int} (h : X.length ≤ n) : (rowX n X).length = n := by
  unfold rowX; rw [List.length_append, List.length_replicate]; omega
theorem rowX_given {n : Nat} {X : List Int} {j : Nat} (h : j < X.length) (hX : ∀ x ∈ X, x ≠ -1) : ((rowX n X).getD j 0 == -1) = false := by
  rw [beq_eq_false_iff_ne]
  unfold rowX
  rw [List.getD_eq_getElem?_getD, List.getElem?_append_left h, List.getElem?_eq_getElem h]
  exact hX _ (List.getElem_mem _)
theorem rowX_free {n : Nat} {X : List Int} (h : X.length < n) : ((rowX n X).getD X.length 0 == -1) = true := by
  unfold rowX
  rw [List.getD_eq_getElem?_getD, List.getElem?_append_right (Nat.le_refl _), Nat.sub_self, List.getElem?_replicate, if_pos (by omega)]; rfl
theorem rowX_put {n : Nat} {X : List Int} (h : X.length < n) (t : Int) : (rowX n X).set X.length t = rowX n (X ++ [t]) := by
  unfold rowX
  have e : n - X.length = (n - (X ++ [t]).length) + 1 := by rw [List.length_append, List.length_singleton]; omega
  rw [List.set_append_right _ _ (Nat.le_refl _), Nat.sub_self, e, List.replicate_succ, List.set_cons_zero, List.append_assoc]; rfl

set_option maxHeartbeats 1000000 in
theorem give_at (g base n c : Nat) (X : List Int) (t : Int) (s : Nat) (w : World) (hO : w.ownsRow base 3 1 (.slice (some ⟨g, 0, none⟩) n c) n ((rowX n X).map (Value.int .i64))) (hX : ∀ x ∈ X, x ≠ -1) (ht : t ≠ -1) (hn : n ≤ 100) (hXn : X.length ≤ n) (hs : s ≤ 100) :
    Calls Tryd.prog 22 #[.slice (some ⟨g, 0, none⟩) n c, .int .i64 t, .int .i64 (s : Nat)] w fun e w' => w.grownBy w' (some g) ∧ w'.heap.size = w.heap.size ∧
      ((X.length + s ≤ n ∧ e = .returned (.bool true) ∧ w'.ownsRow base 3 1 (.slice (some ⟨g, 0, none⟩) n c) n ((rowX n (X ++ List.replicate s t)).map (Value.int .i64))) ∨
       (n < X.length + s ∧ e = .returned (.bool false))) := by
  have HO := hide hO
  have HX := hide hX
  have HT := hide ht
  clear hO hX ht
  go_enter Tryd.func22, Tryd.ntmps22
  go_wp2_with fail
  refine wp_scope_straight ?_
  go_wp2_with fail
  apply wp_label
  go_wp2_with fail
  go_loopw [10] (fun kv wr => ∃ k : Nat, k ≤ s ∧ kv = .int .i64 k ∧ X.length + k ≤ n ∧ wr.ownsRow base 3 1 (.slice (some ⟨g, 0, none⟩) n c) n ((rowX n (X ++ List.replicate k t)).map (Value.int .i64)) ∧ w.grownBy wr (some g) ∧ wr.heap.size = w.heap.size) (fun kv _ => s - (intOf kv).toNat)
  case atStart => exact ⟨0, Nat.zero_le _, rfl, by omega, by simpa using HO.out, ⟨rfl, rfl, rfl, Nat.le_refl _, fun _ _ _ => rfl⟩, rfl⟩
  case round =>
    obtain ⟨k, hk, rfl, hkn, hO, hg, hsz⟩ := hrel
    have HO1 := hide hO
    have HG := hide hg
    have HSz := hide hsz
    clear hO hg hsz
    by_cases hlt : k < s
    · obtain ⟨Y, hY⟩ : ∃ Y, Y = X ++ List.replicate k t := ⟨_, rfl⟩
      have HY := hide hY
      obtain ⟨y, hy⟩ : ∃ y, y = Y.length := ⟨_, rfl⟩
      have hYl : y = X.length + k := by rw [hy, hY]; simp
      have HYl := hide hYl
      have HYy := hide hy
      have hyn : y ≤ n := by omega
      have HYx := hide (show ∀ x ∈ Y, x ≠ -1 from fun x hx => by
        rw [hY] at hx
        rcases List.mem_append.1 hx with h | h
        · exact HX.out x h
        · rw [(List.mem_replicate.1 h).2]; exact HT.out)
      have HY1 := hide (show Y ++ [t] = X ++ List.replicate (k + 1) t by rw [hY, List.append_assoc, List.replicate_succ'])
      rw [← hY] at HO1
      clear hY hYl hy
      go_wp2_with fail
      go_loop [14] (fun iv => ∃ j : Nat, j ≤ y ∧ iv = .int .i64 j) (fun iv => n - (intOf iv).toNat)
      case atStart => exact ⟨0, Nat.zero_le _, rfl⟩
      case round =>
        obtain ⟨j, hj, rfl⟩ := hrel
        by_cases hjn : j < n
        · have hu : ((rowX n Y).map (Value.int .i64))[j]? = some (.int .i64 ((rowX n Y).getD j 0)) := by
            rw [List.getElem?_map, List.getD_eq_getElem?_getD, List.getElem?_eq_getElem (by rw [rowX_len (by rw [← HYy.out]; exact hyn)]; exact hjn)]; rfl
          obtain ⟨g', c', e1, e2, e3⟩ := own_cell HO1.out hu
          cases e1
          by_cases hjy : j < y
          · have h1 := rowX_given (n := n) (show j < Y.length by rw [← HYy.out]; exact hjy) HYx.out
            generalize (rowX n Y).getD j 0 = z at *
            clear hu
            go_wp2_with fail
            go_round
            case rel => exact ⟨j + 1, by omega, by go_num⟩
            case measure => simp [intOf]; omega
          · obtain rfl : j = y := by omega
            have h1 := rowX_free (X := Y) (by rw [← HYy.out]; exact hjn)
            have HP := hide (rowX_put (X := Y) (by rw [← HYy.out]; exact hjn) t)
            rw [← HYy.out] at h1 HP
            have HQ := hide (own_putN HO1.out j (.int .i64 t))
            have hgl := (own_block HO1.out rfl).1
            have hfz : wr.frozen? ⟨g, j, none⟩ = false := by
              obtain ⟨_, _, cur, hc⟩ := own_block HO1.out (k := g) rfl
              simp [World.frozen?, hc]
            generalize (rowX n Y).getD j 0 = z at *
            clear hu
            go_wp2_with fail
            go_roundw
            case rel =>
              refine ⟨k + 1, hlt, by go_num, by have := HYl.out; omega, ?_, grown_two HG.out ⟨rfl, rfl, rfl, by simp, fun k hk hne => setCell_other (fun e => hne (by rw [e]))⟩, by simp; exact HSz.out⟩
              rw [← HY1.out, ← HP.out]
              have := HQ.out
              rwa [← List.map_set] at this
            case measure => simp [intOf]; omega
        · go_wp2_with fail
          go_ret
          exact ⟨HG.out, HSz.out, .inr ⟨by have := HYl.out; omega, rfl⟩⟩
    · obtain rfl : k = s := by omega
      go_wp2_with fail
      rw [Exit.noGoto_ret]
      go_ret
      exact ⟨HG.out, HSz.out, .inl ⟨hkn, rfl, HO1.out⟩⟩
end Go.Proofs.YtdennekkbdlhdaaDoor
