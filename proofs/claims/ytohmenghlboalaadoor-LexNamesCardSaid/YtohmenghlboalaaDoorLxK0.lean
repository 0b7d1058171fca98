/-
  How many tokens a text has, and how far to the right they stand.
-/
import Derived.Test.YtohmenghlboalaaDoorLxF
namespace Go.Proofs.YtohmenghlboalaaDoor
open Go.RowKit Go.Shelf
attribute [local go_sem] Oper.semAt_some
set_option linter.unusedVariables false
set_option linter.unusedSimpArgs false
set_option maxRecDepth 100000

theorem lexL_len : ∀ (n : Nat) (l : List UInt8) (ln cl : Nat) (bh : Bool), l.length ≤ n → 1 ≤ cl → (lexL l ln cl bh).1.length ≤ l.length ∧ ∀ t ∈ (lexL l ln cl bh).1, t.cl ≤ cl + l.length := by
  intro n
  induction n with
  | zero =>
    intro l ln cl bh h _
    rw [List.length_eq_zero_iff.1 (Nat.le_zero.1 h)]
    exact ⟨Nat.le_refl _, fun t ht => by cases ht⟩
  | succ n ih =>
    intro l ln cl bh h hc
    cases l with
    | nil => exact ⟨Nat.le_refl _, fun t ht => by cases ht⟩
    | cons c r =>
      simp only [List.length_cons] at h ⊢
      have hd : ∀ m, (r.drop m).length = r.length - m := fun m => List.length_drop
      have hw := tkw_le nnl r
      rw [lexL_cons]
      split
      · have h1 := ih (r.drop (tkw nnl r)) ln (cl + 1 + tkw nnl r) false (by rw [hd]; omega) (by omega)
        rw [hd] at h1
        exact ⟨by omega, fun t ht => by have := h1.2 t ht; omega⟩
      · split
        · have h1 := ih r (ln + 1) 1 false (by omega) (by omega)
          exact ⟨by omega, fun t ht => by have := h1.2 t ht; omega⟩
        · split
          · have h1 := ih r ln (cl + 1) false (by omega) (by omega)
            exact ⟨by omega, fun t ht => by have := h1.2 t ht; omega⟩
          · split
            · exact ⟨Nat.zero_le _, fun t ht => by cases ht⟩
            · rename_i x hx
              have hxl := fst_le hx
              split
              · exact ⟨Nat.zero_le _, fun t ht => by cases ht⟩
              · have h1 := ih (r.drop x.2.1) ln (cl + 1 + x.2.1) (x.1 == 2) (by rw [hd]; omega) (by omega)
                rw [hd] at h1
                refine ⟨by simp only [List.length_cons]; omega, fun t ht => ?_⟩
                rcases List.mem_cons.1 ht with rfl | ht
                · show cl ≤ _; omega
                · have := h1.2 t ht; omega

theorem yl_len (s : ByteArray) : (Yl s).length ≤ s.size + 1 := by
  unfold Yl ysF
  have h1 := (lexL_len _ (byt s) 1 1 false (Nat.le_refl _) (Nat.le_refl _)).1
  rw [byt_len] at h1
  rw [List.length_append]
  split <;> simp <;> omega
end Go.Proofs.YtohmenghlboalaaDoor
