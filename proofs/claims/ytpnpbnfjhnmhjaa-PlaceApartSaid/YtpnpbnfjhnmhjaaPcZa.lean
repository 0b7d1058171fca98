/-
  What several sizes' places are, one by one; one span laid behind others.
-/
import Derived.Test.YtpnpbnfjhnmhjaaPcX
import Derived.Test.YtpnpbnfjhnmhjaaPcR
namespace Go.Proofs.Ytpnpbnfjhnmhjaa
open Go.RowKit Go.Shelf
attribute [local go_sem] Oper.semAt_some
set_option linter.unusedVariables false
set_option linter.unusedSimpArgs false
set_option maxRecDepth 100000

theorem fitS_take {l : List Ai} {sizes : List Int} {a L : Nat} : ∀ n ps, fitS l sizes a L n = some ps → ∀ i, i ≤ n → fitS l sizes a L i = some (ps.take i)
  | 0, ps, h, i, hi => by obtain rfl : i = 0 := by omega
                          cases h; rfl
  | n + 1, ps, h, i, hi => by
    have hlen := fitS_len (n + 1) ps h
    rcases Nat.lt_or_ge i (n + 1) with h1 | h1
    · cases h2 : fitS l sizes a L n with
      | none => rw [fitS_none h2 (n + 1) (by omega)] at h; cases h
      | some qs =>
        rw [fitS_next h2] at h
        cases h3 : firstF (tkn (l ++ spF sizes qs)) (sizes.getD n 0).toNat a L with
        | none => rw [h3] at h; cases h
        | some p =>
          rw [h3] at h
          cases h
          rw [fitS_take n qs h2 i (by omega), List.take_append_of_le_length (by have := fitS_len n qs h2; omega)]
    · obtain rfl : i = n + 1 := by omega
      rw [h, List.take_of_length_le (by omega)]
theorem fit_pre {l : List Ai} {sizes : List Int} {a L n i : Nat} {ps : List Nat} (h : fitS l sizes a L n = some ps) (hi : i < n) :
    ∃ p : Nat, (natI ps).getD i 0 = (p : Int) ∧ firstF (tkn (l ++ spF sizes (ps.take i))) (sizes.getD i 0).toNat a L = some p ∧ ps.take (i + 1) = ps.take i ++ [p] ∧ (ps.take i).length = i := by
  have hlen := fitS_len n ps h
  have h1 := fitS_take n ps h i (by omega)
  have h2 := fitS_take n ps h (i + 1) (by omega)
  rw [fitS_next h1] at h2
  cases h3 : firstF (tkn (l ++ spF sizes (ps.take i))) (sizes.getD i 0).toNat a L with
  | none => rw [h3] at h2; cases h2
  | some p =>
    rw [h3] at h2
    have h4 : ps.take (i + 1) = ps.take i ++ [p] := (Option.some.inj h2).symm
    have h5 : (ps.take i).length = i := by rw [List.length_take]; omega
    have h6 : ps[i]? = some p := by
      have : (ps.take (i + 1))[i]? = some p := by rw [h4, List.getElem?_append_right (by omega), h5]; simp
      rwa [List.getElem?_take, if_pos (by omega)] at this
    refine ⟨p, ?_, rfl, h4, h5⟩
    rw [List.getD_eq_getElem?_getD, natI, List.getElem?_map, h6]; rfl
theorem spF_next {sizes : List Int} {ps : List Nat} {i p z : Nat} (h : ps.take (i + 1) = ps.take i ++ [p]) (hl : (ps.take i).length = i) (hz : sizes.getD i 0 = (z : Int)) : spF sizes (ps.take (i + 1)) = spF sizes (ps.take i) ++ [((p : Int), (p : Int) + (z : Int))] := by
  rw [h, spF_snoc, hl, hz]
/-- what Fit answers, in two lots -/
theorem fit_two (l : List Ai) (sizes : List Int) (align limit : Int) : (∃ code : Int, (code = 2 ∨ code = 160) ∧ ∀ B w' e, fitR B w' l sizes align limit e → e = .returned (.tuple #[.slice none 0 0, .int .i64 code])) ∨
    ∃ (a L : Nat) (ps : List Nat), align = a ∧ limit = L ∧ 0 < a ∧ a ≤ 1048576 ∧ L ≤ 1048576 ∧ (∀ z ∈ sizes, 0 ≤ z ∧ z ≤ 1048576) ∧ fitS l sizes a L sizes.length = some ps ∧ (∀ p ∈ ps, p ≤ L) ∧ ∀ B w' e, fitR B w' l sizes align limit e → ∃ v, e = .returned (.tuple #[v, .int .i64 0]) ∧ OwnI w' B v (natI ps) := by
  cases hm : mayAll sizes align limit with
  | false => exact .inl ⟨2, .inl rfl, fun B w' e h => by unfold fitR at h; rw [hm] at h; exact h⟩
  | true =>
    obtain ⟨hm0, hma⟩ := mayAll_t hm
    obtain ⟨_, _, h3, h4, h5, h6⟩ := mayB_t hm0
    obtain ⟨a, rfl⟩ := Int.eq_ofNat_of_zero_le (show 0 ≤ align by omega)
    obtain ⟨L, rfl⟩ := Int.eq_ofNat_of_zero_le h5
    cases hf : fitS l sizes a L sizes.length with
    | none => exact .inl ⟨160, .inr rfl, fun B w' e h => by unfold fitR at h; rw [if_pos hm, show ((a : Int).toNat) = a from rfl, show ((L : Int).toNat) = L from rfl, hf] at h; exact h⟩
    | some ps =>
      refine .inr ⟨a, L, ps, rfl, rfl, by omega, by omega, by omega, fun z hz => by have := mayB_t (hma z hz); exact ⟨this.1, this.2.1⟩, hf, fitS_le _ _ hf, fun B w' e h => ?_⟩
      unfold fitR at h
      rw [if_pos hm, show ((a : Int).toNat) = a from rfl, show ((L : Int).toNat) = L from rfl, hf] at h
      exact h
/-- one span laid behind those that one has -/
theorem app_one (W0 W : World) (B : Nat) (A : Option Addr) (c n : Nat) (xs : List Value) (x y : Int) (hO : W.ownsRow B 37 2 (.slice A n c) n xs) (hn : n ≤ 10000) (hb : Below B W0 W) (hB : B ≤ W.heap.size) :
    ∃ v' w', (Builtin.append_ #[22, 22] 22 #[.slice A n c, .slice (some ⟨W.heap.size, 0, none⟩) 1 1]).run Try.prog (W.alloc (.cells #[.int .i64 x, .int .i64 y] 37)) = .ok v' w' ∧ w'.ownsRow B 37 2 v' (n + 1) (xs ++ [.int .i64 x, .int .i64 y]) ∧ Below B W0 w' := by
  have hown := own_below hO (bal W (.cells #[.int .i64 x, .int .i64 y] 37)) (Nat.le_refl _)
  have hq := heap_alloc_new W (.cells #[.int .i64 x, .int .i64 y] 37)
  rcases hi' : Try.prog.info? 37 with _ | i
  · have := info_span; rw [hi'] at this; cases this
  have hinf := info_span
  rw [hi'] at hinf
  simp only [Option.map_some, Option.some.injEq, Prod.mk.injEq] at hinf
  obtain ⟨hz, hs1, hby⟩ := hinf
  obtain ⟨v', w', hr, r1, r2, _, r3⟩ := run_append_own_at (P := Try.prog) (W.alloc (.cells #[.int .i64 x, .int .i64 y] 37)) B 22 22 37 i _ 2 16 under_spans hi' hz hs1 hby rfl (by decide) _ n _ hown ⟨W.heap.size, 0, none⟩ 1 1 [.int .i64 x, .int .i64 y] rfl (fun j u hu => by rw [plain_add, cell_of_row _ _ _ _ _ _ hq]; simpa using hu) (by simp [Value.oneCell']) (by simp only [maxLen]; omega) (by omega) (by simp; omega)
  exact ⟨v', w', hr, r1, below_own (hb.alloc hB _) hown r2 (Nat.le_refl _) (by simp; omega)⟩
theorem op_app {o : Oper} {ρ : Operand → Value} {s x : Operand} {t ty : TypeId} {W W' : World} {v a b : Value} (ho : o.op = .call { callee := .builtin .append, args := #[s, x], argTypes := #[t, t] }) (hs : ρ s = a) (hx : ρ x = b) (ht : o.type = ty)
    (hr : (Builtin.append_ #[t, t] ty #[a, b]).run Try.prog W = .ok v W') : (execOp ρ o).run Try.prog W = .ok (.value v) W' := by
  subst ht
  unfold execOp
  simp only [ho, resolve, invoke, builtin, Sem.run_bind, Sem.run_pure, Result.andThen_ok, List.map_toArray, List.map_cons, List.map_nil, hs, hx, hr]
end Go.Proofs.Ytpnpbnfjhnmhjaa
