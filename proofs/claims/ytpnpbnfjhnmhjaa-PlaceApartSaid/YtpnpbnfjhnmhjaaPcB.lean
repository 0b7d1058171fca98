/-
  Spans and numbers of one's own; the document's own list of places.
-/
import Derived.Test.YtpnpbnfjhnmhjaaPcA
namespace Go.Proofs.Ytpnpbnfjhnmhjaa
open Go.RowKit Go.Shelf
set_option linter.unusedVariables false
set_option linter.unusedSimpArgs false
set_option maxRecDepth 100000

theorem info_span : (Try.prog.info? 37).map (fun i => (i.zero, i.size, i.bytes)) = some (some (.agg #[.int .i64 0, .int .i64 0]), 2, 16) := by kernel_rfl
theorem under_spans : Try.prog.underlying 22 = some (.slice 37) := Try.underlying22
theorem info_int : (Try.prog.info? 3).map (fun i => (i.zero, i.size, i.bytes)) = some (some (.int .i64 0), 1, 8) := by kernel_rfl
theorem under_ints : Try.prog.underlying 23 = some (.slice 3) := Try.underlying23
def flatA (l : List Ai) : List Value := l.flatMap fun a => [.int .i64 a.1, .int .i64 a.2]
theorem flatA_snoc (l : List Ai) (a : Ai) : flatA (l ++ [a]) = flatA l ++ [.int .i64 a.1, .int .i64 a.2] := by simp [flatA]
theorem flatA_len : ∀ l : List Ai, (flatA l).length = l.length * 2
  | [] => rfl
  | a :: l => by
    have := flatA_len l
    unfold flatA at *
    simp only [List.flatMap_cons, List.length_append, List.length_cons, List.length_nil]
    omega
theorem flatA_get : ∀ (l : List Ai) (k : Nat), k < l.length → (flatA l)[k * 2]? = some (.int .i64 (l.getD k (0, 0)).1) ∧ (flatA l)[k * 2 + 1]? = some (.int .i64 (l.getD k (0, 0)).2)
  | [], k, h => by simp at h
  | a :: l, 0, _ => ⟨rfl, rfl⟩
  | a :: l, k + 1, h => by
    obtain ⟨h1, h2⟩ := flatA_get l k (by simpa using h)
    have e : (k + 1) * 2 = k * 2 + 1 + 1 := by omega
    unfold flatA at *
    rw [e]
    exact ⟨h1, h2⟩
theorem flatA_one (l : List Ai) : ∀ u ∈ flatA l, u.oneCell' = true := by
  intro u hu
  unfold flatA at hu
  obtain ⟨a, _, h⟩ := List.mem_flatMap.1 hu
  simp at h
  rcases h with rfl | rfl <;> rfl
theorem flatA_at {w : World} {b off : Nat} {l : List Ai} (h : Sps w (some ⟨b, off, none⟩) l) : ∀ (j : Nat) (u : Value), (flatA l)[j]? = some u → w.cell? ⟨b, off + j, none⟩ = some u := by
  intro j u hj
  have hlt : j < l.length * 2 := by
    rw [← flatA_len]
    exact (List.getElem?_eq_some_iff.1 hj).1
  obtain ⟨b', off', e, _, c0, c1⟩ := h.at (k := j / 2) (by omega)
  obtain ⟨rfl, rfl⟩ : b = b' ∧ off = off' := by cases e; exact ⟨rfl, rfl⟩
  obtain ⟨g0, g1⟩ := flatA_get l (j / 2) (by omega)
  rcases Nat.mod_two_eq_zero_or_one j with hm | hm
  · have ej : j / 2 * 2 = j := by omega
    rw [ej] at c0 g0
    rw [c0, ← g0, hj]
  · have ej : j / 2 * 2 + 1 = j := by omega
    rw [Nat.add_assoc, ej] at c1
    rw [ej] at g1
    rw [c1, ← g1, hj]
/-- spans of one's own; numbers of one's own -/
abbrev OwnA (W : World) (B : Nat) (h : Value) (l : List Ai) : Prop := W.ownsRow B 37 2 h l.length (flatA l)
abbrev OwnI (W : World) (B : Nat) (h : Value) (l : List Int) : Prop := W.ownsRow B 3 1 h l.length (l.map (Value.int .i64))
theorem own_spans {W : World} {B : Nat} {h : Value} {l : List Ai} (x : OwnA W B h l) (hl : ∀ z ∈ l, I64 z.1 ∧ I64 z.2) : ∃ A c, h = .slice A l.length c ∧ Sps W A l := by
  rcases x.2 with ⟨rfl, h0⟩ | ⟨g, cap, cur, rfl, hg, hh, _, _, _, ht⟩
  · exact ⟨_, _, by rw [h0], hl, .inl h0⟩
  · refine ⟨_, cap, rfl, hl, .inr ⟨g, 0, rfl, (Array.getElem?_eq_some_iff.1 hh).1, fun i hi => ?_⟩⟩
    obtain ⟨g0, g1⟩ := flatA_get l i hi
    rw [← ht, List.getElem?_take] at g0 g1
    rw [Nat.zero_add]
    constructor
    · rw [cell_of_row _ _ _ _ _ _ hh]
      split at g0
      · simpa using g0
      · cases g0
    · rw [cell_of_row _ _ _ _ _ _ hh]
      split at g1
      · simpa using g1
      · cases g1
theorem ownA_base {W : World} {B C : Nat} {v : Value} {l : List Ai} (h : OwnA W B v l) (hC : C ≤ B) : OwnA W C v l := by
  refine ⟨h.1, ?_⟩
  rcases h.2 with h1 | ⟨g, cap, cur, h1, h2, h3⟩
  · exact .inl h1
  · exact .inr ⟨g, cap, cur, h1, Nat.le_trans hC h2, h3⟩
theorem ownI_base {W : World} {B C : Nat} {v : Value} {l : List Int} (h : OwnI W B v l) (hC : C ≤ B) : OwnI W C v l := by
  refine ⟨h.1, ?_⟩
  rcases h.2 with h1 | ⟨g, cap, cur, h1, h2, h3⟩
  · exact .inl h1
  · exact .inr ⟨g, cap, cur, h1, Nat.le_trans hC h2, h3⟩
/-- append to nothing of one's own of whatever spans a slice has -/
theorem wpList_spans {ops : Array Oper} {rest : List Oper} {o : Oper} {a : Act} {Q : Exit → Act → World → Prop} (w : World) (hgd : o.guard = none) (s x : Operand)
    (ho : o.op = .call { callee := .builtin .append, args := #[s, x], argTypes := #[22, 22] }) (B : Nat) (v0 : Value) (hs : a.eval s = v0) (hO : w.ownsRow B 37 2 v0 0 []) (hB : B ≤ w.heap.size)
    (A : Option Addr) (l : List Ai) (c N : Nat) (hN : N = l.length) (hx : a.eval x = .slice A N c) (hI : Sps w A l) (hl : l.length ≤ 100000)
    (h : ∀ v w', OwnA w' B v l → w.grownBy w' v0.ownBlock → wpList Try.prog ops Q rest (a.put o.dst v) w') :
    wpList Try.prog ops Q (o :: rest) a w := by
  subst hN
  have hi := info_span
  rcases hi' : Try.prog.info? 37 with _ | i
  · rw [hi'] at hi; cases hi
  rw [hi'] at hi
  simp only [Option.map_some, Option.some.injEq, Prod.mk.injEq] at hi
  obtain ⟨hz, hs1, hb⟩ := hi
  rcases A with _ | ad
  · have h0 : l = [] := by
      rcases hI.2 with h | ⟨b, off, e, _⟩
      · exact List.length_eq_zero_iff.1 h
      · cases e
    subst h0
    refine wpList_plain hgd fun K hK => ?_
    have hrun : (Builtin.append_ #[22, 22] o.type #[v0, .slice none 0 c]).run Try.prog w = .ok v0 w := by
      rcases hO.2 with ⟨rfl, _⟩ | ⟨g, cap, cur, rfl, _⟩
      · simp [Builtin.append_, run_underlying under_spans, sizeOf, typeInfo, hi', Builtin.lenOf, Builtin.firstCells, storeCells]
      · simp [Builtin.append_, run_underlying under_spans, sizeOf, typeInfo, hi', Builtin.lenOf, Builtin.firstCells, storeCells]
    unfold Oper.wp execOp
    simp only [ho, resolve, invoke, builtin, Sem.run_bind, Sem.run_pure, Result.andThen_ok, List.map_toArray, List.map_cons, List.map_nil, hs, hx, List.length_nil, hrun]
    exact hK _ _ (h _ w hO ⟨rfl, rfl, rfl, Nat.le_refl _, fun _ _ _ => rfl⟩)
  · refine wpList_append_own_at w hgd s x _ ho B 37 i _ 2 16 under_spans hi' hz hs1 hb rfl (by decide) _ 0 [] hs hO ad l.length c (flatA l) hx (flatA_len l) ?_ (flatA_one l) (by simp only [maxLen]; omega) (by omega) hB ?_
    · intro j u hu
      have hj : j < l.length * 2 := by rw [← flatA_len]; exact (List.getElem?_eq_some_iff.1 hu).1
      obtain ⟨b, off, e, _, _⟩ := hI.at (k := j / 2) (by omega)
      obtain rfl := Option.some.inj e
      rw [plain_add]
      exact flatA_at hI j u hu
    · intro v' w' hown hg _ _
      refine h v' w' ?_ hg
      rw [Nat.zero_add, List.nil_append] at hown
      exact hown

/-! ### the document's Fit -/
def mayAll (sizes : List Int) (align limit : Int) : Bool := mayB 0 align limit && sizes.all fun z => mayB z align limit
theorem mayAll_t {sizes : List Int} {align limit : Int} (h : mayAll sizes align limit = true) : mayB 0 align limit = true ∧ ∀ z ∈ sizes, mayB z align limit = true := by
  unfold mayAll at h
  rw [Bool.and_eq_true] at h
  exact ⟨h.1, List.all_eq_true.1 h.2⟩
/-- what a list of places is -/
def fitR (B : Nat) (w' : World) (l : List Ai) (sizes : List Int) (align limit : Int) (e : Ending) : Prop :=
  if mayAll sizes align limit then match fitS l sizes align.toNat limit.toNat sizes.length with
    | some ps => ∃ v, e = .returned (.tuple #[v, .int .i64 0]) ∧ OwnI w' B v (ps.map fun (p : Nat) => (p : Int))
    | none => e = .returned (.tuple #[.slice none 0 0, .int .i64 160])
  else e = .returned (.tuple #[.slice none 0 0, .int .i64 2])
theorem fitS_le {l : List Ai} {sizes : List Int} {align limit : Nat} : ∀ k ps, fitS l sizes align limit k = some ps → ∀ p ∈ ps, p ≤ limit
  | 0, ps, h => by cases h; intro p hp; cases hp
  | k + 1, ps, h => by
    unfold fitS at h
    cases h1 : fitS l sizes align limit k with
    | none => rw [h1] at h; cases h
    | some qs =>
      rw [h1] at h
      dsimp only at h
      cases h2 : firstF (tkn (l ++ spF sizes qs)) (sizes.getD k 0).toNat align limit with
      | none => rw [h2] at h; cases h
      | some p =>
        rw [h2] at h; cases h
        intro q hq
        rcases List.mem_append.1 hq with hq | hq
        · exact fitS_le k qs h1 q hq
        · obtain rfl := List.mem_singleton.1 hq
          have := (fitsB_iff.1 (firstF_some.1 h2).1).2.1
          omega
theorem getD_mem {l : List Int} {k : Nat} (h : k < l.length) : l.getD k 0 ∈ l := by
  rw [List.getD_eq_getElem?_getD, List.getElem?_eq_getElem h]; exact List.getElem_mem _
/-- what was placed, as spans: small numbers -/
theorem spF_ok {sizes : List Int} {ps : List Nat} {limit : Nat} (hs : ∀ z ∈ sizes, 0 ≤ z ∧ z ≤ 1048576) (hlm : limit ≤ 1048576) (hp : ∀ p ∈ ps, p ≤ limit) : ∀ s ∈ spF sizes ps, I64 s.1 ∧ I64 s.2 := by
  intro s h
  unfold spF at h
  obtain ⟨⟨p, i⟩, hx, rfl⟩ := List.mem_map.1 h
  have h1 := hp p (by
    have := List.mem_zipIdx hx
    rw [this.2.2]
    exact List.getElem_mem _)
  have h2 : 0 ≤ sizes.getD i 0 ∧ sizes.getD i 0 ≤ 1048576 := by
    rcases Nat.lt_or_ge i sizes.length with h3 | h3
    · exact hs _ (getD_mem h3)
    · rw [List.getD_eq_getElem?_getD, List.getElem?_eq_none h3]; simp
  unfold I64
  dsimp only
  omega
end Go.Proofs.Ytpnpbnfjhnmhjaa
