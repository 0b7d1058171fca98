/-
  Ports and calls that came in; New of any port.
-/
import Derived.Test.YtdimllmbalponaaCopyBox
import Derived.Test.YtdimllmbalponaaSame
import Derived.Test.YtdimllmbalponaaOpen
namespace Go.Proofs.Ytdimllmbalponaa
open Go.RowKit Go.Shelf Go.ChangeShapes Go.WideShapes
set_option linter.unusedVariables false

/-- what a port of this kind and direction may be, and what it does -/
def prm (pt k d s e f : Int) : Prm :=
  if k = 1 then (if d = 1 then ⟨pt, k, d, s, e, f, 0, 0, 0, 0, .func (.func 25) #[] #[], .func (.func 26) #[] #[]⟩ else ⟨pt, k, d, s, e, f, 0, 0, 1, 65535, .func (.func 25) #[] #[], .func (.func 27) #[] #[]⟩)
  else (if d = 1 then ⟨pt, k, d, s, e, f, 1, 8, 0, 0, .func (.func 28) #[] #[], .func (.func 29) #[] #[]⟩ else ⟨pt, k, d, s, e, f, 1, 8, 0, 0, .func (.func 30) #[] #[], .func (.func 31) #[] #[]⟩)
/-- may a port be? -/
def May (k d s e f : Int) : Prop :=
  (k = 1 ∨ k = 2) ∧ (d = 1 ∨ d = 2) ∧ (1 ≤ s ∧ s ≤ 32) ∧ (if k = 2 then 1 ≤ e ∧ e ≤ 8 else e = 0) ∧ (if k = 1 ∧ d = 2 then 1 ≤ f ∧ f ≤ 65535 else f = 0)
instance (k d s e f : Int) : Decidable (May k d s e f) := by unfold May; infer_instance
theorem new_any (pt k d s e f : Int) (w : World) : Calls Try.prog 4 #[.agg #[.int .i64 pt, .int .i64 k, .int .i64 d, .int .i64 s, .int .i64 e, .int .i64 f]] w fun e' w' =>
    ((May k d s e f ∧ ∃ b, e' = .returned (.tuple #[.pointer (some ⟨b, 0, none⟩), .int .i64 0]) ∧ Okay (prm pt k d s e f) ∧ BoxS w' w.heap.size b (prm pt k d s e f) (.slice none 0 0) [] ([], false)) ∨ (¬ May k d s e f ∧ e' = .returned (.tuple #[.pointer none, .int .i64 40]))) ∧ Below w.heap.size w w' := by
  have mk : ∀ {W : World} {b : Nat} {P : Prm}, w.heap.size ≤ b → W.heap[b]? = some (.cells (bcs b P.pt P.k P.d P.s P.e P.f P.dl P.dm P.fl P.fm P.p P.g (.slice none 0 0) false) 60 (0, 0)) → BoxS W w.heap.size b P (.slice none 0 0) [] ([], false) :=
    fun h1 h2 => ⟨BoxW.new h1 h2, rfl, by simp, by simp, by simp, fun _ => by simp⟩
  have go : ∀ (dl dm fl fm : Int) (p g : Value), p.oneCell' = true → g.oneCell' = true → dv k d = .agg #[.int .i64 dl, .int .i64 dm, .int .i64 fl, .int .i64 fm, p, g] → hasB k d = true → prm pt k d s e f = ⟨pt, k, d, s, e, f, dl, dm, fl, fm, p, g⟩ →
      (May k d s e f ↔ ((1 ≤ s ∧ s ≤ 32) ∧ (dl ≤ e ∧ e ≤ dm) ∧ (fl ≤ f ∧ f ≤ fm))) → (May k d s e f → Okay (prm pt k d s e f)) → Calls Try.prog 4 #[.agg #[.int .i64 pt, .int .i64 k, .int .i64 d, .int .i64 s, .int .i64 e, .int .i64 f]] w fun e' w' =>
    ((May k d s e f ∧ ∃ b, e' = .returned (.tuple #[.pointer (some ⟨b, 0, none⟩), .int .i64 0]) ∧ Okay (prm pt k d s e f) ∧ BoxS w' w.heap.size b (prm pt k d s e f) (.slice none 0 0) [] ([], false)) ∨ (¬ May k d s e f ∧ e' = .returned (.tuple #[.pointer none, .int .i64 40]))) ∧ Below w.heap.size w w' := by
    intro dl dm fl fm p g hp hg hdv hhs hprm hmay hok
    refine (new_at pt k d s e f dl dm fl fm p g _ true w rfl (by have hi : ∀ z : Int, (Value.int .i64 z).oneCell' = true := fun _ => rfl; simp [hi, hp, hg]) hdv hhs (decide (May k d s e f)) (by simp [hmay, Bool.and_assoc])).mono ?_
    rintro e' w' ⟨⟨h1, h2⟩, h3⟩
    refine ⟨?_, h3⟩
    by_cases hm : May k d s e f
    · obtain ⟨b, h4, h5, h6⟩ := h1 (decide_eq_true hm)
      exact .inl ⟨hm, b, h4, hok hm, mk h5 (by rw [hprm]; exact h6)⟩
    · exact .inr ⟨hm, h2 (decide_eq_false hm)⟩
  by_cases hk1 : k = 1
  · subst hk1
    by_cases hd1 : d = 1
    · subst hd1
      exact go 0 0 0 0 _ _ rfl rfl rfl rfl rfl (by simp [May]; omega) fun hm => ⟨hm.2.2.1.1, hm.2.2.1.2, .inl ⟨rfl, rfl, rfl, rfl⟩⟩
    · by_cases hd2 : d = 2
      · subst hd2
        exact go 0 0 1 65535 _ _ rfl rfl rfl rfl rfl (by simp [May]; omega) fun hm => ⟨hm.2.2.1.1, hm.2.2.1.2, .inr (.inl ⟨rfl, rfl, rfl, rfl, by simpa [May, prm] using hm.2.2.2.2⟩)⟩
      · have hm : ¬ May 1 d s e f := fun h => by have := h.2.1; omega
        refine (new_at pt 1 d s e f 0 0 0 0 .nilFunc .nilFunc _ false w rfl (by simp [Value.oneCell']) (by simp [dv, pick, hd1, hd2, zdeeds]) (by simp [hasB, hd1, hd2]) false (by simp)).mono ?_
        rintro e' w' ⟨⟨_, h2⟩, h3⟩
        exact ⟨.inr ⟨hm, h2 rfl⟩, h3⟩
  · by_cases hk2 : k = 2
    · subst hk2
      by_cases hd1 : d = 1
      · subst hd1
        exact go 1 8 0 0 _ _ rfl rfl rfl rfl rfl (by simp [May]; omega) fun hm => ⟨hm.2.2.1.1, hm.2.2.1.2, .inr (.inr (.inl ⟨rfl, rfl, rfl, rfl, by simpa [May, prm] using hm.2.2.2.1⟩))⟩
      · by_cases hd2 : d = 2
        · subst hd2
          exact go 1 8 0 0 _ _ rfl rfl rfl rfl rfl (by simp [May]; omega) fun hm => ⟨hm.2.2.1.1, hm.2.2.1.2, .inr (.inr (.inr ⟨rfl, rfl, rfl, rfl, by simpa [May, prm] using hm.2.2.2.1⟩))⟩
        · have hm : ¬ May 2 d s e f := fun h => by have := h.2.1; omega
          refine (new_at pt 2 d s e f 0 0 0 0 .nilFunc .nilFunc _ false w rfl (by simp [Value.oneCell']) (by simp [dv, pick, hd1, hd2, zdeeds]) (by simp [hasB, hd1, hd2]) false (by simp)).mono ?_
          rintro e' w' ⟨⟨_, h2⟩, h3⟩
          exact ⟨.inr ⟨hm, h2 rfl⟩, h3⟩
    · have hm : ¬ May k d s e f := fun h => by have := h.1; omega
      refine (new_at pt k d s e f 0 0 0 0 .nilFunc .nilFunc _ false w rfl (by simp [Value.oneCell']) (by simp [dv, hk1, hk2, zdeeds]) (by simp [hasB, hk1, hk2]) false (by simp)).mono ?_
      rintro e' w' ⟨⟨_, h2⟩, h3⟩
      exact ⟨.inr ⟨hm, h2 rfl⟩, h3⟩

/-- a call -/
structure OpD where
  k : Int
  l : List Nat
  z : Int
deriving Inhabited
def OpAt (w : World) (b o : Nat) (x : OpD) : Prop :=
  (∃ A c, w.cell? ⟨b, o, none⟩ = some (.int .i64 x.k) ∧ w.cell? ⟨b, o + 1, none⟩ = some (.slice A x.l.length c) ∧ w.cell? ⟨b, o + 2, none⟩ = some (.int .i64 x.z) ∧ Bytes w A x.l) ∧ I64 x.k ∧ I64 x.z
def Ops (w : World) (A : Option Addr) (L : List OpD) : Prop := Lies w A L.length 3 fun i b o => OpAt w b o (L.getD i default)
theorem Ops.of_below {w w' : World} {A : Option Addr} {L : List OpD} {B : Nat} (h : Ops w A L) (hb : Below B w w') (hB : w.heap.size ≤ B) : Ops w' A L :=
  Lies.of_below h hb hB fun _ _ _ _ hlt ⟨⟨A, c, h1, h2, h3, h4⟩, h5⟩ => ⟨⟨A, c, cell_below hb hB hlt h1, cell_below hb hB hlt h2, cell_below hb hB hlt h3, h4.of_below hb hB⟩, h5⟩
theorem Ops.at {w : World} {A : Option Addr} {L : List OpD} (h : Ops w A L) {k : Nat} (hk : k < L.length) :
    ∃ b off, A = some ⟨b, off, none⟩ ∧ b < w.heap.size ∧ OpAt w b (off + k * 3) (L.getD k default) := by
  rcases h with h0 | ⟨b, off, rfl, hlt, hc⟩
  · omega
  · exact ⟨b, off, rfl, hlt, hc k hk⟩
section
variable {H : Type} {enc : TypeId × Value → H} {w : World}
theorem ops_of {fuel : Nat} {v : Value} {x : DataW H × List MemPlace} (h : DataW.trod enc Try.prog w 0 (fun _ => true) true fuel 24 [v] = some x) :
    ∃ (A : Option Addr) (L : List OpD) (c : Nat), v = .slice A L.length c ∧ L.length ≤ c ∧ c ≤ maxLen ∧ Ops w A L := by
  have k : Try.prog.cellsOf 39 = 3 := by kernel_rfl
  obtain ⟨A, L, c, h1, h2, h3, h4, _⟩ := lies_of (α := OpD) (k := 3) (p := fun z b o => OpAt w b o z) Try.underlying24 k (by omega)
    (fun n b o cs y hl hc ht => by
      obtain ⟨z0, e0, i0⟩ := int_field Try.underlying39 (by kernel_rfl) ht 0 _ rfl rfl (by omega)
      obtain ⟨v1, m1, y1, e1, t1⟩ := field_of Try.underlying39 (by kernel_rfl) ht 1 _ rfl (by omega)
      obtain ⟨z2, e2, i2⟩ := int_field Try.underlying39 (by kernel_rfl) ht 2 _ rfl rfl (by omega)
      obtain ⟨Ai, n1, ci, rfl⟩ : ∃ A n c, v1 = .slice A n c := by
        obtain ⟨cs', h'⟩ : ∃ cs', [v1] = cs' := ⟨_, rfl⟩
        rcases open_ints Try.underlying37 Try.underlying5 (by kernel_rfl) t1 with ⟨hcs, _⟩ | ⟨b, len', cap', zs, hcs, _⟩
        · simp at hcs; exact ⟨_, _, _, hcs⟩
        · simp at hcs; exact ⟨_, _, _, hcs⟩
      obtain ⟨l, hl1, g1, g2, g3⟩ := bytes_of t1
      subst hl1
      exact ⟨⟨z0, l, z2⟩, ⟨Ai, ci, (hc 0 (by omega)).trans e0, (hc 1 (by omega)).trans e1, (hc 2 (by omega)).trans e2, g3⟩, i0, i2⟩) h
  exact ⟨A, L, c, h1, h2, h3, h4⟩
theorem array3 {α : Type} {cs : Array α} (h : cs.size = 3) : ∃ c0 c1 c2, cs = #[c0, c1, c2] := by
  obtain ⟨l⟩ := cs
  match l, h with
  | [c0, c1, c2], _ => exact ⟨c0, c1, c2, rfl⟩
theorem array6 {α : Type} {cs : Array α} (h : cs.size = 6) : ∃ c0 c1 c2 c3 c4 c5, cs = #[c0, c1, c2, c3, c4, c5] := by
  obtain ⟨l⟩ := cs
  match l, h with
  | [c0, c1, c2, c3, c4, c5], _ => exact ⟨c0, c1, c2, c3, c4, c5, rfl⟩
set_option maxRecDepth 100000 in
theorem op_of {r : Reach} {base : Nat} {v : Value} {d : DataW H} {p : List MemPlace} (hv : Value.okWide Try.prog w r base 39 v) (h : DataW.Trod enc Try.prog w 0 (fun _ => true) true 39 v d p) :
    ∃ (x : OpD) (A : Option Addr) (c : Nat), v = .agg #[.int .i64 x.k, .slice A x.l.length c, .int .i64 x.z] ∧ Bytes w A x.l ∧ I64 x.k ∧ I64 x.z := by
  have k : Try.prog.cellsOf 39 = 3 := by kernel_rfl
  obtain ⟨cs, rfl, hsz⟩ := okWide_struct Try.underlying39 hv
  obtain ⟨c0, c1, c2, rfl⟩ := array3 (hsz.trans k)
  obtain ⟨fuel, ht⟩ := h
  have ht' : DataW.trod enc Try.prog w 0 (fun _ => true) true fuel 39 [c0, c1, c2] = some (d, p) := by simpa [Value.cells] using ht
  clear ht hv hsz
  obtain ⟨z0, e0, i0⟩ := int_field Try.underlying39 (by kernel_rfl) ht' 0 _ rfl rfl (by omega)
  obtain ⟨v1, m1, y1, e1, t1⟩ := field_of Try.underlying39 (by kernel_rfl) ht' 1 _ rfl (by omega)
  obtain ⟨z2, e2, i2⟩ := int_field Try.underlying39 (by kernel_rfl) ht' 2 _ rfl rfl (by omega)
  obtain ⟨Ai, n1, ci, rfl⟩ : ∃ A n c, v1 = .slice A n c := by
    rcases open_ints Try.underlying37 Try.underlying5 (by kernel_rfl) t1 with ⟨hcs, _⟩ | ⟨b, len', cap', zs, hcs, _⟩
    · simp at hcs; exact ⟨_, _, _, hcs⟩
    · simp at hcs; exact ⟨_, _, _, hcs⟩
  obtain ⟨l, hl1, g1, g2, g3⟩ := bytes_of t1
  subst hl1
  simp only [List.getElem?_cons_zero, List.getElem?_cons_succ, Option.some.injEq] at e0 e1 e2
  subst e0 e1 e2
  exact ⟨⟨z0, l, z2⟩, Ai, ci, rfl, g3, i0, i2⟩
set_option maxRecDepth 100000 in
theorem port_of {r : Reach} {base : Nat} {v : Value} {d : DataW H} {p : List MemPlace} (hv : Value.okWide Try.prog w r base 23 v) (h : DataW.Trod enc Try.prog w 0 (fun _ => true) true 23 v d p) :
    ∃ (pt k d' s e f : Int), v = .agg #[.int .i64 pt, .int .i64 k, .int .i64 d', .int .i64 s, .int .i64 e, .int .i64 f] ∧ I64 k ∧ I64 d' ∧ I64 s ∧ I64 e ∧ I64 f := by
  have k : Try.prog.cellsOf 23 = 6 := by kernel_rfl
  obtain ⟨cs, rfl, hsz⟩ := okWide_struct Try.underlying23 hv
  obtain ⟨c0, c1, c2, c3, c4, c5, rfl⟩ := array6 (hsz.trans k)
  obtain ⟨fuel, ht⟩ := h
  have ht' : DataW.trod enc Try.prog w 0 (fun _ => true) true fuel 23 [c0, c1, c2, c3, c4, c5] = some (d, p) := by simpa [Value.cells] using ht
  clear ht hv hsz
  obtain ⟨z0, e0, i0⟩ := int_field Try.underlying23 (by kernel_rfl) ht' 0 _ rfl rfl (by omega)
  obtain ⟨z1, e1, i1⟩ := int_field Try.underlying23 (by kernel_rfl) ht' 1 _ rfl rfl (by omega)
  obtain ⟨z2, e2, i2⟩ := int_field Try.underlying23 (by kernel_rfl) ht' 2 _ rfl rfl (by omega)
  obtain ⟨z3, e3, i3⟩ := int_field Try.underlying23 (by kernel_rfl) ht' 3 _ rfl rfl (by omega)
  obtain ⟨z4, e4, i4⟩ := int_field Try.underlying23 (by kernel_rfl) ht' 4 _ rfl rfl (by omega)
  obtain ⟨z5, e5, i5⟩ := int_field Try.underlying23 (by kernel_rfl) ht' 5 _ rfl rfl (by omega)
  simp only [List.getElem?_cons_zero, List.getElem?_cons_succ, Option.some.injEq] at e0 e1 e2 e3 e4 e5
  subst e0 e1 e2 e3 e4 e5
  exact ⟨z0, z1, z2, z3, z4, z5, rfl, i1, i2, i3, i4, i5⟩
end
end Go.Proofs.Ytdimllmbalponaa
