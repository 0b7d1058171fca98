/-
  Lists as cells: where they lie, and with one number turned.
-/
import Derived.Test.YtbeggdahbhfhpaaDoorDup
namespace Go.Proofs.YtbeggdahbhfhpaaDoor
open Go.RowKit Go.Deep
set_option linter.unusedVariables false
set_option linter.unusedSimpArgs false

theorem fm_len {α : Type} {f : α → List Value} {k : Nat} (hk : ∀ x, (f x).length = k) : ∀ l : List α, (l.flatMap f).length = l.length * k
  | [] => by simp
  | x :: l => by rw [List.flatMap_cons, List.length_append, hk, fm_len hk l, List.length_cons, Nat.succ_mul]; omega

section
variable {α : Type} [Inhabited α] {f : α → List Value} {k : Nat}
theorem fm_at (hk : ∀ x, (f x).length = k) : ∀ (l : List α) (i r : Nat), r < k → i < l.length → (l.flatMap f)[i * k + r]? = (f (l.getD i default))[r]?
  | [], i, r, hr, hi => by simp at hi
  | x :: l, 0, r, hr, hi => by
    rw [List.flatMap_cons, Nat.zero_mul, Nat.zero_add, List.getElem?_append_left (by rw [hk]; exact hr)]
    simp
  | x :: l, i + 1, r, hr, hi => by
    have h := fm_at hk l i r hr (by simpa using hi)
    rw [List.flatMap_cons, List.getElem?_append_right (by rw [hk, Nat.succ_mul]; omega), hk, show (i + 1) * k + r - k = i * k + r by rw [Nat.succ_mul]; omega, h]
    simp
theorem fm_set (hk : ∀ x, (f x).length = k) : ∀ (l : List α) (i r : Nat) (x' : α) (v : Value), r < k → i < l.length → f x' = (f (l.getD i default)).set r v → (l.set i x').flatMap f = (l.flatMap f).set (i * k + r) v
  | [], i, r, x', v, hr, hi, he => by simp at hi
  | x :: l, 0, r, x', v, hr, hi, he => by
    simp only [List.set_cons_zero, List.flatMap_cons, Nat.zero_mul, Nat.zero_add]
    rw [List.set_append_left _ _ (by rw [hk]; exact hr)]
    rw [he]; simp
  | x :: l, i + 1, r, x', v, hr, hi, he => by
    have h := fm_set hk l i r x' v hr (by simpa using hi) (by simpa using he)
    simp only [List.set_cons_succ, List.flatMap_cons]
    rw [List.set_append_right _ _ (by rw [hk, Nat.succ_mul]; omega), hk, show (i + 1) * k + r - k = i * k + r by rw [Nat.succ_mul]; omega, h]

/-- a list whose elements have these cells lies there -/
def LiesF (w : World) (A : Option Addr) (k : Nat) (f : α → List Value) (l : List α) : Prop :=
  Lies w A l.length k fun i b o => ∀ (r : Nat) (u : Value), (f (l.getD i default))[r]? = some u → w.cell? ⟨b, o + r, none⟩ = some u

theorem LiesF.src {w : World} {A : Option Addr} {l : List α} (h : LiesF w A k f l) (hk : ∀ x, (f x).length = k) (h0 : 0 < k) (h1 : ∀ x, ∀ u ∈ f x, u.oneCell' = true) : Src w A l.length k (l.flatMap f) := by
  refine ⟨fm_len hk l, fun u hu => ?_, ?_⟩
  · obtain ⟨x, _, hx⟩ := List.mem_flatMap.1 hu
    exact h1 x u hx
  · rcases h with h | ⟨b, off, rfl, hlt, hc⟩
    · exact .inl h
    · refine .inr ⟨b, off, rfl, hlt, fun j u hu => ?_⟩
      have hj : j < l.length * k := by rw [← fm_len hk l]; exact (List.getElem?_eq_some_iff.1 hu).1
      have hq : j / k < l.length := by rw [Nat.div_lt_iff_lt_mul h0]; exact hj
      have hr : j % k < k := Nat.mod_lt _ h0
      have e : j = j / k * k + j % k := by rw [Nat.mul_comm]; exact (Nat.div_add_mod j k).symm
      rw [e, fm_at hk l _ _ hr hq] at hu
      have := hc (j / k) hq (j % k) u hu
      rw [e, ← Nat.add_assoc]
      exact this
theorem Own.lies {W : World} {base g c n : Nat} {e : TypeId} {l : List α} (h : Own W base e k g n c (l.flatMap f)) (hn : n = l.length) (hk : ∀ x, (f x).length = k) : LiesF W (some ⟨g, 0, none⟩) k f l := by
  refine .inr ⟨g, 0, rfl, h.lt, fun i hi r u hu => ?_⟩
  have hr : r < k := by
    have := (List.getElem?_eq_some_iff.1 hu).1
    rwa [hk] at this
  rw [Nat.zero_add]
  exact h.cell (by rw [fm_at hk l i r hr hi]; exact hu)
end

def inC (z : Int) : List Value := [.int .i64 z]
def ptC (p : Pt) : List Value := [.int .i64 p.node, .int .i64 p.lo, .int .i64 p.hi]
def poC (p : Po) : List Value := [.int .i64 p.part, .int .i64 p.kind, .int .i64 p.dir, .int .i64 p.size, .int .i64 p.depth, .int .i64 p.fresh]
theorem inC_len (x : Int) : (inC x).length = 1 := rfl
theorem ptC_len (x : Pt) : (ptC x).length = 3 := rfl
theorem poC_len (x : Po) : (poC x).length = 6 := rfl
theorem inC_one (x : Int) : ∀ u ∈ inC x, u.oneCell' = true := by simp [inC, Value.oneCell']
theorem ptC_one (x : Pt) : ∀ u ∈ ptC x, u.oneCell' = true := by simp [ptC, Value.oneCell']
theorem poC_one (x : Po) : ∀ u ∈ poC x, u.oneCell' = true := by simp [poC, Value.oneCell']

theorem ints_iff {w : World} {A : Option Addr} {l : List Int} : Ints w A l ↔ (∀ z ∈ l, I64 z) ∧ LiesF w A 1 inC l := by
  unfold Ints LiesF Lies
  refine and_congr Iff.rfl (or_congr Iff.rfl (exists_congr fun b => exists_congr fun off => and_congr Iff.rfl (and_congr Iff.rfl (forall_congr' fun i => forall_congr' fun hi => ?_))))
  constructor
  · intro h r u hu
    rcases r with _ | r
    · simp only [inC, List.getElem?_cons_zero, Option.some.injEq] at hu
      subst hu
      exact h
    · simp [inC] at hu
  · intro h
    exact h 0 _ rfl
theorem parts_iff {w : World} {A : Option Addr} {l : List Pt} : Parts w A l ↔ (∀ p ∈ l, I64 p.node ∧ I64 p.lo ∧ I64 p.hi) ∧ LiesF w A 3 ptC l := by
  unfold Parts LiesF Lies
  refine and_congr Iff.rfl (or_congr Iff.rfl (exists_congr fun b => exists_congr fun off => and_congr Iff.rfl (and_congr Iff.rfl (forall_congr' fun i => forall_congr' fun hi => ?_))))
  constructor
  · rintro ⟨h0, h1, h2⟩ r u hu
    rcases r with _ | _ | _ | r <;> simp [ptC] at hu <;> subst hu
    · exact h0
    · exact h1
    · exact h2
  · intro h
    exact ⟨h 0 _ rfl, h 1 _ rfl, h 2 _ rfl⟩
theorem ports_iff {w : World} {A : Option Addr} {l : List Po} : Ports w A l ↔ (∀ p ∈ l, I64 p.part ∧ I64 p.kind ∧ I64 p.dir ∧ I64 p.size ∧ I64 p.depth ∧ I64 p.fresh) ∧ LiesF w A 6 poC l := by
  unfold Ports LiesF Lies
  refine and_congr Iff.rfl (or_congr Iff.rfl (exists_congr fun b => exists_congr fun off => and_congr Iff.rfl (and_congr Iff.rfl (forall_congr' fun i => forall_congr' fun hi => ?_))))
  constructor
  · rintro ⟨h0, h1, h2, h3, h4, h5⟩ r u hu
    rcases r with _ | _ | _ | _ | _ | _ | r <;> simp [poC] at hu <;> subst hu
    · exact h0
    · exact h1
    · exact h2
    · exact h3
    · exact h4
    · exact h5
  · intro h
    exact ⟨h 0 _ rfl, h 1 _ rfl, h 2 _ rfl, h 3 _ rfl, h 4 _ rfl, h 5 _ rfl⟩
end Go.Proofs.YtbeggdahbhfhpaaDoor
