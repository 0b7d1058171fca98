/-
  Two frames held against each other by '==': the answer says whether they are one.
-/
import Derived.Test.YtihldmcakcobaaaEncode
import Derived.Laws.StructEq
import Derived.Stop.BytesEq
namespace Go.Proofs.Ytihldmcakcobaaa
open Go.RowKit
set_option linter.unusedVariables false

theorem size_u8 (w : World) : (sizeOf 5).run Try.prog w = .ok 1 w := by
  obtain ⟨i, hi, hz, hs, hb⟩ := info_parts info_u8
  simp [sizeOf, typeInfo, hi, hs]
theorem fields_of_fr : Try.prog.underlying 27 = some (.struct (Try.prog.fieldsOf 27)) := by kernel_rfl
theorem fields_of_st : Try.prog.underlying 24 = some (.struct (Try.prog.fieldsOf 24)) := by kernel_rfl

theorem eq_st (z y z' y' : Int) (w : World) :
    (Op.equalIn 9999 24 (.agg #[.int .i64 z, .int .u16 y]) (.agg #[.int .i64 z', .int .u16 y'])).run Try.prog w = .ok (decide (z = z' ∧ y = y')) w := by
  rw [run_equalIn_struct w 9998 24 _ _ fields_of_st (by kernel_rfl)]
  simp [Program.fieldsOf, Try.underlying24, Op.eqFields, part, isAgg, go_sem]
  by_cases h1 : z = z' <;> by_cases h2 : y = y' <;> simp [h1, h2]

theorem bys_u8 (p : List Nat) (h : ∀ c ∈ p, c < 256) : bys p = ((p.map UInt8.ofNat).map Extern.Stop.cell).toArray := by
  unfold bys
  congr 1
  rw [List.map_map]
  apply List.map_congr_left
  intro c hc
  have := h c hc
  simp [Extern.Stop.cell, Nat.mod_eq_of_lt this]
theorem u8_inj {p q : List Nat} (h : ∀ c ∈ p, c < 256) (h' : ∀ c ∈ q, c < 256) : (p.map UInt8.ofNat == q.map UInt8.ofNat) = decide (p = q) := by
  rw [Bool.eq_iff_iff]
  simp only [beq_iff_eq, decide_eq_true_eq]
  constructor
  · intro e
    have e2 : (p.map UInt8.ofNat).map UInt8.toNat = (q.map UInt8.ofNat).map UInt8.toNat := by rw [e]
    have hid : ∀ l : List Nat, (∀ c ∈ l, c < 256) → (l.map UInt8.ofNat).map UInt8.toNat = l := by
      intro l hl
      rw [List.map_map]
      have : l.map (UInt8.toNat ∘ UInt8.ofNat) = l.map id := List.map_congr_left fun c hc => by
        have := hl c hc
        simp [Nat.mod_eq_of_lt this]
      rw [this, List.map_id]
    rw [hid p h, hid q h'] at e2
    exact e2
  · rintro rfl; rfl
theorem eq_pay (p q : List Nat) (w : World) (hp : p.length = 64) (hq : q.length = 64) (h : ∀ c ∈ p, c < 256) (h' : ∀ c ∈ q, c < 256) :
    (Op.equalIn 9999 25 (.agg (bys p)) (.agg (bys q))).run Try.prog w = .ok (decide (p = q)) w := by
  rw [bys_u8 p h, bys_u8 q h', run_equalIn_bytes w 9997 25 5 64 Try.underlying25 Try.underlying5 size_u8 _ _ (by simpa using hp) (by simpa using hq), u8_inj h h']

theorem frv_st (o s m : Int) (p : List Nat) : (frv o s m p).extract 1 3 = #[.int .i64 s, .int .u16 m] := by
  apply Array.ext_getElem?
  intro i
  rw [Array.getElem?_extract]
  rcases Nat.lt_or_ge i 2 with hi | hi
  · rw [if_pos (by rw [frv_size]; omega)]
    have : i = 0 ∨ i = 1 := by omega
    rcases this with rfl | rfl
    · rw [frv_1]; rfl
    · rw [frv_2]; rfl
  · rw [if_neg (by rw [frv_size]; omega), Array.getElem?_eq_none (by simpa using hi)]
theorem frv_bys (o s m : Int) (p : List Nat) (hp : p.length = 64) : (frv o s m p).extract 3 67 = bys p := by
  apply Array.ext_getElem?
  intro i
  rw [Array.getElem?_extract]
  rcases Nat.lt_or_ge i 64 with hi | hi
  · rw [if_pos (by rw [frv_size]; omega), frv_pay _ _ _ _ _ (by omega), bys_get _ _ (by omega)]
  · rw [if_neg (by rw [frv_size]; omega), Array.getElem?_eq_none (by rw [bys_size]; omega)]

theorem eq_fr (o s m o' s' m' : Int) (p q : List Nat) (w : World) (hp : p.length = 64) (hq : q.length = 64) (h : ∀ c ∈ p, c < 256) (h' : ∀ c ∈ q, c < 256) :
    (Op.equalIn 10000 27 (.agg (frv o s m p)) (.agg (frv o' s' m' q))).run Try.prog w = .ok (decide (o = o' ∧ (s = s' ∧ m = m') ∧ p = q)) w := by
  rw [run_equalIn_struct w 9999 27 _ _ fields_of_fr (by kernel_rfl)]
  have i0 := frv_0 o s m p; have i0' := frv_0 o' s' m' q
  have i1 := frv_st o s m p; have i1' := frv_st o' s' m' q
  have i2 := frv_bys o s m p hp; have i2' := frv_bys o' s' m' q hq
  have e1 := fun w => eq_st s m s' m' w
  have e2 := fun w => eq_pay p q w hp hq h h'
  generalize frv o s m p = F at i0 i1 i2 ⊢
  generalize frv o' s' m' q = G at i0' i1' i2' ⊢
  have f0 : ∀ W, (part 3 F 0).run Try.prog W = .ok (.int .i64 o) W := fun W => by simp [part, isAgg, i0, go_sem]
  have f0' : ∀ W, (part 3 G 0).run Try.prog W = .ok (.int .i64 o') W := fun W => by simp [part, isAgg, i0', go_sem]
  have f1 : ∀ W, (part 24 F 1).run Try.prog W = .ok (.agg #[.int .i64 s, .int .u16 m]) W := fun W => by simp [part, isAgg, i1, go_sem]
  have f1' : ∀ W, (part 24 G 1).run Try.prog W = .ok (.agg #[.int .i64 s', .int .u16 m']) W := fun W => by simp [part, isAgg, i1', go_sem]
  have f2 : ∀ W, (part 25 F 3).run Try.prog W = .ok (.agg (bys p)) W := fun W => by simp [part, isAgg, i2, go_sem]
  have f2' : ∀ W, (part 25 G 3).run Try.prog W = .ok (.agg (bys q)) W := fun W => by simp [part, isAgg, i2', go_sem]
  have e0 : ∀ W, (Op.equalIn 9999 3 (.int .i64 o) (.int .i64 o')).run Try.prog W = .ok (o == o') W := fun W => run_equalIn_int W 9998 3 .i64 .i64 o o' Try.underlying3
  have hf : (Try.prog.fieldsOf 27).toList.map (fun f => (f.name == "_", f.type, f.offset)) = [(false, 3, 0), (false, 24, 1), (false, 25, 3)] := by kernel_rfl
  generalize (Try.prog.fieldsOf 27).toList = fs at hf ⊢
  obtain ⟨a, b, c, rfl⟩ : ∃ a b c, fs = [a, b, c] := by
    rcases fs with _ | ⟨a, _ | ⟨b, _ | ⟨c, _ | ⟨d, l⟩⟩⟩⟩ <;> first | exact ⟨_, _, _, rfl⟩ | simp at hf
  simp only [List.map_cons, List.map_nil, List.cons.injEq, Prod.mk.injEq, beq_eq_false_iff_ne, and_true] at hf
  obtain ⟨⟨n0, t0, o0⟩, ⟨n1, t1, o1⟩, n2, t2, o2⟩ := hf
  simp only [Op.eqFields, if_pos n0, if_pos n1, if_pos n2, t0, t1, t2, o0, o1, o2, Sem.run_bind, f0, f0', f1, f1', f2, f2', e0, e1, e2, Result.andThen_ok, Sem.run_ite, Sem.run_pure]
  by_cases h1 : o = o' <;> by_cases h2 : s = s' ∧ m = m' <;> by_cases h3 : p = q <;> simp [h1, h2, h3]
end Go.Proofs.Ytihldmcakcobaaa
