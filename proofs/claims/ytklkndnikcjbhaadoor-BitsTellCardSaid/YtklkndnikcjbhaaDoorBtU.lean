/-
  The document's Ints and Spans: two lists that are alike.
-/
import Derived.Test.YtklkndnikcjbhaaDoorBtT
import Derived.Test.YtklkndnikcjbhaaDoorBtI
namespace Go.Proofs.YtklkndnikcjbhaaDoor
open Go.RowKit Go.Shelf
set_option linter.unusedVariables false
set_option linter.unusedSimpArgs false

set_option maxHeartbeats 2000000 in
theorem ints_same (l : List Int) (A B : Option Addr) (c c' : Nat) (w : World) (hA : Ints w A l) (hB : Ints w B l) (hl : l.length ≤ 9223372036854775806) :
    Calls Tryd.prog 15 #[.slice A l.length c, .slice B l.length c'] w fun e w' => e = .returned (.bool true) ∧ Below w.heap.size w w' := by
  have HA := hide hA
  have HB := hide hB
  obtain ⟨n, hn⟩ : ∃ n, n = l.length := ⟨_, rfl⟩
  have HN := hide hn
  rw [← hn] at hl ⊢
  clear hA hB hn
  go_enter Tryd.func15, Tryd.ntmps15
  go_wp2_with fail
  go_loopw [5] (fun i wr => ∃ k : Nat, k ≤ n ∧ i = .int .i64 k ∧ Below w.heap.size w wr) (fun i _ => n - (intOf i).toNat)
  case atStart => exact ⟨0, Nat.zero_le _, rfl, Below.refl _ _⟩
  case round =>
    obtain ⟨k, hk, rfl, hbr⟩ := hrel
    by_cases hlt : k < n
    · obtain ⟨b, off, rfl, hb, hc⟩ := HA.out.at (by rw [← HN.out]; exact hlt)
      obtain ⟨b', off', rfl, hb', hc'⟩ := HB.out.at (by rw [← HN.out]; exact hlt)
      have hd := (bcl hbr hb).trans hc
      have hd' := (bcl hbr hb').trans hc'
      have HBr := hide hbr
      clear hc hc' hbr
      generalize l.getD k 0 = z at *
      go_wp2_with fail
      go_region
      all_goals
        go_wp2_with fail
        go_roundw
        case rel => exact ⟨k + 1, by omega, by go_num, below_drewN HBr.out 1⟩
        case measure => simp [intOf]; omega
    · obtain rfl : k = n := by omega
      have HBr := hide hbr
      clear hbr
      go_wp2_with fail
      go_ret
      exact ⟨rfl, HBr.out⟩

/-- spans that lie in a slice -/
def SpL (w : World) (A : Option Addr) (L : List (Nat × Nat)) : Prop :=
  ∀ k p, L[k]? = some p → ∃ b, A = some ⟨b, 0, none⟩ ∧ b < w.heap.size ∧ w.cell? ⟨b, k * 2, none⟩ = some (.int .i64 (p.1 : Nat)) ∧ w.cell? ⟨b, k * 2 + 1, none⟩ = some (.int .i64 (p.2 : Nat))
theorem own_spans {W : World} {B : Nat} {A : Option Addr} {c n : Nat} {L : List (Nat × Nat)} (x : OwnP W B (.slice A n c) L) : n = L.length ∧ SpL W A L := by
  refine ⟨?_, fun k p hp => ?_⟩
  · rcases x.2 with ⟨h, h0⟩ | ⟨g, cap, cur, h, _⟩
    · injection h with _ h2 _; omega
    · injection h with _ h2 _
  · obtain ⟨g1, g2⟩ := spC_get L k p hp
    obtain ⟨g, c', e', hgl, hc0⟩ := own_cell x g1
    obtain ⟨g', c'', e'', _, hc1⟩ := own_cell x g2
    injection e' with x1 _ _
    injection e'' with y1 _ _
    rw [x1] at y1
    injection y1 with y1
    injection y1 with y1
    subst y1
    exact ⟨g, x1, hgl, hc0, hc1⟩
theorem SpL.below {w w' : World} {A : Option Addr} {L : List (Nat × Nat)} {B : Nat} (h : SpL w A L) (hb : Below B w w') (hB : w.heap.size ≤ B) : SpL w' A L := fun k p hp =>
  let ⟨b, e, hl, h0, h1⟩ := h k p hp
  ⟨b, e, Nat.lt_of_lt_of_le hl hb.size, cell_below hb hB hl h0, cell_below hb hB hl h1⟩
theorem fields_of_span : Tryd.prog.underlying 49 = some (.struct (Tryd.prog.fieldsOf 49)) := by kernel_rfl
theorem eq_span (a b c d : Int) (w : World) : (Op.equal 49 (.agg #[.int .i64 a, .int .i64 b]) (.agg #[.int .i64 c, .int .i64 d])).run Tryd.prog w = .ok (decide (a = c ∧ b = d)) w := by
  unfold Op.equal
  show (Op.equalIn (9999 + 1) _ _ _).run _ _ = _
  rw [run_equalIn_struct w 9999 49 _ _ fields_of_span (by kernel_rfl)]
  simp [Program.fieldsOf, Tryd.underlying49, Op.eqFields, part, isAgg, go_sem]
  by_cases h1 : a = c <;> by_cases h2 : b = d <;> simp [h1, h2]
theorem eq_span_self (a b : Int) (w : World) : (Op.equal 49 (.agg #[.int .i64 a, .int .i64 b]) (.agg #[.int .i64 a, .int .i64 b])).run Tryd.prog w = .ok true w := by rw [eq_span]; simp

set_option maxHeartbeats 2000000 in
theorem spans_same (L : List (Nat × Nat)) (A B : Option Addr) (c c' : Nat) (w : World) (hA : SpL w A L) (hB : SpL w B L) (hl : L.length ≤ 1000000) :
    Calls Tryd.prog 20 #[.slice A L.length c, .slice B L.length c'] w fun e w' => e = .returned (.bool true) ∧ Below w.heap.size w w' := by
  have HA := hide hA
  have HB := hide hB
  have heg : Tryd.prog.eqGuardType Tryd.prog.depth 49 = false := by kernel_rfl
  obtain ⟨n, hn⟩ : ∃ n, n = L.length := ⟨_, rfl⟩
  have HN := hide hn
  rw [← hn] at hl ⊢
  clear hA hB hn
  go_enter Tryd.func20, Tryd.ntmps20
  go_wp2_with fail
  go_loopw [5] (fun i wr => ∃ k : Nat, k ≤ n ∧ i = .int .i64 k ∧ Below w.heap.size w wr) (fun i _ => n - (intOf i).toNat)
  case atStart => exact ⟨0, Nat.zero_le _, rfl, Below.refl _ _⟩
  case round =>
    obtain ⟨k, hk, rfl, hbr⟩ := hrel
    by_cases hlt : k < n
    · have hkl : k < L.length := by rw [← HN.out]; exact hlt
      obtain ⟨b, rfl, hb, hc0, hc1⟩ := HA.out k _ (List.getElem?_eq_getElem hkl)
      obtain ⟨b', rfl, hb', hd0, hd1⟩ := HB.out k _ (List.getElem?_eq_getElem hkl)
      have x0 := (bcl hbr hb).trans hc0
      have x1 := (bcl hbr hb).trans hc1
      have y0 := (bcl hbr hb').trans hd0
      have y1 := (bcl hbr hb').trans hd1
      have HBr := hide hbr
      clear hc0 hc1 hd0 hd1 hbr
      generalize L[k] = p at *
      obtain ⟨f, t⟩ := p
      dsimp only at x0 x1 y0 y1
      have hes := fun W => eq_span_self (f : Int) (t : Int) W
      go_wp2_with fail
      go_region
      all_goals
        go_wp2_with fail
        go_roundw
        case rel => exact ⟨k + 1, by omega, by go_num, below_drewN HBr.out 1⟩
        case measure => simp [intOf]; omega
    · obtain rfl : k = n := by omega
      have HBr := hide hbr
      clear hbr
      go_wp2_with fail
      go_ret
      exact ⟨rfl, HBr.out⟩
end Go.Proofs.YtklkndnikcjbhaaDoor
