/-
  subsets: the table is made.
-/
import Derived.Test.YtklkndnikcjbhaaDoorBtJ
import Derived.Deep.WholeRow
namespace Go.Proofs.YtklkndnikcjbhaaDoor
open Go.RowKit Go.Shelf
set_option linter.unusedVariables false
set_option linter.unusedSimpArgs false

/-- the table up to row n, and in it to column k -/
def PT (n k : Nat) (f : Nat → Nat) : Prop := ∀ i j, i < 61 → j < 61 → f (i * 61 + j) = if i < n ∨ (i = n ∧ j < k) then ch i j else 0
theorem PT.first {n : Nat} {f : Nat → Nat} (h : PT n 0 f) (hn : n < 61) : PT n 1 (fun i => if i = n * 61 then 1 else f i) := by
  intro i j hi hj
  dsimp only
  rw [h i j hi hj]
  by_cases e : i = n ∧ j = 0
  · obtain ⟨rfl, rfl⟩ := e
    simp [ch_zero]
  · have h1 : ¬ i * 61 + j = n * 61 := by omega
    rw [if_neg h1]
    have h2 : (i < n ∨ i = n ∧ j < 0) ↔ (i < n ∨ i = n ∧ j < 1) := by omega
    simp only [h2]
theorem PT.next {n k : Nat} {f : Nat → Nat} (h : PT (n + 1) (k + 1) f) (hn : n + 1 < 61) (hk : k < n + 1) : PT (n + 1) (k + 1 + 1) (fun i => if i = (n + 1) * 61 + (k + 1) then ch n k + ch n (k + 1) else f i) := by
  intro i j hi hj
  dsimp only
  rw [h i j hi hj]
  by_cases e : i = n + 1 ∧ j = k + 1
  · obtain ⟨rfl, rfl⟩ := e
    simp [ch]
  · have h1 : ¬ i * 61 + j = (n + 1) * 61 + (k + 1) := by omega
    rw [if_neg h1]
    have h2 : (i < n + 1 ∨ i = n + 1 ∧ j < k + 1) ↔ (i < n + 1 ∨ i = n + 1 ∧ j < k + 1 + 1) := by omega
    simp only [h2]
theorem PT.done {n : Nat} {f : Nat → Nat} (h : PT n (n + 1) f) (hn : n < 61) : PT (n + 1) 0 f := by
  intro i j hi hj
  rw [h i j hi hj]
  by_cases e : i = n
  · subst e
    by_cases hl : j < i + 1
    · rw [if_pos (.inr ⟨rfl, hl⟩), if_pos (.inl (by omega))]
    · rw [if_neg (by omega), if_pos (.inl (by omega)), ch_above (by omega)]
  · have h2 : (i < n ∨ i = n ∧ j < n + 1) ↔ (i < n + 1 ∨ i = n + 1 ∧ j < 0) := by omega
    simp only [h2]
theorem PT.tab {f : Nat → Nat} (h : PT 61 0 f) : cellsN 3721 f = tab := cells_congr _ _ _ fun i hi => by
  have := h (i / 61) (i % 61) (by omega) (by omega)
  rw [show i / 61 * 61 + i % 61 = i by omega, if_pos (.inl (by omega))] at this
  exact this

structure TbI (w W : World) (f : Nat → Nat) : Prop where
  bel : Below w.heap.size w W
  b0 : W.heap[w.heap.size]? = some (.cells (cellsN 3721 fun _ => 0) 64 (0, 0))
  b1 : W.heap[w.heap.size + 1]? = some (.cells (cellsN 3721 f) 64 (0, 0))
theorem TbI.set {w W : World} {f : Nat → Nat} (h : TbI w W f) (k v : Nat) : TbI w (W.setCell ⟨w.heap.size + 1, k, none⟩ (.int .u64 (v : Int))) (fun i => if i = k then v else f i) :=
  ⟨h.bel.setCell (p := ⟨w.heap.size + 1, k, none⟩) (by show w.heap.size ≤ w.heap.size + 1; omega) _, (setCell_other (by omega)).trans h.b0, by rw [set_cells h.b1, cells_set]⟩
theorem TbI.drew {w W : World} {f : Nat → Nat} (h : TbI w W f) : TbI w W.drew f := ⟨below_drewN h.bel 1, h.b0, h.b1⟩
theorem TbI.cell {w W : World} {f : Nat → Nat} (h : TbI w W f) {k : Nat} (hk : k < 3721) : W.cell? ⟨w.heap.size + 1, k, none⟩ = some (.int .u64 (f k : Nat)) := by
  rw [cell_of_row _ _ _ _ _ _ h.b1, cells_get _ _ _ hk]
theorem TbI.free {w W : World} {f : Nat → Nat} (h : TbI w W f) (k : Nat) : W.frozen? ⟨w.heap.size + 1, k, none⟩ = false := by simp [World.frozen?, h.b1]

set_option maxRecDepth 100000 in
set_option maxHeartbeats 4000000 in
theorem subsets_at (w : World) :
    Calls Tryd.prog 36 #[] w fun e w' => e = .returned (.agg tab) ∧ Below w.heap.size w w' := by
  have hz := (zero_of_info info_tab).1
  go_enter Tryd.func36, Tryd.ntmps36
  go_wp2_with fail
  have hI : TbI w ((w.alloc (.cells (cellsN 3721 fun _ => 0) 64)).alloc (.cells (cellsN 3721 fun _ => 0) 64)) (fun _ => 0) :=
    ⟨(bal w _).alloc (by simp) _, heap_alloc2_old w _ _, heap_alloc2_new w _ _⟩
  have HI := hide hI
  clear hI
  generalize (w.alloc (.cells (cellsN 3721 fun _ => 0) 64)).alloc (.cells (cellsN 3721 fun _ => 0) 64) = w1 at HI ⊢
  clear hz
  go_loopw [4] (fun i wr => ∃ (n : Nat) (f : Nat → Nat), n ≤ 61 ∧ i = .int .i64 n ∧ PT n 0 f ∧ TbI w wr f) (fun i _ => 61 - (intOf i).toNat)
  case atStart => exact ⟨0, fun _ => 0, by omega, rfl, fun i j _ _ => by rw [if_neg (by omega)], HI.out⟩
  case round =>
    obtain ⟨n, f, hn, rfl, hP, hT⟩ := hrel
    clear HI
    by_cases hlt : n < 61
    · have hc0 := hT.cell (k := n * 61) (by omega)
      have hf0 := hT.free (n * 61)
      have HT := hide (hT.set (n * 61) 1)
      have HP := hide (hP.first hlt)
      clear hP hT
      generalize f (n * 61) = v0 at hc0
      generalize (fun i => if i = n * 61 then 1 else f i) = f1 at HT HP
      have hd : decide ((n : Int) < 61) = true := decide_eq_true (by omega)
      go_wp2_with fail
      generalize wr.setCell ⟨w.heap.size + 1, n * 61, none⟩ (.int .u64 ((1 : Nat) : Int)) = w2 at HT
      clear hc0 hf0
      go_loopw [3] (fun i wq => ∃ (k : Nat) (f : Nat → Nat), k ≤ n ∧ i = .int .i64 ((k + 1 : Nat) : Int) ∧ PT n (k + 1) f ∧ TbI w wq f) (fun i _ => 61 - (intOf i).toNat)
      case atStart => exact ⟨0, f1, by omega, rfl, HP.out, HT.out⟩
      case round =>
        obtain ⟨k, g, hk, rfl, hP, hT⟩ := hrel
        clear HP HT
        by_cases hkn : k < n
        · obtain ⟨m, rfl⟩ : ∃ m, n = m + 1 := ⟨n - 1, by omega⟩
          have g1 : g (m * 61 + k) = ch m k := by rw [hP m k (by omega) (by omega), if_pos (.inl (by omega))]
          have g2 : g (m * 61 + (k + 1)) = ch m (k + 1) := by rw [hP m (k + 1) (by omega) (by omega), if_pos (.inl (by omega))]
          have c1 := hT.cell (k := m * 61 + k) (by omega)
          have c2 := hT.cell (k := m * 61 + (k + 1)) (by omega)
          have c3 := hT.cell (k := (m + 1) * 61 + (k + 1)) (by omega)
          have f3 := hT.free ((m + 1) * 61 + (k + 1))
          rw [g1] at c1
          rw [g2] at c2
          have b1 := ch_64 (n := m) (by omega) k
          have b2 := ch_64 (n := m) (by omega) (k + 1)
          have HT := hide (hT.set ((m + 1) * 61 + (k + 1)) (ch m k + ch m (k + 1)))
          have HP := hide (hP.next hlt hkn)
          clear hP hT g1 g2
          generalize (fun i => if i = (m + 1) * 61 + (k + 1) then ch m k + ch m (k + 1) else g i) = g' at HT HP
          generalize g ((m + 1) * 61 + (k + 1)) = v0 at c3
          generalize ch m k = x at *
          generalize ch m (k + 1) = y at *
          have hd2 : decide (k ≤ m) = true := decide_eq_true (by omega)
          have s1 : IntKind.i64.wrap (((m + 1 : Nat) : Int) - 1) = (m : Int) := by rw [IntKind.wrap_i64]; omega
          have s2 : IntKind.i64.wrap (((k + 1 : Nat) : Int) - 1) = (k : Int) := by rw [IntKind.wrap_i64]; omega
          have s3 : IntKind.u64.wrap ((x : Int) + (y : Int)) = ((x + y : Nat) : Int) := by rw [IntKind.wrap_u64]; omega
          go_wp2_with fail
          go_region
          go_wp2_with fail
          go_roundw
          case rel => exact ⟨k + 1, g', by omega, by go_num, HP.out, HT.out.drew⟩
          case measure => simp [intOf]; omega
        · obtain rfl : k = n := by omega
          have HP := hide (hP.done hlt)
          have HT := hide hT
          have hd2 : decide (k + 1 ≤ k) = false := decide_eq_false (by omega)
          clear hP hT
          go_wp2_with fail
          go_roundw
          case rel => exact ⟨k + 1, g, by omega, by go_num, HP.out, HT.out⟩
          case measure => simp [intOf]; omega
    · obtain rfl : n = 61 := by omega
      have ht := hT.b1
      rw [hP.tab] at ht
      have H1 := hide ht
      have H0 := hide hT.b0
      have HB := hide hT.bel
      clear hT hP ht
      go_wp2_with (first
        | (refine wpList_load_row rfl 64 (.tmp 1) rfl (w.heap.size + 1) rfl 64 tab (0, 0) _ H1.out Tryd.underlying64 rfl tab_info ?_)
        | (refine wpList_store_row rfl 64 (.tmp 0) (.tmp 34) rfl w.heap.size tab rfl rfl 64 _ H0.out tab_info (by rw [cells_size, tab_size]) (cells_one _ _) ?_))
      refine bodyPost_ret (results_cell_row (fn := Tryd.f36) rfl _ _ w.heap.size 64 tab (0, 0) _ rfl ?_ Tryd.underlying64 rfl tab_info) rfl ⟨rfl, ?_⟩
      · unfold World.setRow
        rw [Array.getElem?_modify, if_pos rfl, H0.out]; rfl
      · exact below_setRow HB.out (Nat.le_refl _) _
end Go.Proofs.YtklkndnikcjbhaaDoor
