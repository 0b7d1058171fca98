/-
  A number of digits: what the library tells of them, held against what it tells again.
-/
import Derived.Test.YtohmenghlboalaaDoorLxB
import Derived.Lib.ParseIntBTie
import Derived.Lib.LaidTab
import Derived.WalkSpells
import Derived.Lib.AppendIntMem
namespace Go.Proofs.YtohmenghlboalaaDoor
open Go.RowKit Go.Shelf
attribute [local go_sem] Oper.semAt_some
set_option linter.unusedVariables false
set_option linter.unusedSimpArgs false
set_option maxRecDepth 100000

/-- what the library's variables hold -/
structure Env (W : World) : Prop where
  syn : ∃ ev, W.cell? ⟨1, 0, none⟩ = some ev ∧ (ev = .nilIface ∨ ∃ te pe, ev = .iface te pe)
  rng : ∃ ev, W.cell? ⟨2, 0, none⟩ = some ev ∧ (ev = .nilIface ∨ ∃ te pe, ev = .iface te pe)
  tab : Lib.TabIs Tryd.prog W "internal/strconv.uint64pow10" .u64 Lib.pow10Tab
theorem env_g : Tryd.prog.globalNamed "internal/strconv.uint64pow10" = some 3 := by kernel_rfl
theorem Env.lt {W : World} (h : Env W) : 3 < W.heap.size := by
  have := h.tab
  unfold Lib.TabIs World.var? at this
  rw [env_g] at this
  simp only [Option.bind_some] at this
  split at this
  · rename_i hh; exact (Array.getElem?_eq_some_iff.1 hh).1
  · cases this
theorem cell_row {W : World} {b j : Nat} {v : Value} (h : W.cell? ⟨b, j, none⟩ = some v) : ∃ cs t fr, W.heap[b]? = some (.cells cs t fr) ∧ cs[j]? = some v := by
  simp only [World.cell?] at h
  split at h
  · rename_i cs t fr hh
    exact ⟨cs, t, fr, hh, h⟩
  · cases h
theorem Env.on {W W' : World} (h : Env W) (hk : ∀ k cs t fr, 1 ≤ k → k ≤ 3 → W.heap[k]? = some (.cells cs t fr) → W'.heap[k]? = some (.cells cs t fr)) : Env W' := by
  have hc : ∀ k v, 1 ≤ k → k ≤ 3 → W.cell? ⟨k, 0, none⟩ = some v → W'.cell? ⟨k, 0, none⟩ = some v := fun k v h1 h2 hv => by
    obtain ⟨cs, t, fr, h3, h4⟩ := cell_row hv
    rw [cell_of_row _ _ _ _ _ _ (hk k cs t fr h1 h2 h3)]; exact h4
  obtain ⟨e1, a1, b1⟩ := h.syn
  obtain ⟨e2, a2, b2⟩ := h.rng
  refine ⟨⟨e1, hc _ _ (by omega) (by omega) a1, b1⟩, ⟨e2, hc _ _ (by omega) (by omega) a2, b2⟩, ?_⟩
  have := h.tab
  unfold Lib.TabIs World.var? at this ⊢
  rw [env_g] at this ⊢
  simp only [Option.bind_some] at this ⊢
  split at this
  · rename_i hh
    rw [hk _ _ _ _ (by omega) (by omega) hh]
    exact this
  · cases this
theorem Env.below {W W' : World} {B : Nat} (h : Env W) (hb : Below B W W') (hB : W.heap.size ≤ B) : Env W' := h.on fun k cs t fr _ hk hc => (hb.block k (by have := h.lt; omega)).trans hc

/-- a token, as the program has it -/
def tokV (k : Int) (t : ByteArray) (n ln cl : Int) : Value := .agg #[.int .i64 k, .string t, .int .i64 n, .int .i64 ln, .int .i64 cl]
def nilT : Value := tokV 0 ByteArray.empty 0 0 0
def numV (d : ByteArray) : Option Int → Value
  | none => nilT
  | some z => tokV 2 d z 0 0
def digB (l : List UInt8) : Prop := ∃ c r, l = c :: r ∧ (isD c = true ∨ c = 45) ∧ r.all isD = true
theorem prog_num {l : List UInt8} (h : digB l) : progN l = numF l := by
  obtain ⟨c, r, rfl, h1 | h1, h2⟩ := h
  · exact num_plain (by rw [List.all_cons, h1, h2]; rfl)
  · subst h1; exact num_minus h2

/-- a token that is being made, in the block that was made first -/
structure Res (w W : World) : Prop where
  bel : Below w.heap.size w W
  row : W.heap[w.heap.size]? = some (.cells #[.int .i64 0, .string ByteArray.empty, .int .i64 0, .int .i64 0, .int .i64 0] 24 (0, 0))
theorem Res.new (w : World) : Res w (w.alloc (.cells #[.int .i64 0, .string ByteArray.empty, .int .i64 0, .int .i64 0, .int .i64 0] 24)) := ⟨bal w _, heap_alloc_new w _⟩
theorem Res.lt {w W : World} (h : Res w W) : w.heap.size < W.heap.size := (Array.getElem?_eq_some_iff.1 h.row).1
theorem Res.on {w W W' : World} {B : Nat} (h : Res w W) (hb : Below B W W') (hB : W.heap.size ≤ B) : Res w W' :=
  ⟨h.bel.trans (hb.mono (by have := h.lt; omega)), (hb.block _ (by have := h.lt; omega)).trans h.row⟩
theorem Res.cells {w W : World} (h : Res w W) : W.cell? ⟨w.heap.size, 0, none⟩ = some (.int .i64 0) ∧ W.cell? ⟨w.heap.size, 1, none⟩ = some (.string ByteArray.empty) ∧ W.cell? ⟨w.heap.size, 2, none⟩ = some (.int .i64 0) ∧
    W.cell? ⟨w.heap.size, 3, none⟩ = some (.int .i64 0) ∧ W.cell? ⟨w.heap.size, 4, none⟩ = some (.int .i64 0) ∧ ∀ j, W.frozen? ⟨w.heap.size, j, none⟩ = false := by
  refine ⟨?_, ?_, ?_, ?_, ?_, fun j => by simp [World.frozen?, h.row]⟩ <;> (rw [cell_of_row _ _ _ _ _ _ h.row]; rfl)

theorem Res.done {w W : World} (h : Res w W) (a b c d e : Value) : Below w.heap.size w (((((W.setCell ⟨w.heap.size, 0, none⟩ a).setCell ⟨w.heap.size, 1, none⟩ b).setCell ⟨w.heap.size, 2, none⟩ c).setCell ⟨w.heap.size, 3, none⟩ d).setCell ⟨w.heap.size, 4, none⟩ e) :=
  ((((h.bel.setCell (p := ⟨w.heap.size, 0, none⟩) (Nat.le_refl _) a).setCell (p := ⟨w.heap.size, 1, none⟩) (Nat.le_refl _) b).setCell (p := ⟨w.heap.size, 2, none⟩) (Nat.le_refl _) c).setCell (p := ⟨w.heap.size, 3, none⟩) (Nat.le_refl _) d).setCell (p := ⟨w.heap.size, 4, none⟩) (Nat.le_refl _) e

theorem Res.made {w W : World} (h : Res w W) (a b c d e : Value) : (((((W.setCell ⟨w.heap.size, 0, none⟩ a).setCell ⟨w.heap.size, 1, none⟩ b).setCell ⟨w.heap.size, 2, none⟩ c).setCell ⟨w.heap.size, 3, none⟩ d).setCell ⟨w.heap.size, 4, none⟩ e).heap[w.heap.size]? = some (.cells #[a, b, c, d, e] 24 (0, 0)) := by
  rw [set_cells (set_cells (set_cells (set_cells (set_cells h.row))))]; rfl
theorem tok_info : (Tryd.prog.info? 24).map (·.size) = some 5 := by kernel_rfl

set_option maxHeartbeats 1000000 in
theorem number_at (d : ByteArray) (hz : d.size ≤ 281474976710656) (hd : digB (byt d)) (w : World) (hE : Env w) :
    Calls Tryd.prog 34 #[.string d] w fun e w' => e = .returned (numV d (numF (byt d))) ∧ Below w.heap.size w w' := by
  have HP := hide (prog_num hd)
  have HE := hide hE
  have HZ := hide hz
  have HR := hide (Res.new w)
  rcases hp : Lib.parseIntB 32 d.data.toList with v | _ | _
  · have hv := Lib.parseIntB_bounds hp
    have HO := hide (fun W => Tryd.strconv_ParseInt_10_at32_ok d (by have := HZ.out; omega) v hp W)
    have HF := hide (fun W h => Tryd.strconv_FormatInt_10 v (by omega) (by omega) W h)
    by_cases hq : Lib.itoa v = byt d
    · have HV := hide (show numF (byt d) = some v by rw [← HP.out]; unfold progN; rw [show Lib.parseIntB 32 (byt d) = _ from hp]; dsimp only; rw [if_pos hq])
      have HQ := hide (show (⟨(Lib.itoa v).toArray⟩ : ByteArray) = d from (congrArg str hq).trans (str_byt d))
      rw [HQ.out] at HF
      clear hd hE hz hp hq hv
      go_enter Tryd.func34, Tryd.ntmps34
      go_wp2_with fail
      refine (HO.out _).mono ?_
      rintro e W1 ⟨rfl, hW⟩
      have HR1 := hide (HR.out.on (B := _) (W' := W1) (by rcases hW with rfl | ⟨t, rfl⟩; exact Below.refl _ _; exact Lib.bytesWorld_below _ _ _) (Nat.le_refl _))
      have HE1 := hide ((HE.out.below HR1.out.bel (Nat.le_refl _)).tab)
      clear hW
      go_wp2_with fail
      refine (HF.out _ HE1.out).mono ?_
      rintro e W2 ⟨rfl, k, os, hW2⟩
      have HR2 := hide (HR1.out.on (B := _) (W' := W2) (by rw [hW2]; exact Lib.below_grow _ _ (Nat.le_refl _) k os) (Nat.le_refl _))
      obtain ⟨k0, k1, k2, k3, k4, k5⟩ := HR2.out.cells
      clear hW2
      go_wp2_with fail
      refine bodyPost_ret (results_cell_row (fn := Tryd.f34) rfl _ _ w.heap.size _ _ (0, 0) _ rfl (HR2.out.made _ _ _ _ _) Tryd.underlying24 rfl tok_info) rfl ?_
      exact ⟨by rw [HV.out]; rfl, HR2.out.done _ _ _ _ _⟩
    · have HV := hide (show numF (byt d) = none by rw [← HP.out]; unfold progN; rw [show Lib.parseIntB 32 (byt d) = _ from hp]; dsimp only; rw [if_neg hq])
      obtain ⟨x, hx⟩ : ∃ x : ByteArray, x = ⟨(Lib.itoa v).toArray⟩ := ⟨_, rfl⟩
      rw [← hx] at HF
      have hne : ¬ x = d := fun e => hq (by rw [← e, hx])
      have hne2 : (x.toList == d.toList) = false := by rw [seq, decide_eq_false hne]
      clear hd hE hz hp hq hv hx
      go_enter Tryd.func34, Tryd.ntmps34
      go_wp2_with fail
      refine (HO.out _).mono ?_
      rintro e W1 ⟨rfl, hW⟩
      have HR1 := hide (HR.out.on (B := _) (W' := W1) (by rcases hW with rfl | ⟨t, rfl⟩; exact Below.refl _ _; exact Lib.bytesWorld_below _ _ _) (Nat.le_refl _))
      have HE1 := hide ((HE.out.below HR1.out.bel (Nat.le_refl _)).tab)
      clear hW
      go_wp2_with fail
      refine (HF.out _ HE1.out).mono ?_
      rintro e W2 ⟨rfl, k, os, hW2⟩
      have HR2 := hide (HR1.out.on (B := _) (W' := W2) (by rw [hW2]; exact Lib.below_grow _ _ (Nat.le_refl _) k os) (Nat.le_refl _))
      obtain ⟨k0, k1, k2, k3, k4, k5⟩ := HR2.out.cells
      clear hW2
      go_wp2_with fail
      refine bodyPost_ret (results_cell_row (fn := Tryd.f34) rfl _ _ w.heap.size _ _ (0, 0) _ rfl (HR2.out.made _ _ _ _ _) Tryd.underlying24 rfl tok_info) rfl ?_
      exact ⟨by rw [HV.out]; rfl, HR2.out.done _ _ _ _ _⟩
  · have HV := hide (show numF (byt d) = none by rw [← HP.out]; unfold progN; rw [show Lib.parseIntB 32 (byt d) = _ from hp])
    obtain ⟨ev, ha, hb⟩ := (hE.below HR.out.bel (Nat.le_refl _)).syn
    have HO := hide (Tryd.strconv_ParseInt_10_at32_syntax d hz hp ev _ ha hb)
    clear hd hE hz hp ha hb
    go_enter Tryd.func34, Tryd.ntmps34
    go_wp2_with fail
    refine HO.out.mono ?_
    rintro e W1 ⟨N, rfl, _, _, hW⟩
    have HR2 := hide (HR.out.on hW (Nat.le_refl _))
    obtain ⟨k0, k1, k2, k3, k4, k5⟩ := HR2.out.cells
    clear hW
    go_wp2_with fail
    refine bodyPost_ret (results_cell_row (fn := Tryd.f34) rfl _ _ w.heap.size _ _ (0, 0) _ rfl (HR2.out.made _ _ _ _ _) Tryd.underlying24 rfl tok_info) rfl ?_
    exact ⟨by rw [HV.out]; rfl, HR2.out.done _ _ _ _ _⟩
  · have HV := hide (show numF (byt d) = none by rw [← HP.out]; unfold progN; rw [show Lib.parseIntB 32 (byt d) = _ from hp])
    obtain ⟨ev, ha, hb⟩ := (hE.below HR.out.bel (Nat.le_refl _)).rng
    have HO := hide (Tryd.strconv_ParseInt_10_at32_range d hz hp ev _ ha hb)
    clear hd hE hz hp ha hb
    go_enter Tryd.func34, Tryd.ntmps34
    go_wp2_with fail
    refine HO.out.mono ?_
    rintro e W1 ⟨N, rfl, _, _, hW⟩
    have HR2 := hide (HR.out.on hW (Nat.le_refl _))
    obtain ⟨k0, k1, k2, k3, k4, k5⟩ := HR2.out.cells
    clear hW
    go_wp2_with fail
    refine bodyPost_ret (results_cell_row (fn := Tryd.f34) rfl _ _ w.heap.size _ _ (0, 0) _ rfl (HR2.out.made _ _ _ _ _) Tryd.underlying24 rfl tok_info) rfl ?_
    exact ⟨by rw [HV.out]; rfl, HR2.out.done _ _ _ _ _⟩
end Go.Proofs.YtohmenghlboalaaDoor
