/-
  Operations that make memory, or turn it.
-/
import Derived.Test.YtdennekkbdlhdaaDoorEvB
import Derived.Deep.AppendLies
import Derived.Laws.MakeOwn
import Derived.Great.BuildSlice
import Derived.Lib.AppendStr
import Derived.Deep.AppendSrc
import Derived.MapKept
import Derived.Laws.BytesArg
namespace Go.Proofs.YtdennekkbdlhdaaDoor.Ev
open Go.RowKit
set_option linter.unusedVariables false
set_option linter.unusedSimpArgs false

def setB (w : World) (b : Nat) (O : Obj) : World := { w with heap := w.heap.setIfInBounds b O }
theorem setB_size (w : World) (b : Nat) (O : Obj) : (setB w b O).heap.size = w.heap.size := by simp [setB]
theorem setB_same {w : World} {b : Nat} (O : Obj) (h : b < w.heap.size) : (setB w b O).heap[b]? = some O := by simp [setB, h]
theorem setB_other {w : World} {b k : Nat} (O : Obj) (h : k ≠ b) : (setB w b O).heap[k]? = w.heap[k]? := by simp [setB, Array.getElem?_setIfInBounds_ne (Ne.symm h)]
theorem setB_self {w : World} {b : Nat} {O : Obj} (h : w.heap[b]? = some O) : setB w b O = w := by
  have : w.heap.setIfInBounds b O = w.heap := by
    apply Array.ext_getElem?
    intro i
    by_cases e : b = i
    · subst e
      rw [Array.getElem?_setIfInBounds_self_of_lt (Array.getElem?_eq_some_iff.1 h).1, h]
    · rw [Array.getElem?_setIfInBounds_ne e]
  unfold setB
  rw [this]
theorem setB_setB (w : World) (b : Nat) (O O' : Obj) : setB (setB w b O) b O' = setB w b O' := by
  unfold setB
  simp

theorem setCell_setB {w : World} {b o : Nat} {c : Array Value} {e : TypeId} {fz : Nat × Nat} (h : w.heap[b]? = some (.cells c e fz)) (v : Value) :
    w.setCell ⟨b, o, none⟩ v = setB w b (.cells (c.setIfInBounds o v) e fz) := by
  have hb := (Array.getElem?_eq_some_iff.1 h).1
  have hv := (Array.getElem?_eq_some_iff.1 h).2
  unfold World.setCell setB
  congr 1
  apply Array.ext_getElem?
  intro i
  by_cases hi : b = i
  · subst hi
    rw [Array.getElem?_setIfInBounds_self_of_lt hb, Array.getElem?_modify]
    simp [h]
  · rw [Array.getElem?_setIfInBounds_ne hi, Array.getElem?_modify]
    simp [hi]

theorem storeCells_run {P : Program} {b o : Nat} {e : TypeId} {fz : Nat × Nat} : ∀ (vs : List Value) (i : Nat) (c : Array Value) (w : World), w.heap[b]? = some (.cells c e fz) → o + i + vs.length ≤ c.size → Unfrozen fz c.size →
    (∀ v ∈ vs, v.oneCell' = true) → (storeCells ⟨b, o, none⟩ vs i).run P w = .ok () (setB w b (.cells (c.toList.take (o + i) ++ (vs ++ c.toList.drop (o + i + vs.length))).toArray e fz)) := by
  intro vs
  induction vs with
  | nil =>
    intro i c w hc _ _ _
    simp only [storeCells, Sem.run_pure, List.nil_append, List.length_nil, Nat.add_zero, List.take_append_drop]
    rw [setB_self hc]
  | cons v vs ih =>
    intro i c w hc hle hfz h1
    simp only [List.length_cons] at hle
    have hb := (Array.getElem?_eq_some_iff.1 hc).1
    have hlt : o + i < c.size := by omega
    have hcell : w.cell? ⟨b, o + i, none⟩ = some c[o + i] := by simp [World.cell?, hc, hlt]
    have hfr : w.frozen? ⟨b, o + i, none⟩ = false := by
      simp only [World.frozen?, hc]
      rcases hfz with hfz | hfz <;> simp <;> omega
    have hst : (store ((⟨b, o, none⟩ : Addr).add i) v).run P w = .ok () (setB w b (.cells (c.setIfInBounds (o + i) v) e fz)) := by
      rw [add_plain, run_store P w _ v .plain (h1 v (List.mem_cons_self ..)), hcell, hfr, setCell_setB hc]
      rfl
    simp only [storeCells, Sem.run_bind, hst, Result.andThen_ok]
    rw [ih (i + 1) (c.setIfInBounds (o + i) v) _ (setB_same _ hb) (by simp; omega) (by simpa using hfz) (fun u hu => h1 u (List.mem_cons_of_mem _ hu)), setB_setB]
    congr 3
    have hl : o + i < c.toList.length := by simpa using hlt
    have e1 : o + (i + 1) = o + i + 1 := by omega
    rw [e1]
    simp only [Array.toList_setIfInBounds, List.length_cons]
    have h1' : (c.toList.set (o + i) v).take (o + i + 1) = c.toList.take (o + i) ++ [v] := by
      rw [List.take_succ_eq_append_getElem (by simpa using hl), List.take_set_of_le (Nat.le_refl _)]
      simp
    have h2' : (c.toList.set (o + i) v).drop (o + i + 1 + vs.length) = c.toList.drop (o + i + (vs.length + 1)) := by
      rw [List.drop_set_of_lt (by omega)]
      congr 1
      omega
    rw [h1', h2']
    simp

section
variable {P : Program} {W : World} {θ : Nat → Ent} {σ σ' : AW} {w : World} {t : List AV} {ds : List Deferred}

theorem rowOf_get {σ : AW} {r : Nat} {cs : List AV} {e : TypeId} {op : Bool} (h : rowOf σ r = some (cs, e, op)) : σ.t.get r = some (.row cs e op) := by
  unfold rowOf at h
  rw [T.get'_eq] at h
  split at h
  · rename_i hg; cases h; exact hg
  · cases h

theorem Rel.row (h : Rel P W θ σ w) {r : Nat} {cs : List AV} {e : TypeId} {op : Bool} (hr : rowOf σ r = some (cs, e, op)) :
    r < σ.n ∧ (∀ v ∈ cs, V θ σ.n v ∧ one v = true) ∧ ∃ (c : Array Value) (fz : Nat × Nat), w.heap[(θ r).blk]? = some (.cells c e fz) ∧ Unfrozen fz c.size ∧ (∀ (j : Nat) (v : AV), cs[j]? = some v → c[j]? = some (conc θ v)) ∧
      (op = true → fz = (0, 0) ∧ (θ r).cap ≤ maxLen ∧ ∃ i, P.info? e = some i ∧ c.size = (θ r).cap * i.size) := by
  obtain ⟨a, b⟩ := h.obj r _ (rowOf_get hr)
  exact ⟨a, b⟩

theorem cell_at {w : World} {b j : Nat} {c : Array Value} {e : TypeId} {fz : Nat × Nat} (h : w.heap[b]? = some (.cells c e fz)) : w.cell? ⟨b, j, none⟩ = c[j]? := by simp [World.cell?, h]

/-- cells of a row that are known, in the world -/
theorem Rel.cells (h : Rel P W θ σ w) {r o k : Nat} {cs m : List AV} {e : TypeId} {op : Bool} (hr : rowOf σ r = some (cs, e, op)) (hm : getRange cs o k = some m) :
    Vs θ σ.n m ∧ (∀ v ∈ m, one v = true) ∧ m.length = k ∧ ∀ j u, (concs θ m)[j]? = some u → w.cell? ⟨(θ r).blk, o + j, none⟩ = some u := by
  obtain ⟨h1, h2, c, fz, h3, _, h4, _⟩ := h.row hr
  refine ⟨Vs_iff.2 fun v hv => (h2 v (getRange_mem hm hv)).1, fun v hv => (h2 v (getRange_mem hm hv)).2, (getRange_some hm).2, fun j u hu => ?_⟩
  rw [concs_map, List.getElem?_map] at hu
  cases hj : m[j]? with
  | none => rw [hj] at hu; cases hu
  | some v =>
    rw [hj] at hu
    cases hu
    have hlt : j < k := by
      have := (List.getElem?_eq_some_iff.1 hj).1
      rw [(getRange_some hm).2] at this
      exact this
    rw [getRange_get hm j hlt] at hj
    rw [cell_at h3, h4 (o + j) v hj]

theorem made_some {cs : List AV} {e : TypeId} {op : Bool} {v : Nat → AV} {r : AN × AW} (h : made σ cs e op v = some r) :
    (∀ x ∈ cs, one x = true) ∧ ∃ σ', σ.new (.row cs e op) = some σ' ∧ r = (.v (v σ.n), σ') := by
  unfold made at h
  rw [fVs_eq] at h
  split at h
  · cases h
  · rename_i h1
    split at h
    · rename_i σ' hs; cases h; exact ⟨by simpa using h1, σ', hs, rfl⟩
    · cases h
theorem puts_some {r : Nat} {cs : List AV} {e : TypeId} {op : Bool} {n : AN} {x : AN × AW} (h : puts σ r cs e op n = some x) : ∃ σ', σ.put r (some (.row cs e op)) = some σ' ∧ x = (n, σ') := by
  unfold puts at h
  rw [fVs_eq] at h
  split at h
  · rename_i σ' hs; cases h; exact ⟨σ', hs, rfl⟩
  · cases h

/-- a row that has been made -/
theorem Rel.newRow (h : Rel P W θ σ w) {cs : List AV} {e : TypeId} (hσ : σ.new (.row cs e false) = some σ') (hV : Vs θ σ.n cs) (h1 : ∀ v ∈ cs, one v = true) :
    Rel P W (upd θ σ.n ⟨w.heap.size, 0⟩) σ' (w.alloc (.cells (concs θ cs).toArray e)) ∧ Mv θ σ w (upd θ σ.n ⟨w.heap.size, 0⟩) σ' (w.alloc (.cells (concs θ cs).toArray e)) := by
  refine h.made hσ (.cells (concs θ cs).toArray e) 0 rfl rfl rfl rfl ⟨fun v hv => ⟨V_ext (fun r hr => upd_lt hr) (Nat.le_succ _) v (Vs_iff.1 hV v hv), h1 v hv⟩, (concs θ cs).toArray, (0, 0), ?_, Or.inl rfl, fun j v hv => ?_, fun ho => by cases ho⟩
  · rw [upd_self]; exact heap_alloc_new w _
  · rw [conc_ext (fun r hr => upd_lt hr) v (Vs_iff.1 hV v (List.mem_of_getElem? hv)), concs_map]
    simp [hv]

/-- a row some of whose cells have turned -/
theorem Rel.turnRow (h : Rel P W θ σ w) {r o : Nat} {cs ys zs : List AV} {e : TypeId} {op : Bool} (hr : rowOf σ r = some (cs, e, op)) (hs : setRange cs o ys = some zs) (hσ : σ.put r (some (.row zs e op)) = some σ')
    (hV : Vs θ σ.n ys) (h1 : ∀ v ∈ ys, one v = true) : ∃ w', (storeCells ⟨(θ r).blk, o, none⟩ (concs θ ys) 0).run P w = .ok () w' ∧ Rel P W θ σ' w' ∧ Mv θ σ w θ σ' w' := by
  obtain ⟨hlt, h2, c, fz, h3, h4, h5, h6⟩ := h.row hr
  unfold setRange at hs
  split at hs
  · rename_i hle
    cases hs
    have hcs : cs.length ≤ c.size := by
      rcases Nat.lt_or_ge c.size cs.length with hlt' | hge
      · have := h5 c.size _ (List.getElem?_eq_getElem hlt')
        simp at this
      · exact hge
    have hlen : (concs θ ys).length = ys.length := by rw [concs_map]; simp
    have hrun := storeCells_run (P := P) (o := o) (concs θ ys) 0 c w h3 (by rw [hlen]; omega) h4 (fun v hv => by
      rw [concs_map] at hv
      obtain ⟨u, hu, rfl⟩ := List.mem_map.1 hv
      exact one_conc (h1 u hu) θ)
    simp only [Nat.add_zero] at hrun
    refine ⟨_, hrun, h.turn (rowOf_get hr) hσ (setB_size _ _ _) (fun k hk => setB_other _ hk) rfl rfl rfl ⟨fun v hv => ?_, _, fz, setB_same _ (h.blk r hlt).2, ?_, fun j v hv => ?_, fun ho => ?_⟩⟩
    · simp only [List.mem_append] at hv
      rcases hv with hv | hv | hv
      · exact h2 v (List.mem_of_mem_take hv)
      · exact ⟨Vs_iff.1 hV v hv, h1 v hv⟩
      · exact h2 v (List.mem_of_mem_drop hv)
    · have : (c.toList.take o ++ (concs θ ys ++ c.toList.drop (o + (concs θ ys).length))).toArray.size = c.size := by simp [hlen]; omega
      rw [this]; exact h4
    · simp only [List.getElem?_toArray]
      rcases Nat.lt_or_ge j o with hj | hj
      · rw [List.getElem?_append_left (by simp; omega), List.getElem?_take, if_pos hj] at hv
        rw [List.getElem?_append_left (by simp; omega), List.getElem?_take, if_pos hj]
        simpa using h5 j v hv
      · rw [List.getElem?_append_right (by simp; omega)] at hv
        rw [List.getElem?_append_right (by simp; omega)]
        have e1 : j - (cs.take o).length = j - o := by simp; omega
        have e2 : j - (c.toList.take o).length = j - o := by simp; omega
        rw [e1] at hv
        rw [e2]
        rcases Nat.lt_or_ge (j - o) ys.length with hj' | hj'
        · rw [List.getElem?_append_left hj'] at hv
          rw [List.getElem?_append_left (by rw [hlen]; exact hj'), concs_map]
          simp [hv]
        · rw [List.getElem?_append_right hj', List.getElem?_drop] at hv
          rw [List.getElem?_append_right (by rw [hlen]; exact hj'), List.getElem?_drop, hlen]
          have e3 : o + ys.length + (j - o - ys.length) = j := by omega
          rw [e3] at hv ⊢
          simpa using h5 j v hv
    · obtain ⟨a, b, i, c1, c2⟩ := h6 ho
      refine ⟨a, b, i, c1, ?_⟩
      rw [← c2]; simp [hlen]; omega
  · cases hs
end
end Go.Proofs.YtdennekkbdlhdaaDoor.Ev
/-
  append: whether there is room or not.
-/
namespace Go.Proofs.YtdennekkbdlhdaaDoor.Ev
open Go.RowKit
set_option linter.unusedVariables false
set_option linter.unusedSimpArgs false

section
variable {P : Program} {W : World} {θ : Nat → Ent} {σ σ' σ1 : AW} {w w' : World}

theorem bytes_cells (x : ByteArray) : concs θ (x.data.toList.map fun c => AV.i .u8 (c.toNat : Int)) = byteCells x := by
  rw [concs_map, byteCells, List.map_map]
  refine List.map_congr_left fun c _ => ?_
  simp [conc]

theorem firsts_ok (hR : Rel P W θ σ w) {size n : Nat} {x : AV} {news : List AV} (h : firsts σ size n x = some news) :
    Vs θ σ.n news ∧ (∀ v ∈ news, one v = true) ∧ news.length = n * size ∧ ∀ w2 : World, w2.heap = w.heap → (Builtin.firstCells size n (conc θ x)).run P w2 = .ok (concs θ news).toArray w2 := by
  unfold firsts at h
  split at h
  · split at h
    · rename_i h0
      cases h
      exact ⟨by simp [Vs], by simp, by simp [h0], fun w2 _ => by simp [conc, Builtin.firstCells, concs]⟩
    · cases h
  · rename_i x
    split at h
    · rename_i h0
      obtain ⟨rfl, rfl⟩ := h0
      cases h
      refine ⟨Vs_iff.2 fun v hv => ?_, fun v hv => ?_, ?_, fun w2 _ => ?_⟩
      · obtain ⟨c, _, rfl⟩ := List.mem_map.1 hv; simp [V]
      · obtain ⟨c, _, rfl⟩ := List.mem_map.1 hv; rfl
      · simp
      · rw [bytes_cells]
        simp only [conc]
        exact firstCells_string x w2
    · cases h
  · rename_i r o len c
    split at h
    · rename_i cs e op hr
      obtain ⟨h1, h2, h3, h4⟩ := hR.cells hr h
      refine ⟨h1, h2, h3, fun w2 hw => ?_⟩
      have := run_firstCells_some (P := P) w2 size n ⟨(θ r).blk, o, none⟩ len (capC (θ r) c) (concs θ news) (by rw [concs_map]; simpa using h3) (fun j u hu => by
        rw [add_plain]
        have := h4 j u hu
        simp only [World.cell?, hw] at this ⊢
        exact this)
      simpa [conc] using this
    · cases h
  · split at h
    · rename_i h0
      cases h
      subst h0
      refine ⟨by simp [Vs], by simp, by simp, fun w2 _ => ?_⟩
      simp [conc, Builtin.firstCells, loadCells, loadCellsFrom, concs]
    · cases h
  · cases h

theorem lenP_run {x : AV} {n : Nat} (h : lenP x = some n) (w : World) : (Builtin.lenOf (conc θ x)).run P w = .ok n w := by
  unfold lenP at h
  split at h <;> first | (cases h; simp [conc, Builtin.lenOf]) | cases h

theorem src_ok (hR : Rel P W θ σ w) {size n : Nat} {x : AV} {news : List AV} {tx : TypeId} (hk : (∃ e', P.underlying tx = some (.slice e')) ∨ P.underlying tx = some .string) (hl : lenP x = some n) (h : firsts σ size n x = some news) :
    Src P size tx (conc θ x) n (concs θ news) w := by
  obtain ⟨h1, h2, h3, h4⟩ := firsts_ok hR h
  exact ⟨hk, fun w' => lenP_run hl w', h4 w rfl, h4 w.drew rfl, by rw [concs_map]; simpa using h3, fun u hu => by
    rw [concs_map] at hu
    obtain ⟨v, hv, rfl⟩ := List.mem_map.1 hu
    exact one_conc (h2 v hv) θ⟩

/-- a row with room behind, made anew -/
theorem Rel.openRow (h : Rel P W θ σ w) {cs : List AV} {e : TypeId} {i : TypeInfo} {cap : Nat} {Z : Array Value} (hσ : σ.new (.row cs e true) = some σ') (hV : Vs θ σ.n cs) (h1 : ∀ v ∈ cs, one v = true) (hi : P.info? e = some i)
    (hcap : cap ≤ maxLen) (hsz : ((concs θ cs).toArray ++ Z).size = cap * i.size) :
    Rel P W (upd θ σ.n ⟨w.heap.size, cap⟩) σ' (w.drew.alloc (.cells ((concs θ cs).toArray ++ Z) e)) ∧ Mv θ σ w (upd θ σ.n ⟨w.heap.size, cap⟩) σ' (w.drew.alloc (.cells ((concs θ cs).toArray ++ Z) e)) := by
  refine h.made hσ (.cells ((concs θ cs).toArray ++ Z) e) cap rfl rfl rfl rfl ⟨fun v hv => ⟨V_ext (fun r hr => upd_lt hr) (Nat.le_succ _) v (Vs_iff.1 hV v hv), h1 v hv⟩, (concs θ cs).toArray ++ Z, (0, 0), ?_, Or.inl rfl, fun j v hv => ?_, fun _ => ⟨rfl, by rw [upd_self]; exact hcap, i, hi, by rw [upd_self]; exact hsz⟩⟩
  · rw [upd_self]; exact heap_alloc_new w.drew _
  · rw [conc_ext (fun r hr => upd_lt hr) v (Vs_iff.1 hV v (List.mem_of_getElem? hv))]
    have hj := (List.getElem?_eq_some_iff.1 hv).1
    rw [Array.getElem?_append_left (by simp [concs_map]; exact hj), concs_map]
    simp [hv]

/-- a row forgotten, and another one laid in its block -/
theorem Rel.regrow (h : Rel P W θ σ w) {r : Nat} {o o' : AO} (hr : σ.t.get r = some o) (hσ1 : σ.put r none = some σ1) (hσ : σ1.new o' = some σ') (hsz : w'.heap.size = w.heap.size)
    (hold : ∀ k, k ≠ (θ r).blk → w'.heap[k]? = w.heap[k]?) (h1 : w'.os = w.os) (h2 : w'.tape = w.tape) (h3 : w'.output = w.output)
    (ho : ObjOk P (upd θ σ.n (θ r)) (σ.n + 1) w' σ.n o') : Rel P W (upd θ σ.n (θ r)) σ' w' ∧ Mv θ σ w (upd θ σ.n (θ r)) σ' w' := by
  obtain ⟨hn1, hg1⟩ := AW.get_put hσ1
  obtain ⟨hn, hg⟩ := AW.get_new hσ
  have hlt := (h.obj r o hr).1
  have hb := h.blk r hlt
  have key : ∀ s p, σ'.t.get s = some p → (s = σ.n ∧ p = o') ∨ (s < σ.n ∧ s ≠ r ∧ σ.t.get s = some p) := fun s p hs => by
    rw [hg, hn1] at hs
    split at hs
    · rename_i e; cases hs; exact .inl ⟨e, rfl⟩
    · rw [hg1] at hs
      split at hs
      · cases hs
      · rename_i e; exact .inr ⟨(h.obj s p hs).1, e, hs⟩
  refine ⟨⟨⟨h1.trans h.bel.os, h2.trans h.bel.tape, h3.trans h.bel.output, by rw [hsz]; exact h.bel.size, fun k hk => (hold k (by omega)).trans (h.bel.block k hk)⟩, fun s hs => ?_, fun s p hs => ?_, fun s u p q hs hu hne => ?_⟩, ?_⟩
  · rw [hn, hn1] at hs
    rcases Nat.lt_or_ge s σ.n with hl | hge
    · rw [upd_lt hl, hsz]; exact h.blk s hl
    · obtain rfl : s = σ.n := by omega
      rw [upd_self, hsz]; exact hb
  · rw [hn, hn1]
    rcases key s p hs with ⟨rfl, rfl⟩ | ⟨hl, hne, hs⟩
    · exact ⟨Nat.lt_succ_self _, ho⟩
    · exact ⟨by omega, (h.obj s p hs).2.kept (fun r hr => upd_lt hr) (Nat.le_succ _) hl (hold _ (h.sep s r p o hs hr hne))⟩
  · rcases key s p hs with ⟨rfl, rfl⟩ | ⟨hl, hn', hs⟩ <;> rcases key u q hu with ⟨rfl, rfl⟩ | ⟨hl', hn'', hu⟩
    · exact absurd rfl hne
    · rw [upd_self, upd_lt hl']; exact fun e => h.sep u r q o hu hr hn'' e.symm
    · rw [upd_self, upd_lt hl]; exact h.sep s r p o hs hr hn'
    · rw [upd_lt hl, upd_lt hl']; exact h.sep s u p q hs hu hne
  · refine ⟨fun s hs => upd_lt hs, by omega, by omega, fun k _ hno => hold k (fun e => hno r o hr e.symm), fun s p hs => ?_⟩
    rcases key s p hs with ⟨rfl, rfl⟩ | ⟨hl, hn', hs⟩
    · rw [upd_self]; exact .inl ⟨r, o, hr, rfl⟩
    · rw [upd_lt hl]; exact .inl ⟨s, p, hs, rfl⟩

theorem grown_ok {ts tx ty e : TypeId} {i : TypeInfo} {z : AV} (hR : Rel P W θ σ w) (ht : P.underlying ts = some (.slice e)) (hi : P.info? e = some i) (hz : zeroP P e = some z) (hzl : (cellsOf z).length = i.size)
    {base : Option Addr} {sLen sCap n : Nat} {old news : List AV} (hold : ∀ w2 : World, w2.heap = w.heap → (Builtin.firstCells i.size sLen (.slice base sLen sCap)).run P w2 = .ok (concs θ old).toArray w2) (hoV : Vs θ σ.n old) (ho1 : ∀ v ∈ old, one v = true) (hol : old.length = sLen * i.size)
    {x : AV} (hs : Src P i.size tx (conc θ x) n (concs θ news) w) (hnV : Vs θ σ.n news) (hn1 : ∀ v ∈ news, one v = true) (hnl : news.length = n * i.size)
    (hg : sCap < sLen + n) (hb : (sLen + n) * i.bytes ≤ 140737488355328) (h63 : sLen + n ≤ 9000000000000000000) (hσ : σ.new (.row (old ++ news) e true) = some σ') :
    ∃ θ' w', Rel P W θ' σ' w' ∧ Mv θ σ w θ' σ' w' ∧ V θ' σ'.n (.sl σ.n 0 (sLen + n) (.o 0)) ∧
      (Builtin.append_ #[ts, tx] ty #[.slice base sLen sCap, conc θ x]).run P w = .ok (conc θ' (.sl σ.n 0 (sLen + n) (.o 0))) w' := by
  obtain ⟨i', z', hi', hz', hofz⟩ := zeroP_info hz
  rw [hi] at hi'
  cases hi'
  have hrun := run_append_grow_src (P := P) w ts tx ty e i z' ht hi hz' base sLen sCap (concs θ old) (hold w.drew rfl) (conc θ x) n (concs θ news) hs hg (by omega) (growslice_fits hg hb)
  have hcap : grownCap w (sLen + n) sCap e ≤ maxLen := grownCap_le_maxLen w _ _ e (by unfold maxLen; omega)
  have hge := grownCap_ge w (sLen + n) sCap e
  have hzs : z'.cells.size = i.size := by rw [cells_ofV (θ := θ) hofz, concs_map]; simpa using hzl
  have e1 : (concs θ old ++ concs θ news) = concs θ (old ++ news) := by simp [concs_map]
  rw [e1] at hrun
  have hVs : Vs θ σ.n (old ++ news) := Vs_iff.2 fun v hv => by
    rcases List.mem_append.1 hv with hv | hv
    · exact Vs_iff.1 hoV v hv
    · exact Vs_iff.1 hnV v hv
  have hR' := hR.openRow (i := i) (cap := grownCap w (sLen + n) sCap e) (Z := Builtin.zeroCells z'.cells (grownCap w (sLen + n) sCap e - (sLen + n))) hσ hVs (fun v hv => by
    rcases List.mem_append.1 hv with hv | hv
    · exact ho1 v hv
    · exact hn1 v hv) hi hcap (by
      simp only [Array.size_append, size_zeroCells, hzs, concs_map, List.size_toArray, List.length_map, List.length_append, hol, hnl, ← Nat.add_mul]
      congr 1
      omega)
  refine ⟨_, _, hR'.1, hR'.2, ?_, ?_⟩
  · simp only [V, upd_self, capC, (AW.get_new hσ).1]
    exact ⟨by omega, by omega⟩
  · rw [hrun]
    simp [conc, upd_self, capC]

theorem room_ok {ts tx ty e : TypeId} {info : TypeInfo} {x : AV} {r len n : Nat} {cs old news : List AV} (hR : Rel P W θ σ w) (ht : P.underlying ts = some (.slice e)) (hi : P.info? e = some info) (hr : rowOf σ r = some (cs, e, true))
    (hold : getRange cs 0 (len * info.size) = some old) (hsrc : Src P info.size tx (conc θ x) n (concs θ news) w) (hnV : Vs θ σ.n news) (hn1 : ∀ v ∈ news, one v = true) (hnl : news.length = n * info.size)
    (hσ1 : σ.put r none = some σ1) (hσ2 : σ1.new (.row (old ++ news) e true) = some σ') (hroom : len + n ≤ (θ r).cap) :
    ∃ θ' w', Rel P W θ' σ' w' ∧ Mv θ σ w θ' σ' w' ∧ V θ' σ'.n (.sl σ.n 0 (len + n) (.o 0)) ∧
      (Builtin.append_ #[ts, tx] ty #[.slice (some ⟨(θ r).blk, 0, none⟩) len (θ r).cap, conc θ x]).run P w = .ok (conc θ' (.sl σ.n 0 (len + n) (.o 0))) w' := by
  have hn1' := (AW.get_put hσ1).1
  obtain ⟨o1, o2, o3, o4⟩ := hR.cells hr hold
  obtain ⟨hlt, hcs, c, fz, hc, hfz, hcc, hop⟩ := hR.row hr
  obtain ⟨rfl, hcm, i2, hi2, hcsz⟩ := hop rfl
  rw [hi] at hi2
  cases hi2
  have hlen : (concs θ news).length = n * info.size := by rw [concs_map]; simpa using hnl
  have hfit : 0 + len * info.size + 0 + (concs θ news).length ≤ c.size := by
    rw [hlen, hcsz]
    have := Nat.mul_le_mul_right info.size hroom
    rw [Nat.add_mul] at this
    omega
  have hst := storeCells_run (P := P) (o := 0 + len * info.size) (concs θ news) 0 c w hc hfit hfz hsrc.one
  simp only [Nat.add_zero] at hst
  have hR2 := hR.regrow (w' := setB w (θ r).blk (.cells (c.toList.take (0 + len * info.size) ++ (concs θ news ++ c.toList.drop (0 + len * info.size + (concs θ news).length))).toArray e (0, 0))) (rowOf_get hr) hσ1 hσ2 (setB_size _ _ _) (fun k hk => setB_other _ hk) rfl rfl rfl (by
    refine ⟨fun v hv => ?_, (c.toList.take (0 + len * info.size) ++ (concs θ news ++ c.toList.drop (0 + len * info.size + (concs θ news).length))).toArray, (0, 0), by rw [upd_self]; exact setB_same _ (hR.blk r hlt).2, Or.inl rfl, fun j v hv => ?_, fun _ => ⟨rfl, by rw [upd_self]; exact hcm, info, hi, by rw [upd_self, ← hcsz]; simp; omega⟩⟩
    · rcases List.mem_append.1 hv with hv | hv
      · exact ⟨V_ext (fun r hr => upd_lt hr) (Nat.le_succ _) v (Vs_iff.1 o1 v hv), o2 v hv⟩
      · exact ⟨V_ext (fun r hr => upd_lt hr) (Nat.le_succ _) v (Vs_iff.1 hnV v hv), hn1 v hv⟩
    · have hvV : V θ σ.n v := by
        rcases List.mem_append.1 (List.mem_of_getElem? hv) with hv | hv
        · exact Vs_iff.1 o1 v hv
        · exact Vs_iff.1 hnV v hv
      rw [conc_ext (fun r hr => upd_lt hr) v hvV, List.getElem?_toArray]
      have hcl : (c.toList.take (0 + len * info.size)).length = old.length := by
        rw [o3]; simp; omega
      rcases Nat.lt_or_ge j old.length with hj | hj
      · rw [List.getElem?_append_left hj] at hv
        rw [List.getElem?_append_left (by rw [hcl]; exact hj), List.getElem?_take, if_pos (by rw [o3] at hj; omega)]
        have h5 := o4 j (conc θ v) (by rw [concs_map]; simp [hv])
        rw [cell_at hc, Nat.zero_add] at h5
        simpa using h5
      · rw [List.getElem?_append_right hj] at hv
        rw [List.getElem?_append_right (by rw [hcl]; exact hj), hcl]
        have hj2 := (List.getElem?_eq_some_iff.1 hv).1
        rw [List.getElem?_append_left (by rw [concs_map]; simpa using hj2), concs_map]
        simp [hv])
  refine ⟨_, _, hR2.1, hR2.2, ?_, ?_⟩
  · simp only [V, capC]
    rw [(AW.get_new hσ2).1, hn1', upd_self]
    exact ⟨by omega, by omega⟩
  · simp only [conc, capC, upd_self, Nat.sub_zero]
    rcases hsrc.kind with ⟨e2, hk'⟩ | hk' <;>
      simp [Builtin.append_, run_underlying ht, run_underlying hk', sizeOf, typeInfo, hi, hsrc.len, hroom, hsrc.cells, add_plain] <;> simp only [Nat.zero_add] at hst <;> simp [hst]

set_option maxHeartbeats 1000000 in
theorem append_ok {ts tx ty e : TypeId} {s x : AV} {an : AN} (hR : Rel P W θ σ w) (ht : P.underlying ts = some (.slice e)) (hk : (∃ e', P.underlying tx = some (.slice e')) ∨ P.underlying tx = some .string)
    (hs : V θ σ.n s) (h : appendP P e s x σ = some (an, σ')) :
    ∃ θ' w' v, an = .v v ∧ Rel P W θ' σ' w' ∧ Mv θ σ w θ' σ' w' ∧ V θ' σ'.n v ∧ (Builtin.append_ #[ts, tx] ty #[conc θ s, conc θ x]).run P w = .ok (conc θ' v) w' := by
  unfold appendP at h
  split at h
  · rename_i info sLen n hi hls hlx
    split at h
    · cases h
    rename_i hbd
    have hsz0 : info.size ≠ 0 := fun e => hbd (.inl e)
    have hb : (sLen + n) * info.bytes ≤ 140737488355328 := by
      rcases Nat.lt_or_ge 140737488355328 ((sLen + n) * info.bytes) with hh | hh
      · exact absurd (.inr (.inl hh)) hbd
      · exact hh
    have h63 : sLen + n ≤ 9000000000000000000 := by
      rcases Nat.lt_or_ge 9000000000000000000 (sLen + n) with hh | hh
      · exact absurd (.inr (.inr hh)) hbd
      · exact hh
    split at h
    · cases h
    rename_i z hz
    split at h
    · cases h
    rename_i hzl
    have hzl : (cellsOf z).length = info.size := by simpa using hzl
    split at h
    · cases h
    rename_i news hnews
    obtain ⟨hnV, hn1, hnl, _⟩ := firsts_ok hR hnews
    have hsrc := src_ok hR (tx := tx) hk hlx hnews
    split at h
    · -- nil
      simp only [lenP, Option.some.injEq] at hls
      subst hls
      split at h
      · rename_i h0
        subst h0
        cases h
        refine ⟨θ, w, .sn, rfl, hR, Mv.refl (P := P) (W := W), by simp [V], ?_⟩
        have hnil : concs θ news = [] := List.eq_nil_of_length_eq_zero (by rw [concs_map]; simp [hnl])
        simp only [conc]
        rcases hsrc.kind with ⟨e', hk'⟩ | hk' <;>
          simp [Builtin.append_, run_underlying ht, run_underlying hk', sizeOf, typeInfo, hi, hsrc.len, hsrc.cells, hnil]
      · rename_i h0
        obtain ⟨h1', σ2, hσ2, hr⟩ := made_some h
        cases hr
        obtain ⟨θ', w', a, b, c, d⟩ := grown_ok (ty := ty) (σ' := σ') (base := none) (sLen := 0) (sCap := 0) (old := []) (x := x) hR ht hi hz hzl (fun w2 _ => by simp [Builtin.firstCells, concs]) (by simp [Vs]) (by simp) (by simp) hsrc hnV hn1 hnl (by omega) hb h63 (by simpa using hσ2)
        simp only [Nat.zero_add] at c d
        exact ⟨θ', w', _, rfl, a, b, c, by simpa [conc] using d⟩
    · rename_i r o len c
      simp only [lenP, Option.some.injEq] at hls
      subst hls
      simp only [V] at hs
      split at h
      · rename_i cs e' op hr
        split at h
        · cases h
        rename_i hee
        have hee : e' = e := by simpa using hee
        subst hee
        cases c with
        | k k =>
          simp only at h
          split at h
          · -- room
            rename_i hroom
            split at h
            · rename_i zs hzs
              obtain ⟨σ2, hσ2, hx⟩ := puts_some h
              cases hx
              obtain ⟨w', hst, hR', hM⟩ := hR.turnRow hr hzs hσ2 hnV hn1
              refine ⟨θ, w', _, rfl, hR', hM, ?_, ?_⟩
              · simp only [V, capC] at hs ⊢
                rw [(AW.get_put hσ2).1]
                exact ⟨hs.1, hroom⟩
              · simp only [conc, capC]
                rcases hsrc.kind with ⟨e2, hk'⟩ | hk' <;>
                  simp [Builtin.append_, run_underlying ht, run_underlying hk', sizeOf, typeInfo, hi, hsrc.len, hroom, hsrc.cells, add_plain, hst]
            · cases h
          · rename_i hno
            split at h
            · rename_i old hold
              obtain ⟨h1', σ2, hσ2, hx⟩ := made_some h
              cases hx
              obtain ⟨o1, o2, o3, o4⟩ := hR.cells hr hold
              obtain ⟨θ', w', a, b, c', d⟩ := grown_ok (ty := ty) (σ' := σ') (base := some ⟨(θ r).blk, o, none⟩) (sLen := len) (sCap := k) (old := old) (x := x) hR ht hi hz hzl (fun w2 hw => run_firstCells_some (P := P) w2 info.size len ⟨(θ r).blk, o, none⟩ len k (concs θ old) (by rw [concs_map]; simpa using o3) (fun j u hu => by
                rw [add_plain]
                have := o4 j u hu
                simp only [World.cell?, hw] at this ⊢
                exact this)) o1 o2 o3 hsrc hnV hn1 hnl (by omega) hb h63 hσ2
              exact ⟨θ', w', _, rfl, a, b, c', by simpa [conc, capC] using d⟩
            · cases h
        | o d =>
          obtain rfl : op = true := by
            cases op with
            | true => rfl
            | false => simp at h
          simp only at h
          split at h
          · -- in place
            rename_i hin
            obtain ⟨ho, hle⟩ := hin
            split at h
            · rename_i zs hzs
              obtain ⟨σ2, hσ2, hx⟩ := puts_some h
              cases hx
              obtain ⟨w', hst, hR', hM⟩ := hR.turnRow hr hzs hσ2 hnV hn1
              obtain ⟨hlt, hcs, c, fz, hc, hfz, hcc, hop⟩ := hR.row hr
              obtain ⟨rfl, hcm, i2, hi2, hcsz⟩ := hop rfl
              rw [hi] at hi2
              cases hi2
              have hlen : cs.length ≤ c.size := by
                rcases Nat.lt_or_ge c.size cs.length with hlt' | hge
                · have := hcc c.size _ (List.getElem?_eq_getElem hlt')
                  simp at this
                · exact hge
              have hroom : len + n ≤ (θ r).cap - d := by
                have h1 : (d + (len + n)) * info.size ≤ (θ r).cap * info.size := by
                  rw [Nat.add_mul, ← ho, ← hcsz]; omega
                have := Nat.le_of_mul_le_mul_right h1 (Nat.pos_of_ne_zero hsz0)
                omega
              refine ⟨θ, w', _, rfl, hR', hM, ?_, ?_⟩
              · simp only [V, capC] at hs ⊢
                rw [(AW.get_put hσ2).1]
                exact ⟨hs.1, hroom⟩
              · simp only [conc, capC]
                rcases hsrc.kind with ⟨e2, hk'⟩ | hk' <;>
                  simp [Builtin.append_, run_underlying ht, run_underlying hk', sizeOf, typeInfo, hi, hsrc.len, hroom, hsrc.cells, add_plain, hst]
            · cases h
          split at h
          · cases h
          rename_i hdo
          obtain rfl : d = 0 := by
            by_cases e : d = 0
            · exact e
            · exact absurd (.inl e) hdo
          obtain rfl : o = 0 := by
            by_cases e : o = 0
            · exact e
            · exact absurd (.inr e) hdo
          split at h
          · rename_i old hold
            split at h
            · rename_i σ1 hσ1
              obtain ⟨h1', σ2, hσ2, hx⟩ := made_some h
              cases hx
              have hn1' := (AW.get_put hσ1).1
              obtain ⟨o1, o2, o3, o4⟩ := hR.cells hr hold
              have hR1 := hR.drop hσ1
              simp only [capC] at hs
              by_cases hroom : len + n ≤ (θ r).cap
              · obtain ⟨θ', w', a, b, c', d⟩ := room_ok (ty := ty) (x := x) hR ht hi hr hold hsrc hnV hn1 hnl hσ1 hσ2 hroom
                rw [hn1']
                exact ⟨θ', w', _, rfl, a, b, c', by simpa [conc, capC] using d⟩
              · obtain ⟨θ', w', a, b, c', d⟩ := grown_ok (ty := ty) (σ := σ1) (σ' := σ') (base := some ⟨(θ r).blk, 0, none⟩) (sLen := len) (sCap := (θ r).cap) (old := old) (x := x) hR1.1 ht hi hz hzl (fun w2 hw => run_firstCells_some (P := P) w2 info.size len ⟨(θ r).blk, 0, none⟩ len (θ r).cap (concs θ old) (by rw [concs_map]; simpa using o3) (fun j u hu => by
                  rw [add_plain]
                  have := o4 j u hu
                  simp only [World.cell?, hw] at this ⊢
                  exact this)) (by rw [hn1']; exact o1) o2 o3 hsrc (by rw [hn1']; exact hnV) hn1 hnl (by omega) hb h63 hσ2
                exact ⟨θ', w', _, rfl, a, hR1.2.trans b, c', by simpa [conc, capC] using d⟩
            · cases h
          · cases h
      · cases h
    · cases h
  · cases h
end
end Go.Proofs.YtdennekkbdlhdaaDoor.Ev
/-
  Maps: their keys are numbers, texts or truths.
-/
namespace Go.Proofs.YtdennekkbdlhdaaDoor.Ev
open Go.RowKit
set_option linter.unusedVariables false
set_option linter.unusedSimpArgs false

section
variable {P : Program} {W : World} {θ : Nat → Ent} {σ σ' : AW} {w : World}

theorem key_is {kt : TypeId} {k : AV} (h : keyP P kt k = true) (θ : Nat → Ent) : ∃ d, P.underlying kt = some d ∧ MapKept.IsKey d (conc θ k) := by
  unfold keyP at h
  split at h
  · rename_i j k' n hu; exact ⟨_, hu, by simp only [conc, MapKept.IsKey]; exact (of_decide_eq_true h).symm⟩
  · rename_i hu; exact ⟨_, hu, by simp [conc, MapKept.IsKey]⟩
  · rename_i hu; exact ⟨_, hu, by simp [conc, MapKept.IsKey]⟩
  · cases h
theorem same_iff {kt : TypeId} {a b : AV} (ha : keyP P kt a = true) (hb : keyP P kt b = true) (θ : Nat → Ent) : sameK a b = true ↔ conc θ a = conc θ b := by
  unfold keyP at ha hb
  generalize P.underlying kt = u at ha hb
  split at ha
  · split at hb
    · rename_i e
      cases e
      have e1 := of_decide_eq_true ha
      have e2 := of_decide_eq_true hb
      subst e1; subst e2
      simp [sameK, conc]
    · rename_i e; cases e
    · rename_i e; cases e
    · cases hb
  · split at hb
    · rename_i e; cases e
    · rename_i x _ _ y _
      obtain ⟨⟨x⟩⟩ := x
      obtain ⟨⟨y⟩⟩ := y
      simp [sameK, conc]
    · rename_i e; cases e
    · cases hb
  · split at hb
    · rename_i e; cases e
    · rename_i e; cases e
    · simp [sameK, conc]
    · cases hb
  · cases ha

def pairOf (e : MapEntry) : Value × Value := (e.key, e.val)
def concM (θ : Nat → Ent) (e : AV × AV) : Value × Value := (conc θ e.1, conc θ e.2)

theorem find_ok {kt : TypeId} {d : TypeDesc} {k : AV} (v : AV) (hd : P.underlying kt = some d) (hk : keyP P kt k = true) : ∀ (es : List (AV × AV)) (l : List MapEntry) (i : Nat), l.map pairOf = es.map (concM θ) → (∀ e ∈ es, keyP P kt e.1 = true) →
    (findM k es = none ∧ Instr.findNow d (conc θ k) l i = some none ∧ putM k v es = es ++ [(k, v)] ∧ dropM k es = es ∧ ∀ bs : List Nat, bs.length = es.length → dropB k es bs = bs) ∨
    ∃ j u, findM k es = some u ∧ (∃ k', (k', u) ∈ es) ∧ Instr.findNow d (conc θ k) l i = some (some (i + j, conc θ u)) ∧ (∃ e, l[j]? = some e ∧ e.key = conc θ k) ∧ putM k v es = es.set j (k, v) ∧ dropM k es = es.eraseIdx j ∧ ∀ bs : List Nat, bs.length = es.length → dropB k es bs = bs.eraseIdx j := by
  intro es
  induction es with
  | nil => intro l i hl _; obtain rfl : l = [] := by simpa using hl
           exact .inl ⟨rfl, rfl, rfl, rfl, fun bs _ => by simp [dropB]⟩
  | cons x es ih =>
    intro l i hl hks
    cases l with
    | nil => simp at hl
    | cons e l =>
      simp only [List.map_cons, List.cons.injEq] at hl
      obtain ⟨he, hl⟩ := hl
      have hek : e.key = conc θ x.1 := congrArg Prod.fst he
      have hev : e.val = conc θ x.2 := congrArg Prod.snd he
      have hx := hks x (List.mem_cons_self ..)
      obtain ⟨d1, hd1, k1⟩ := key_is hk θ
      obtain ⟨d2, hd2, k2⟩ := key_is hx θ
      rw [hd] at hd1 hd2
      cases hd1
      cases hd2
      obtain ⟨r, hr, hiff⟩ := MapKept.sameNow_of_keys k1 k2
      have hs := same_iff hk hx θ
      cases r with
      | true =>
        have hs' : sameK k x.1 = true := hs.2 (hiff.1 rfl)
        exact .inr ⟨0, x.2, by simp [findM, hs'], ⟨x.1, List.mem_cons_self ..⟩, by simp [Instr.findNow, hek, hr, hev], ⟨e, rfl, by rw [hek]; exact (hiff.1 rfl).symm⟩, by simp [putM, hs'], by simp [dropM, hs'], fun bs hb => by cases bs with | nil => simp at hb | cons b bs => simp [dropB, hs']⟩
      | false =>
        have hs' : sameK k x.1 = false := by
          cases h : sameK k x.1 with
          | false => rfl
          | true => have := hiff.2 (hs.1 h); cases this
        rcases ih l (i + 1) hl (fun e he => hks e (List.mem_cons_of_mem _ he)) with ⟨h1, h2, h3, h4, h5⟩ | ⟨j, u, h1, ⟨k', h1'⟩, h2, ⟨e', h3, h3'⟩, h4, h5, h6⟩
        · exact .inl ⟨by simp [findM, hs', h1], by simp [Instr.findNow, hek, hr, h2], by simp [putM, hs', h3], by simp [dropM, hs', h4], fun bs hb => by cases bs with | nil => simp at hb | cons b bs => simp [dropB, hs', h5 bs (by simpa using hb)]⟩
        · exact .inr ⟨j + 1, u, by simp [findM, hs', h1], ⟨k', List.mem_cons_of_mem _ h1'⟩, by simp [Instr.findNow, hek, hr, h2]; omega, ⟨e', by simpa using h3, h3'⟩, by simp [putM, hs', h4], by simp [dropM, hs', h5], fun bs hb => by cases bs with | nil => simp at hb | cons b bs => simp [dropB, hs', h6 bs (by simpa using hb)]⟩

theorem mapOf_get {r : Nat} {kt : TypeId} {es : List (AV × AV)} {bs : List Nat} {clk : Nat} (h : mapOf σ r = some (kt, es, bs, clk)) : σ.t.get r = some (.map kt es bs clk) := by
  unfold mapOf at h
  rw [T.get'_eq] at h
  split at h
  · rename_i hg; cases h; exact hg
  · cases h
theorem Rel.map (h : Rel P W θ σ w) {r : Nat} {kt : TypeId} {es : List (AV × AV)} {bs : List Nat} {clk : Nat} (hr : mapOf σ r = some (kt, es, bs, clk)) :
    r < σ.n ∧ (∀ e ∈ es, keyP P kt e.1 = true ∧ V θ σ.n e.2) ∧ ∃ (arr : Array MapEntry), w.heap[(θ r).blk]? = some (.map arr clk) ∧ arr.toList.map pairOf = es.map (concM θ) ∧ arr.toList.map (·.born) = bs := by
  obtain ⟨a, b⟩ := h.obj r _ (mapOf_get hr)
  exact ⟨a, b⟩

theorem makeM_ok {ty : TypeId} {an : AN} (hR : Rel P W θ σ w) (h : makeM P ty σ = some (an, σ')) :
    ∃ θ', Rel P W θ' σ' (w.alloc (.map #[] 0)) ∧ Mv θ σ w θ' σ' (w.alloc (.map #[] 0)) ∧ ∃ v, an = .v v ∧ V θ' σ'.n v ∧ conc θ' v = .map (some w.heap.size) ∧ ∃ k e, P.underlying ty = some (.map k e) := by
  unfold makeM at h
  split at h
  · rename_i kt e hu
    split at h
    · rename_i σ2 hσ
      cases h
      have hN := hR.made (w' := w.alloc (.map #[] 0)) hσ (.map #[] 0) 0 rfl rfl rfl rfl ⟨by simp, #[], by rw [upd_self]; exact heap_alloc_new w _, by simp, by simp⟩
      exact ⟨_, hN.1, hN.2, _, rfl, by simp only [V, (AW.get_new hσ).1]; omega, by simp [conc, upd_self], _, _, hu⟩
    · cases h
  · cases h

theorem updM_ok {ty : TypeId} {m k v : AV} {an : AN} (hR : Rel P W θ σ w) (hv : V θ σ.n v) (h : updM P ty m k v σ = some (an, σ')) :
    an = .skip ∧ ∃ w', Rel P W θ σ' w' ∧ Mv θ σ w θ σ' w' ∧ (Instr.mapUpdate ty (conc θ m) (conc θ k) (conc θ v)).run P w = .ok () w' := by
  unfold updM at h
  split at h
  · rename_i kt e r hu
    split at h
    · rename_i kt' es bs clk hr
      split at h
      · rename_i hc
        obtain ⟨rfl, hk⟩ := hc
        obtain ⟨hlt, hks, arr, hb, hl, hbs⟩ := hR.map hr
        obtain ⟨d, hd, hkd⟩ := key_is hk θ
        have hset : ∀ {σ' : AW} (arr' : Array MapEntry) (bs' : List Nat) (clock' : Nat), σ.put r (some (.map kt' (putM k v es) bs' clock')) = some σ' → arr'.toList.map pairOf = (putM k v es).map (concM θ) → arr'.toList.map (·.born) = bs' → (∀ e ∈ putM k v es, keyP P kt' e.1 = true ∧ V θ σ.n e.2) →
            Rel P W θ σ' { w with heap := w.heap.setIfInBounds (θ r).blk (.map arr' clock') } ∧ Mv θ σ w θ σ' { w with heap := w.heap.setIfInBounds (θ r).blk (.map arr' clock') } := fun arr' bs' clock' hσ ha hb' hes => by
          have hs := MapKept.heap_set (o' := .map arr' clock') hb
          exact hR.turn (mapOf_get hr) hσ (by simp) (fun k hk => hs.2 k hk) rfl rfl rfl ⟨hes, arr', hs.1, ha, hb'⟩
        rcases find_ok (θ := θ) v hd hk es arr.toList 0 hl (fun e he => (hks e he).1) with ⟨h1, h2, h3, h4, _⟩ | ⟨j, u, h1, h1', h2, ⟨e', h3, h3'⟩, h4, h5, _⟩
        · rw [h1] at h
          simp only [fLs_eq, fNat_eq] at h
          split at h
          · rename_i σ2 hσ
            cases h
            refine ⟨rfl, ?_⟩
            obtain ⟨a, b⟩ := hset (arr.push { key := conc θ k, val := conc θ v, born := clk }) _ (clk + 1) hσ (by rw [h3]; simp [hl, concM, pairOf]) (by simp [hbs]) (fun e he => by
              rw [h3] at he
              rcases List.mem_append.1 he with he | he
              · exact hks e he
              · obtain rfl : e = (k, v) := by simpa using he
                exact ⟨hk, hv⟩)
            refine ⟨_, a, b, ?_⟩
            simp [Instr.mapUpdate, conc, run_underlying hu, MapKept.run_getObj_map hb, MapKept.run_checkKey hd hkd, MapKept.run_findKey hd h2, MapKept.run_setObj_map _ hb, Result.andThen]
          · cases h
        · rw [h1] at h
          simp only [fLs_eq] at h
          split at h
          · rename_i σ2 hσ
            cases h
            refine ⟨rfl, ?_⟩
            have hj : arr[j]? = some e' := by simpa using h3
            obtain ⟨a, b⟩ := hset (arr.modify j fun e => { e with key := conc θ k, val := conc θ v }) _ clk hσ (by
                rw [h4, List.map_set, ← hl]
                apply List.ext_getElem?
                intro i
                simp only [Array.toList_modify, List.getElem?_map, List.getElem?_set, List.getElem?_modify, List.length_map]
                have hjl := (List.getElem?_eq_some_iff.1 h3).1
                by_cases hij : j = i
                · subst hij
                  have hjl' : j < arr.size := by simpa using hjl
                  simp [h3, hjl', pairOf, concM]
                · simp [hij]
                  ) (by
                rw [← hbs]
                apply List.ext_getElem?
                intro i
                simp only [Array.toList_modify, List.getElem?_map, List.getElem?_modify]
                by_cases hij : j = i
                · subst hij; cases arr.toList[j]? <;> simp
                · simp [hij]) (fun e he => by
              rw [h4] at he
              rcases List.mem_or_eq_of_mem_set he with he | rfl
              · exact hks e he
              · exact ⟨hk, hv⟩)
            refine ⟨_, a, b, ?_⟩
            simp only [Nat.zero_add] at h2
            simp [Instr.mapUpdate, conc, run_underlying hu, MapKept.run_getObj_map hb, MapKept.run_checkKey hd hkd, MapKept.run_findKey hd h2, hj, h3', MapKept.run_keyThatStays hkd, MapKept.run_setObj_map _ hb, Result.andThen]
          · cases h
      · cases h
    · cases h
  · cases h

theorem map_erase {α β : Type} (f : α → β) (l : List α) (j : Nat) : (l.eraseIdx j).map f = (l.map f).eraseIdx j := by
  induction l generalizing j with
  | nil => rfl
  | cons x l ih => cases j <;> simp [ih]
theorem erase_mem {α : Type} {l : List α} {j : Nat} {x : α} (h : x ∈ l.eraseIdx j) : x ∈ l := (List.eraseIdx_sublist l j).subset h
theorem delM_ok {ty ty2 : TypeId} {tys : List TypeId} {m k : AV} {an : AN} (hR : Rel P W θ σ w) (h : delM P ty m k σ = some (an, σ')) :
    an = .v (.tup []) ∧ ∃ w', Rel P W θ σ' w' ∧ Mv θ σ w θ σ' w' ∧ (Builtin.delete_ ⟨ty :: tys⟩ ty2 #[conc θ m, conc θ k]).run P w = .ok (.tuple #[]) w' := by
  unfold delM at h
  split at h
  · rename_i kt e r hu
    split at h
    · rename_i kt' es bs clk hr
      split at h
      · rename_i hc
        obtain ⟨rfl, hk⟩ := hc
        simp only [fLs_eq] at h
        split at h
        · rename_i σ2 hσ
          cases h
          obtain ⟨hlt, hks, arr, hb, hl, hbs⟩ := hR.map hr
          obtain ⟨d, hd, hkd⟩ := key_is hk θ
          have hbl : bs.length = es.length := by
            have h1 := congrArg List.length hl
            have h2 := congrArg List.length hbs
            simp at h1 h2; omega
          have hset : ∀ arr', arr'.toList.map pairOf = (dropM k es).map (concM θ) → arr'.toList.map (·.born) = dropB k es bs → (∀ e ∈ dropM k es, e ∈ es) →
              Rel P W θ σ' { w with heap := w.heap.setIfInBounds (θ r).blk (.map arr' clk) } ∧ Mv θ σ w θ σ' { w with heap := w.heap.setIfInBounds (θ r).blk (.map arr' clk) } := fun arr' ha hb' hes => by
            have hs := MapKept.heap_set (o' := .map arr' clk) hb
            exact hR.turn (mapOf_get hr) hσ (by simp) (fun k hk => hs.2 k hk) rfl rfl rfl ⟨fun e he => hks e (hes e he), arr', hs.1, ha, hb'⟩
          refine ⟨rfl, ?_⟩
          rcases find_ok (θ := θ) (.b true) hd hk es arr.toList 0 hl (fun e he => (hks e he).1) with ⟨h1, h2, h3, h4, h6⟩ | ⟨j, u, h1, h1', h2, ⟨e', h3, h3'⟩, h4, h5, h6⟩
          · obtain ⟨a, b⟩ := hset arr (by rw [h4]; exact hl) (by rw [h6 bs hbl]; exact hbs) (by rw [h4]; exact fun e he => he)
            refine ⟨_, a, b, ?_⟩
            simp [Builtin.delete_, conc, run_underlying hu, MapKept.run_getObj_map hb, MapKept.run_checkKey hd hkd, MapKept.run_findKey hd h2, MapKept.run_setObj_map _ hb, Result.andThen]
          · have hjl : j < arr.size := by simpa using (List.getElem?_eq_some_iff.1 h3).1
            obtain ⟨a, b⟩ := hset (arr.eraseIdxIfInBounds j) (by
                rw [h5]
                unfold Array.eraseIdxIfInBounds
                rw [dif_pos hjl, Array.toList_eraseIdx, map_erase, hl, map_erase]) (by
                rw [h6 bs hbl]
                unfold Array.eraseIdxIfInBounds
                rw [dif_pos hjl, Array.toList_eraseIdx, map_erase, hbs]) (fun e he => by rw [h5] at he; exact erase_mem he)
            refine ⟨_, a, b, ?_⟩
            simp only [Nat.zero_add] at h2
            simp [Builtin.delete_, conc, run_underlying hu, MapKept.run_getObj_map hb, MapKept.run_checkKey hd hkd, MapKept.run_findKey hd h2, MapKept.run_setObj_map _ hb, Result.andThen]
        · cases h
      · cases h
    · cases h
  · cases h

theorem zero_cells {x : Value} {z : AV} (h : ofV x = some z) (n : Nat) : (Builtin.zeroCells x.cells n).toList = concs θ (repl n (cellsOf z)) := by
  rw [cells_ofV (θ := θ) h]
  unfold Builtin.zeroCells
  apply List.ext_getElem?
  intro i
  have hl : (repl n (cellsOf z)).length = n * (cellsOf z).length := by
    generalize cellsOf z = l
    induction n with
    | zero => simp [repl]
    | succ c ih => simp [repl, ih, Nat.succ_mul, Nat.add_comm]
  have hget : ∀ (n i : Nat) (l : List AV), i < n * l.length → (repl n l)[i]? = l[i % l.length]? := by
    intro n
    induction n with
    | zero => intro i l h; simp at h
    | succ c ih =>
      intro i l h
      simp only [repl]
      rcases Nat.lt_or_ge i l.length with hi | hi
      · rw [List.getElem?_append_left hi, Nat.mod_eq_of_lt hi]
      · rw [List.getElem?_append_right hi, ih (i - l.length) l (by rw [Nat.succ_mul] at h; omega)]
        congr 1
        rw [← Nat.mod_eq_sub_mod hi]
  by_cases hi : i < n * (cellsOf z).length
  · have hm : i % (cellsOf z).length < (cellsOf z).length := Nat.mod_lt _ (by
      rcases Nat.eq_zero_or_pos (cellsOf z).length with e | e
      · rw [e] at hi; simp at hi
      · exact e)
    rw [concs_map, concs_map]
    simp only [Array.toList_map, List.getElem?_map, Array.toList_range, List.size_toArray, List.length_map]
    rw [List.getElem?_range hi, hget n i _ hi]
    simp [hm]
  · rw [concs_map, concs_map]
    simp only [Array.toList_map, List.getElem?_map, Array.toList_range, List.size_toArray, List.length_map]
    rw [List.getElem?_eq_none (by simp; omega), List.getElem?_eq_none (by rw [hl]; omega)]
    rfl

theorem lookM_ok {ty : TypeId} {m k : AV} {ok : Bool} {an : AN} (hR : Rel P W θ σ w) (h : lookM P ty m k ok σ = some (an, σ')) :
    σ' = σ ∧ ∃ v, an = .v v ∧ V θ σ.n v ∧ (Instr.lookup ty (conc θ m) (conc θ k) ok).run P w = .ok (conc θ v) w := by
  unfold lookM at h
  split at h
  · rename_i kt e hu
    split at h
    · rename_i hk
      obtain ⟨d, hd, hkd⟩ := key_is hk θ
      split at h
      · rename_i z hz
        obtain ⟨i, x, hi, hx, hofz⟩ := zeroP_info hz
        cases h
        have hzc := (of_ofV hofz θ σ.n).1
        have hzv := (of_ofV hofz θ σ.n).2
        refine ⟨rfl, _, rfl, by cases ok <;> simp [V, Vs, hzv], ?_⟩
        have h2 : Instr.findNow d (conc θ k) [] 0 = some none := rfl
        cases ok <;> simp [Instr.lookup, conc, concs, run_underlying hu, MapKept.run_checkKey hd hkd, MapKept.run_findKey hd h2, zeroValue, typeInfo, hi, hx, hzc, Result.andThen]
      · rename_i r z hz
        obtain ⟨i, x, hi, hx, hofz⟩ := zeroP_info hz
        have hzc := (of_ofV hofz θ σ.n).1
        have hzv := (of_ofV hofz θ σ.n).2
        split at h
        · rename_i kt' es bs clk hr
          split at h
          · rename_i hkt
            subst hkt
            obtain ⟨hlt, hks, arr, hb, hl, hbs⟩ := hR.map hr
            rcases find_ok (θ := θ) (.b true) hd hk es arr.toList 0 hl (fun e he => (hks e he).1) with ⟨h1, h2, _, _, _⟩ | ⟨j, u, h1, ⟨k', h1'⟩, h2, _, _, _, _⟩
            · rw [h1] at h
              cases h
              refine ⟨rfl, _, rfl, by cases ok <;> simp [V, Vs, hzv], ?_⟩
              cases ok <;> simp [Instr.lookup, conc, concs, run_underlying hu, MapKept.run_getObj_map hb, MapKept.run_checkKey hd hkd, MapKept.run_findKey hd h2, zeroValue, typeInfo, hi, hx, hzc, Result.andThen]
            · rw [h1] at h
              cases h
              have huv : V θ σ.n u := (hks _ h1').2
              refine ⟨rfl, _, rfl, by cases ok <;> simp [V, Vs, huv], ?_⟩
              cases ok <;> simp [Instr.lookup, conc, concs, run_underlying hu, MapKept.run_getObj_map hb, MapKept.run_checkKey hd hkd, MapKept.run_findKey hd h2, Result.andThen]
          · cases h
        · cases h
      · cases h
    · cases h
  · cases h

/-! ### Ranges over texts and maps -/
theorem iterOf_get {r : Nat} {m : Option Nat} {since last : Nat} {seen : List Nat} (h : iterOf σ r = some (m, since, seen, last)) : σ.t.get r = some (.iter m since seen last) := by
  unfold iterOf at h
  rw [T.get'_eq] at h
  split at h
  · rename_i hg; cases h; exact hg
  · cases h
theorem siterOf_get {r : Nat} {s : ByteArray} {pos : Nat} (h : siterOf σ r = some (s, pos)) : σ.t.get r = some (.siter s pos) := by
  unfold siterOf at h
  rw [T.get'_eq] at h
  split at h
  · rename_i hg; cases h; exact hg
  · cases h

theorem rangeM_ok {ty : TypeId} {x : AV} {an : AN} (hR : Rel P W θ σ w) (hx : V θ σ.n x) (h : rangeM P ty x σ = some (an, σ')) :
    ∃ θ' w', Rel P W θ' σ' w' ∧ Mv θ σ w θ' σ' w' ∧ ∃ v, an = .v v ∧ V θ' σ'.n v ∧ (Instr.range ty (conc θ x)).run P w = .ok (conc θ' v) w' := by
  unfold rangeM at h
  split at h
  · rename_i k e hu
    split at h
    · rename_i σ2 hσ
      cases h
      have hN := hR.made (w' := w.alloc (.mapIter none 0 #[] 0)) hσ (.mapIter none 0 #[] 0) 0 rfl rfl rfl rfl ⟨by simp, by rw [upd_self]; exact heap_alloc_new w _⟩
      refine ⟨_, _, hN.1, hN.2, _, rfl, by simp only [V, (AW.get_new hσ).1]; omega, ?_⟩
      simp only [conc, upd_self]
      exact run_range_nilMap w ty k e hu
    · cases h
  · rename_i k e r hu
    split at h
    · rename_i kt es bs clk hr
      split at h
      · rename_i σ2 hσ
        cases h
        obtain ⟨hlt, hks, arr, hb, hl, hbs⟩ := hR.map hr
        have hN := hR.made (w' := w.alloc (.mapIter (some (θ r).blk) clk #[] clk)) hσ (.mapIter (some (θ r).blk) clk #[] clk) 0 rfl rfl rfl rfl ⟨fun s hs => by cases hs; omega, by rw [upd_self, heap_alloc_new w _]; simp [upd_lt hlt]⟩
        refine ⟨_, _, hN.1, hN.2, _, rfl, by simp only [V, (AW.get_new hσ).1]; omega, ?_⟩
        simp only [conc, upd_self]
        exact run_range_map w ty k e _ arr clk hu hb
      · cases h
    · cases h
  · rename_i s hu
    split at h
    · rename_i σ2 hσ
      cases h
      have hN := hR.made (w' := w.alloc (.stringIter s 0)) hσ (.stringIter s 0) 0 rfl rfl rfl rfl (by show _ = _; rw [upd_self]; exact heap_alloc_new w _)
      refine ⟨_, _, hN.1, hN.2, _, rfl, by simp only [V, (AW.get_new hσ).1]; omega, ?_⟩
      simp [conc, upd_self, Instr.range, run_underlying hu]
    · cases h
  · cases h

theorem nextS_ok {ty : TypeId} {x : AV} {isS : Bool} {an : AN} (hR : Rel P W θ σ w) (h : nextS x isS σ = some (an, σ')) :
    ∃ w', Rel P W θ σ' w' ∧ Mv θ σ w θ σ' w' ∧ ∃ v, an = .v v ∧ V θ σ'.n v ∧ (Instr.next (conc θ x) isS ty).run P w = .ok (conc θ v) w' := by
  unfold nextS at h
  split at h
  · rename_i r
    split at h
    · rename_i s pos hr
      obtain ⟨hlt, ho⟩ := hR.obj r _ (siterOf_get hr)
      have ho : w.heap[(θ r).blk]? = some (.stringIter s pos) := ho
      split at h
      · rename_i hp
        rw [fNat_eq] at h
        split at h
        · rename_i σ2 hσ
          cases h
          have hT := hR.turn (w' := { w with heap := w.heap.setIfInBounds (θ r).blk (.stringIter s (pos + (Utf8.decode s pos).2)) }) (siterOf_get hr) hσ (by simp) (fun k hk => by simp [Array.getElem?_setIfInBounds, Ne.symm hk]) rfl rfl rfl (by
            show _ = _
            simp [Array.getElem?_setIfInBounds, (hR.blk r hlt).2])
          refine ⟨_, hT.1, hT.2, _, rfl, by simp [V, Vs], ?_⟩
          simp [Instr.next, conc, concs, getObj, setObj, Sem.run, ho, hp, Result.andThen, goInt]
        · cases h
      · rename_i hp
        cases h
        refine ⟨w, hR, Mv.refl (P := P) (W := W), _, rfl, by simp [V, Vs], ?_⟩
        simp [Instr.next, conc, concs, getObj, Sem.run, ho, hp, Result.andThen]
    · cases h
  · rename_i r
    split at h
    · rename_i a b c hr
      cases h
      obtain ⟨hlt, h1, ho⟩ := hR.obj r _ (iterOf_get hr)
      refine ⟨w, hR, Mv.refl (P := P) (W := W), _, rfl, by simp [V, Vs], ?_⟩
      simp only [Option.map_none] at ho
      simp [Instr.next, conc, concs, getObj, Sem.run, ho, Result.andThen]
    · cases h
  · cases h

theorem find_born_ok : ∀ (es : List (AV × AV)) (bs : List Nat) (l : List MapEntry) {b : Nat} {x : AV × AV}, l.map pairOf = es.map (concM θ) → l.map (·.born) = bs → findB b es bs = some x → ∃ e, l.find? (·.born == b) = some e ∧ pairOf e = concM θ x ∧ x ∈ es := by
  intro es
  induction es with
  | nil => intro bs l b x hl hb h; simp [findB] at h
  | cons y es ih =>
    intro bs l b x hl hb h
    cases l with
    | nil => simp at hl
    | cons e l =>
      cases bs with
      | nil => simp [findB] at h
      | cons c bs =>
        simp only [List.map_cons, List.cons.injEq] at hl hb
        simp only [findB] at h
        split at h
        · rename_i hc
          cases h
          exact ⟨e, by simp [hb.1, hc], hl.1, List.mem_cons_self ..⟩
        · rename_i hc
          obtain ⟨e', h1, h2, h3⟩ := ih bs l hl.2 hb.2 h
          have : (e.born == b) = false := by rw [hb.1]; simpa using hc
          exact ⟨e', by rw [List.find?_cons, this]; exact h1, h2, List.mem_cons_of_mem _ h3⟩
theorem lastB_eq : ∀ (l : List Nat), lastB l = l.getLast? := by
  intro l
  induction l with
  | nil => rfl
  | cons b l ih =>
    simp only [lastB, ih]
    cases l with
    | nil => rfl
    | cons c l => rw [List.getLast?_cons_cons]; cases h : (c :: l).getLast? with | none => simp at h | some v => rfl

theorem entryM_ok {x : AV} {an : AN} (hR : Rel P W θ σ w) (h : entryM x σ = some (an, σ')) :
    σ' = σ ∧ ∃ v, an = .v v ∧ V θ σ.n v ∧ (Instr.entry (conc θ x)).run P w = .ok (conc θ v) w := by
  unfold entryM at h
  split at h
  · rename_i r
    split at h
    · rename_i m since seen last hr
      split at h
      · rename_i kt es bs clk b hm hlb
        split at h
        · rename_i hc
          split at h
          · rename_i e he
            cases h
            obtain ⟨hlt, h1, ho⟩ := hR.obj r _ (iterOf_get hr)
            obtain ⟨hlt2, hks, arr, hb, hl, hbs⟩ := hR.map hm
            obtain ⟨e', f1, f2, f3⟩ := find_born_ok es bs arr.toList hl hbs he
            have hk := hks e f3
            refine ⟨rfl, _, rfl, by simp only [V, Vs]; exact ⟨key_V hk.1 θ _, hk.2, trivial⟩, ?_⟩
            have f4 : arr.find? (·.born == b) = some e' := by rw [← Array.find?_toList]; exact f1
            have f5 : seen.toArray.back? = some b := by rw [lastB_eq] at hlb; simpa using hlb
            have e1 : e'.key = conc θ e.1 := congrArg Prod.fst f2
            have e2 : e'.val = conc θ e.2 := congrArg Prod.snd f2
            simp only [Option.map_some] at ho
            simp only [Instr.entry, conc, getObj, Sem.run_bind, Sem.run, ho, hb, Result.andThen, f5, hc, bne_self_eq_false, Bool.false_eq_true, if_false, f4]
            simp [concs, e1, e2]
          · cases h
        · cases h
      · cases h
    · cases h
  · cases h

theorem underN_spec {n : Nat} : ∀ {l : List Nat}, underN n l = true → ∀ b ∈ l, b < n := by
  intro l
  induction l with
  | nil => intro _ b h; cases h
  | cons c l ih =>
    intro h b hb
    simp only [underN] at h
    split at h
    · rename_i hc
      rcases List.mem_cons.1 hb with rfl | hb
      · exact hc
      · exact ih h b hb
    · cases h
theorem hasN_eq (b : Nat) : ∀ (l : List Nat), hasN b l = l.contains b := by
  intro l
  induction l with
  | nil => rfl
  | cons c l ih => simp only [hasN, ih, List.contains_cons]; by_cases h : b = c <;> simp [h]
theorem left_ok (seen : List Nat) : ∀ (es : List (AV × AV)) (bs : List Nat) (l : List MapEntry), l.map pairOf = es.map (concM θ) → l.map (·.born) = bs →
    (l.filter fun e => !seen.contains e.born).map (fun e => (pairOf e, e.born)) = (leftM seen es bs).map fun x => (concM θ x.1, x.2) := by
  intro es
  induction es with
  | nil => intro bs l hl hb; obtain rfl : l = [] := by simpa using hl
           simp [leftM]
  | cons y es ih =>
    intro bs l hl hb
    cases l with
    | nil => simp at hl
    | cons e l =>
      cases bs with
      | nil => simp at hb
      | cons c bs =>
        simp only [List.map_cons, List.cons.injEq] at hl hb
        simp only [leftM, hasN_eq, List.filter_cons, hb.1]
        cases hs : seen.contains c with
        | true => simp only [Bool.not_true, Bool.false_eq_true, if_false, if_true]; exact ih bs l hl.2 hb.2
        | false => simp only [Bool.not_false, if_true, Bool.false_eq_true, if_false, List.map_cons, hl.1, hb.1]; rw [ih bs l hl.2 hb.2]
theorem left_mem {seen : List Nat} : ∀ {es : List (AV × AV)} {bs : List Nat} {x : (AV × AV) × Nat}, x ∈ leftM seen es bs → x.1 ∈ es := by
  intro es
  induction es with
  | nil => intro bs x h; simp [leftM] at h
  | cons y es ih =>
    intro bs x h
    cases bs with
    | nil => simp [leftM] at h
    | cons c bs =>
      simp only [leftM] at h
      split at h
      · exact List.mem_cons_of_mem _ (ih h)
      · rcases List.mem_cons.1 h with rfl | h
        · exact List.mem_cons_self ..
        · exact List.mem_cons_of_mem _ (ih h)

/-- **The next of a map: nothing is left, or one of those that are, whichever.** -/
theorem nextM_ok {ty : TypeId} {x : AV} {isS : Bool} {r m since clk : Nat} {seen : List Nat} {l : List ((AV × AV) × Nat)} (hR : Rel P W θ σ w) (h : nextM x isS σ = some (r, m, since, seen, clk, l)) :
    (l = [] ∧ (Instr.next (conc θ x) isS ty).run P w = .ok (conc θ (.tup [.b false])) w) ∨
    ∃ e b, (e, b) ∈ l ∧ ∀ σ', σ.put r (some (.iter (some m) since (seen ++ [b]) clk)) = some σ' → ∃ w', Rel P W θ σ' w' ∧ Mv θ σ w θ σ' w' ∧ V θ σ'.n (.tup [.b true, e.1, e.2]) ∧ (Instr.next (conc θ x) isS ty).run P w = .ok (conc θ (.tup [.b true, e.1, e.2])) w' := by
  unfold nextM at h
  split at h
  · rename_i r'
    split at h
    · rename_i m' since' seen' last hr
      split at h
      · rename_i kt es bs clk' hm
        split at h
        · rename_i hc
          cases h
          obtain ⟨hlt, h1, ho⟩ := hR.obj r _ (iterOf_get hr)
          obtain ⟨hlt2, hks, arr, hb, hl, hbs⟩ := hR.map hm
          simp only [Option.map_some] at ho
          have hL := left_ok seen es bs arr.toList hl hbs
          have hlo : (leftOf arr seen.toArray).toList = arr.toList.filter fun e => !seen.contains e.born := by
            unfold leftOf
            simp
          have hold : ∀ x ∈ arr.toList, x.born < since := fun x hx => underN_spec hc.1 _ (by rw [← hbs]; exact List.mem_map.2 ⟨x, hx, rfl⟩)
          rcases run_next_at (P := P) w ty _ _ since last seen.toArray arr clk ho hb hold hc.2 with ⟨h0, hrun⟩ | ⟨e, he, w1, hal, hrun⟩
          · left
            refine ⟨?_, by simpa [conc, concs] using hrun⟩
            have : (leftOf arr seen.toArray).toList = [] := by
              apply List.eq_nil_of_length_eq_zero; simpa using h0
            rw [← hlo, this] at hL
            simpa using hL.symm
          · right
            rw [hlo] at he
            have hmem : (pairOf e, e.born) ∈ (leftM seen es bs).map fun x => (concM θ x.1, x.2) := by
              rw [← hL]; exact List.mem_map.2 ⟨e, he, rfl⟩
            obtain ⟨⟨x, b⟩, hx, hxe⟩ := List.mem_map.1 hmem
            simp only [Prod.mk.injEq] at hxe
            obtain ⟨hp, rfl⟩ := hxe
            refine ⟨x, e.born, hx, fun σ' hσ => ?_⟩
            have hk := hks x (left_mem hx)
            have hR1 : Rel P W θ σ w1 ∧ Mv θ σ w θ σ w1 := by
              rcases hal with rfl | rfl
              · exact ⟨hR, Mv.refl (P := P) (W := W)⟩
              · exact hR.drew
            have hr1 : w1.heap[(θ r).blk]? = some (.mapIter (some (θ m).blk) since seen.toArray last) := by rcases hal with rfl | rfl <;> exact ho
            have hT := hR1.1.turn (w' := ChangeMaps.setBlock w1 (θ r).blk (.mapIter (some (θ m).blk) since (seen.toArray.push e.born) clk)) (iterOf_get hr) hσ (by simp [ChangeMaps.setBlock]) (fun k hk => by simp [ChangeMaps.setBlock, Array.getElem?_setIfInBounds, Ne.symm hk]) rfl rfl rfl (by
              refine ⟨fun s hs => by cases hs; exact h1 m rfl, ?_⟩
              have := (Array.getElem?_eq_some_iff.1 hr1).1
              simp [ChangeMaps.setBlock, Array.getElem?_setIfInBounds, this])
            have e1 : e.key = conc θ x.1 := (congrArg Prod.fst hp).symm
            have e2 : e.val = conc θ x.2 := (congrArg Prod.snd hp).symm
            have hn := (AW.get_put hσ).1
            refine ⟨_, hT.1, hR1.2.trans hT.2, by rw [hn]; simp only [V, Vs]; exact ⟨trivial, key_V hk.1 θ _, hk.2, trivial⟩, ?_⟩
            simp only [conc, concs] at hrun ⊢
            rw [hrun, e1, e2]
        · cases h
      · cases h
    · cases h
  · cases h
end
end Go.Proofs.YtdennekkbdlhdaaDoor.Ev
/-
  Every operation that does more than tell a value.
-/
namespace Go.Proofs.YtdennekkbdlhdaaDoor.Ev
open Go.RowKit
set_option linter.unusedVariables false
set_option linter.unusedSimpArgs false

section
variable {P : Program} {W : World} {G : List (Nat × List AV)} {θ : Nat → Ent} {σ σ' : AW} {w : World} {t : List AV} {ds : List Deferred}

/-! ### Loads -/
theorem load_read {ty : TypeId} {cs : List AV} {o : Nat} {v : AV} (h : loadP P ty cs o = some v) : ∃ vs, readP P ty cs o = some vs ∧ (∀ n, Vs θ n vs → V θ n v) ∧
    ∀ (b : Nat) (w : World), (∀ j u, (concs θ vs)[j]? = some u → w.cell? ⟨b, o + j, none⟩ = some u) → (loadVar ty ⟨b, o, none⟩).run P w = .ok (conc θ v) w := by
  unfold loadP at h
  unfold readP
  split at h
  · rename_i n ha hs
    split at h
    · rename_i m hm
      cases h
      refine ⟨m, by simp [ha, hs, hm], fun n hv => by simp only [V]; exact hv, fun b w hc => ?_⟩
      have hl := (getRange_some hm).2
      have := run_loadCells_list (P := P) (w := w) ⟨b, o, none⟩ (concs θ m) (fun j u hu => by rw [add_plain]; exact hc j u hu)
      rw [show (concs θ m).length = n by rw [concs_map]; simpa using hl] at this
      simp [loadVar, isAggP_run ha, sizeP_run hs, this, conc]
    · cases h
  · rename_i x hs ha
    have hlt := (List.getElem?_eq_some_iff.1 h).1
    have hm : getRange cs o 1 = some [v] := by
      unfold getRange
      have : (cs.drop o).take 1 = [v] := by
        rw [List.drop_eq_getElem_cons hlt, List.take_succ_cons, List.take_zero]
        simp [(List.getElem?_eq_some_iff.1 h).2]
      simp [this]
    refine ⟨[v], by simp [ha, hm], fun n hv => by simpa [Vs] using hv, fun b w hc => ?_⟩
    have := hc 0 (conc θ v) (by simp [concs])
    simp only [Nat.add_zero] at this
    simp [loadVar, isAggP_run ha, this]
  · cases h

/-- package-level variables that are known -/
def GOk (G : List (Nat × List AV)) (W : World) : Prop := ∀ g cs, readG G g = some cs → g < W.heap.size ∧ ∀ j v, cs[j]? = some v → ∃ x, toV1 v = some x ∧ W.cell? ⟨g, j, none⟩ = some x

theorem toV1_V {v : AV} {x : Value} (h : toV1 v = some x) (n : Nat) : V θ n v := by
  unfold toV1 at h
  split at h <;> first | (simp [V]; done) | cases h

theorem Below.cellAt {w : World} (h : Below W.heap.size W w) {g : Nat} (hg : g < W.heap.size) (j : Nat) : w.cell? ⟨g, j, none⟩ = W.cell? ⟨g, j, none⟩ := h.cell (p := ⟨g, j, none⟩) hg

theorem loadOp_ok (hG : GOk G W) (hR : Rel P W θ σ w) {ty : TypeId} {a v : AV} (h : loadOp P G ty a σ = some v) :
    V θ σ.n v ∧ (Instr.loadAt ty (conc θ a)).run P w = .ok (conc θ v) w := by
  unfold loadOp at h
  split at h
  · rename_i r o
    split at h
    · rename_i cs e op hr
      obtain ⟨vs, h1, h2, h3⟩ := load_read (θ := θ) h
      have hg : ∃ k, getRange cs o k = some vs := by
        unfold readP at h1
        split at h1
        · exact ⟨_, h1⟩
        · exact ⟨_, h1⟩
        · cases h1
      obtain ⟨k, hk⟩ := hg
      obtain ⟨c1, c2, c3, c4⟩ := hR.cells hr hk
      refine ⟨h2 _ c1, ?_⟩
      simp [Instr.loadAt, Instr.sureAddr, conc, h3 _ w c4]
    · cases h
  · rename_i g o
    split at h
    · rename_i cs hr
      obtain ⟨hlt, hc⟩ := hG g cs hr
      obtain ⟨vs, h1, h2, h3⟩ := load_read (θ := θ) h
      have hg : ∃ k, getRange cs o k = some vs := by
        unfold readP at h1
        split at h1
        · exact ⟨_, h1⟩
        · exact ⟨_, h1⟩
        · cases h1
      obtain ⟨k, hk⟩ := hg
      refine ⟨h2 _ (Vs_iff.2 fun u hu => ?_), ?_⟩
      · have hm := getRange_mem hk hu
        obtain ⟨j, hj⟩ := List.getElem?_of_mem hm
        obtain ⟨x, hx, _⟩ := hc j u hj
        exact toV1_V hx _
      · simp [Instr.loadAt, Instr.sureAddr, conc]
        rw [h3 g w fun j u hu => ?_]
        · rw [concs_map, List.getElem?_map] at hu
          cases hj : vs[j]? with
          | none => rw [hj] at hu; cases hu
          | some y =>
            rw [hj] at hu
            cases hu
            have hlt' : j < k := by
              have := (List.getElem?_eq_some_iff.1 hj).1
              rw [(getRange_some hk).2] at this
              exact this
            rw [getRange_get hk j hlt'] at hj
            obtain ⟨x, hx, hcell⟩ := hc (o + j) y hj
            rw [Below.cellAt hR.bel hlt, hcell, of_toV1 hx θ]
    · cases h
  · cases h

/-! ### What is made -/
theorem repl_length (c : Nat) (l : List AV) : (repl c l).length = c * l.length := by induction c with | zero => simp [repl] | succ c ih => simp [repl, ih, Nat.succ_mul, Nat.add_comm]
theorem repl_mem {c : Nat} {l : List AV} {v : AV} (h : v ∈ repl c l) : v ∈ l := by
  induction c with
  | zero => simp [repl] at h
  | succ c ih => simp only [repl, List.mem_append] at h; exact h.elim id ih
theorem repl_get (c : Nat) (l : List AV) (i : Nat) (h : i < c * l.length) : (repl c l)[i]? = l[i % l.length]? := by
  induction c generalizing i with
  | zero => simp at h
  | succ c ih =>
    simp only [repl]
    rcases Nat.lt_or_ge i l.length with hi | hi
    · rw [List.getElem?_append_left hi, Nat.mod_eq_of_lt hi]
    · rw [List.getElem?_append_right hi, ih (i - l.length) (by rw [Nat.succ_mul] at h; omega)]
      congr 1
      rw [← Nat.mod_eq_sub_mod hi]
theorem made_cells {z : List AV} {c : Nat} (hz : 0 < z.length) : madeCells (concs θ z).toArray (c * z.length) = (concs θ (repl c z)).toArray := by
  unfold madeCells
  apply Array.ext_getElem?
  intro i
  simp only [Array.getElem?_map, Array.getElem?_range, List.getElem?_toArray, concs_map, List.getElem?_map]
  by_cases h : i < c * z.length
  · rw [if_pos h, repl_get c z i h]
    have hm : i % z.length < z.length := Nat.mod_lt _ hz
    simp [hm]
  · rw [if_neg h, List.getElem?_eq_none (by rw [repl_length]; omega)]
    rfl

theorem bytes_nums : ∀ {l : List AV} {m : List UInt8}, bytesOf l = some m → ∃ ns : List Int, concs θ l = ns.map (Value.int .u8) ∧ m = ns.map (fun n => UInt8.ofNat n.toNat) := by
  intro l
  induction l with
  | nil => intro m h; simp only [bytesOf] at h; cases h; exact ⟨[], by simp [concs], rfl⟩
  | cons v l ih =>
    intro m h
    unfold bytesOf at h
    split at h
    · rename_i e; cases e
    rename_i n l' e
    cases e
    split at h
    · rename_i m' hm
      cases h
      obtain ⟨ns, h1, h2⟩ := ih hm
      exact ⟨n :: ns, by simp [concs, conc, h1], by simp [h2]⟩
    · cases h
    · cases h
theorem bytes_run {a : Addr} {l : List AV} {m : List UInt8} (cap : Nat) (hm : bytesOf l = some m) (hc : ∀ j u, (concs θ l)[j]? = some u → w.cell? (a.add j) = some u) :
    (Conv.bytesToString (.slice (some a) l.length cap)).run P w = .ok (.string ⟨⟨m⟩⟩) w := by
  have hl := run_loadCells_list (P := P) (w := w) a (concs θ l) hc
  rw [show (concs θ l).length = l.length by rw [concs_map]; simp] at hl
  obtain ⟨ns, h1, h2⟩ := bytes_nums (θ := θ) hm
  rw [run_bytesToString w a l.length cap ns (by rw [hl, h1]), foldl_push_bytes, h2]
  simp

/-- an object that reads as before -/
theorem Rel.again (h : Rel P W θ σ w) {w' : World} {r : Nat} {o : AO} (hr : σ.t.get r = some o) (hsz : w'.heap.size = w.heap.size) (hold : ∀ k, k ≠ (θ r).blk → w'.heap[k]? = w.heap[k]?)
    (h1 : w'.os = w.os) (h2 : w'.tape = w.tape) (h3 : w'.output = w.output) (ho : ObjOk P θ σ.n w' r o) : Rel P W θ σ w' ∧ Mv θ σ w θ σ w' := by
  have hlt := (h.obj r o hr).1
  have hb := h.blk r hlt
  refine ⟨⟨⟨h1.trans h.bel.os, h2.trans h.bel.tape, h3.trans h.bel.output, by rw [hsz]; exact h.bel.size, fun k hk => (hold k (by omega)).trans (h.bel.block k hk)⟩, fun s hs => by rw [hsz]; exact h.blk s hs, fun s p hs => ?_, h.sep⟩, ?_⟩
  · by_cases e : s = r
    · subst e
      rw [hr] at hs
      cases hs
      exact ⟨hlt, ho⟩
    · obtain ⟨a, b⟩ := h.obj s p hs
      exact ⟨a, b.kept (fun _ _ => rfl) (Nat.le_refl _) a (hold _ (h.sep s r p o hs hr e))⟩
  · exact ⟨fun _ _ => rfl, Nat.le_refl _, by omega, fun k _ hno => hold k (fun e => hno r o hr e.symm), fun s p hs => .inl ⟨s, p, hs, rfl⟩⟩

/-- what is told of an operation that does more -/
def moreRun (P : Program) (θ' : Nat → Ent) (w w' : World) (σ σ' : AW) (r : Result Next) : AN → Prop
  | .v v => V θ' σ'.n v ∧ r = .ok (.value (conc θ' v)) w'
  | .skip => r = .ok .skip w'
  | .enter f args => σ' = σ ∧ w' = w ∧ Vs θ' σ.n args ∧ r = (callFunc f (concs θ' args).toArray).run P w
  | .round l args => σ' = σ ∧ w' = w ∧ l < σ.n ∧ Vs θ' σ.n args ∧ r = (Instr.yield (θ' l).blk (concs θ' args).toArray).run P w

theorem eval_parts {parts : Array (Nat × Operand)} (h : ∀ x ∈ parts, evOk x.2 = true) :
    (parts.map fun (i, x) => (i, Act.eval ⟨(concs θ t).toArray, ds⟩ x)).toList = (parts.toList.map fun x => (x.1, ev t x.2)).map fun x => (x.1, conc θ x.2) := by
  have := map_eval (θ := θ) (t := t) (ds := ds) h
  rw [show (parts.map fun (i, x) => (i, Act.eval ⟨(concs θ t).toArray, ds⟩ x)) = (parts.map fun (x : Nat × Operand) => (x.1, Act.eval ⟨(concs θ t).toArray, ds⟩ x.2)) from rfl, this]

set_option maxHeartbeats 2000000 in
theorem more_ok {o : Oper} {an : AN} (hR : Rel P W θ σ w) (hV : Vs θ σ.n t) (h : moreOp P o t σ = some (an, σ')) :
    ∃ θ' w', Rel P W θ' σ' w' ∧ Mv θ σ w θ' σ' w' ∧ moreRun P θ' w w' σ σ' ((execOp (Act.eval ⟨(concs θ t).toArray, ds⟩) o).run P w) an := by
  unfold moreOp at h
  split at h
  · cases h
  rename_i h0
  have hall : ∀ x ∈ o.op.operands, evOk x = true := by
    have := (by simpa using h0 : evOks o.op.operands.toList = true)
    intro x hx
    exact List.all_eq_true.1 this x (by simpa using hx)
  clear h0
  obtain ⟨dst, op, ty, pos, after, guard⟩ := o
  simp only at h hall
  have e1 : ∀ x, evOk x = true → Act.eval ⟨(concs θ t).toArray, ds⟩ x = conc θ (ev t x) := fun x hx => eval_conc hx
  have v1 : ∀ x, V θ σ.n (ev t x) := fun x => ev_V hV
  split at h
  · -- alloc
    rename_i ty'
    split at h
    · rename_i z hz
      obtain ⟨i, x, hi, hx, hofz⟩ := zeroP_info hz
      obtain ⟨h1, σ2, hσ, hr⟩ := made_some h
      cases hr
      have hN := hR.newRow hσ (cellsOf_V (of_ofV hofz θ σ.n).2) h1
      refine ⟨_, _, hN.1, hN.2, ?_⟩
      simp only [moreRun, V, conc, upd_self, (AW.get_new hσ).1]
      refine ⟨Nat.lt_succ_self _, ?_⟩
      simp [execOp, Instr.alloc, zeroValue, typeInfo, hi, hx, newVar, newRow, cells_ofV (θ := θ) hofz]
    · cases h
  · -- box
    rename_i ty' x
    have hx := e1 x (hall x (by simp [Op.operands]))
    obtain ⟨h1, σ2, hσ, hr⟩ := made_some h
    cases hr
    have hN := hR.newRow hσ (cellsOf_V (v1 x)) h1
    refine ⟨_, _, hN.1, hN.2, ?_⟩
    simp only [moreRun, V, conc, upd_self, (AW.get_new hσ).1]
    refine ⟨Nat.lt_succ_self _, ?_⟩
    have hc : (conc θ (ev t x)).cells = (concs θ (cellsOf (ev t x))).toArray := by apply Array.ext'; rw [cells_conc]
    simp [execOp, Instr.box, hx, newVar, newRow, hc]
  · -- buildSlice
    rename_i ty' len parts
    have hp : ∀ x ∈ parts, evOk x.2 = true := fun x hx => hall x.2 (by simp only [Op.operands]; simp; exact ⟨x.1, hx⟩)
    split at h
    · rename_i e hu
      split at h
      · rename_i size z hs hz
        split at h
        · cases h
        rename_i hb
        obtain ⟨i, x, hi, hx, hofz⟩ := zeroP_info hz
        unfold sizeP at hs
        rw [hi] at hs
        simp only [Option.some.injEq] at hs
        subst hs
        have hb1 : ¬ len * i.size > 16777216 := fun e => hb (.inl e)
        have hb2 : (cellsOf z).length = i.size := by
          by_cases e : (cellsOf z).length = i.size
          · exact e
          · exact absurd (.inr (.inl e)) hb
        have hb3 : i.size ≠ 0 := fun e => hb (.inr (.inr (.inl e)))
        have hb4 : len = 0 → parts.toList = [] := fun e => by
          by_cases e' : parts.toList.length = 0
          · exact List.eq_nil_of_length_eq_zero e'
          · exact absurd (.inr (.inr (.inr ⟨e, e'⟩))) hb
        split at h
        · rename_i cs hf
          obtain ⟨h1, σ2, hσ, hr⟩ := made_some h
          cases hr
          obtain ⟨f1, f2⟩ := fill_ok (θ := θ) (n := σ.n) hf
          have hzV := cellsOf_V (of_ofV hofz θ σ.n).2
          have hcV := f2 (Vs_iff.2 fun v hv => Vs_iff.1 hzV v (repl_mem hv)) (fun y hy => by obtain ⟨u, _, rfl⟩ := List.mem_map.1 hy; exact v1 _)
          have hN := hR.newRow hσ hcV h1
          refine ⟨_, _, hN.1, hN.2, ?_⟩
          simp only [moreRun, V, conc, capC, upd_self, (AW.get_new hσ).1]
          refine ⟨⟨Nat.lt_succ_self _, Nat.le_refl _⟩, ?_⟩
          simp only [execOp]
          by_cases hl0 : len = 0
          · subst hl0
            have hp0 := hb4 rfl
            have hpa : parts = #[] := by apply Array.ext'; simpa using hp0
            subst hpa
            simp only [List.map_nil, fillP, repl, Option.some.injEq] at hf
            subst hf
            simp [Instr.buildSlice, run_underlying hu, sizeOf, typeInfo, hi, newRow, Instr.fill, concs, Array.range_zero']
          · have hbs := run_buildSlice (P := P) w ty' e len (parts.map fun (i, x) => (i, Act.eval ⟨(concs θ t).toArray, ds⟩ x)) (concs θ cs).toArray i x hu hi hx hb1 (Nat.mul_ne_zero hl0 hb3) (by
              rw [eval_parts hp, ← f1]
              congr 1
              have := made_cells (θ := θ) (z := cellsOf z) (c := len) (by omega)
              rw [hb2, ← cells_ofV (θ := θ) hofz] at this
              exact this)
            rw [Sem.run_bind, hbs]
            rfl
        · cases h
      · cases h
    · cases h
  · -- store
    rename_i ty' a x
    have ha := e1 a (hall a (by simp [Op.operands]))
    have hx := e1 x (hall x (by simp [Op.operands]))
    split at h
    · rename_i r o n hea hs
      split at h
      · rename_i cs e op' hr
        split at h
        · rename_i hc
          obtain ⟨hc1, hc2⟩ := hc
          split at h
          · rename_i zs hzs
            obtain ⟨σ2, hσ, hy⟩ := puts_some h
            cases hy
            obtain ⟨w', hst, hR', hM⟩ := hR.turnRow hr hzs hσ (cellsOf_V (v1 x)) (by simpa using hc2)
            refine ⟨θ, w', hR', hM, ?_⟩
            simp only [moreRun]
            rw [hea] at ha
            have hc : (conc θ (ev t x)).cells.toList = concs θ (cellsOf (ev t x)) := cells_conc θ _
            have hsz : (conc θ (ev t x)).cells.size = n := by rw [← Array.length_toList, hc, concs_map]; simpa using hc1
            simp [execOp, Instr.storeAt, Instr.sureAddr, ha, hx, conc, storeVar, sizeP_run hs, hsz, hc, hst]
          · cases h
        · cases h
      · cases h
    · cases h
  · -- makeSlice
    rename_i ty' ln cp
    have hln := e1 ln (hall ln (by simp [Op.operands]))
    have hcp := e1 cp (hall cp (by simp [Op.operands]))
    split at h
    · rename_i e l c hu hel hec
      split at h
      · rename_i info z hi hz
        split at h
        · rename_i hb
          obtain ⟨b1, b2, b3, b4, b5, b6⟩ := hb
          obtain ⟨h1, σ2, hσ, hr⟩ := made_some h
          cases hr
          obtain ⟨i, x, hi', hx, hofz⟩ := zeroP_info hz
          rw [hi] at hi'
          cases hi'
          have hzV := cellsOf_V (of_ofV hofz θ σ.n).2
          have hN := hR.newRow hσ (Vs_iff.2 fun v hv => Vs_iff.1 hzV v (repl_mem hv)) h1
          refine ⟨_, _, hN.1, hN.2, ?_⟩
          simp only [moreRun, V, conc, capC, upd_self, (AW.get_new hσ).1]
          refine ⟨⟨Nat.lt_succ_self _, by omega⟩, ?_⟩
          rw [hel] at hln
          rw [hec] at hcp
          have hm := run_make (P := P) w ty' e info x hu hi hx .i64 .i64 l c b1 b2 (by omega) (by omega)
          have hmc := made_cells (θ := θ) (z := cellsOf z) (c := c.toNat) (by omega)
          rw [b5, ← cells_ofV (θ := θ) hofz] at hmc
          simp only [execOp, hln, hcp, conc]
          rw [Sem.run_bind, hm, hmc]
          rfl
        · cases h
      · cases h
    · cases h
  · -- append
    rename_i s x ts tx
    have hs := e1 s (hall s (by simp [Op.operands, Call.operands]))
    have hx := e1 x (hall x (by simp [Op.operands, Call.operands]))
    have go : ∀ e, P.underlying ts = some (.slice e) → ((∃ e', P.underlying tx = some (.slice e')) ∨ P.underlying tx = some .string) → appendP P e (ev t s) (ev t x) σ = some (an, σ') →
        ∃ θ' w', Rel P W θ' σ' w' ∧ Mv θ σ w θ' σ' w' ∧ moreRun P θ' w w' σ σ' ((execOp (Act.eval ⟨(concs θ t).toArray, ds⟩) ⟨dst, .call ⟨.builtin .append, ⟨[s, x]⟩, ⟨[ts, tx]⟩⟩, ty, pos, after, guard⟩).run P w) an := fun e hu hk h => by
      obtain ⟨θ', w', v, rfl, a, b, c, d⟩ := append_ok (ty := ty) hR hu hk (v1 s) h
      refine ⟨θ', w', a, b, c, ?_⟩
      simp only [execOp, resolve, invoke, builtin, Sem.run_bind, Sem.run_pure, Result.andThen_ok, List.map_toArray, List.map_cons, List.map_nil, hs, hx]
      rw [d]
      rfl
    split at h
    · rename_i e e' hu hk
      exact go e hu (.inl ⟨e', hk⟩) h
    · rename_i e hu hk
      exact go e hu (.inr hk) h
    · cases h
  · -- copy
    rename_i d x ts tx
    have hd := e1 d (hall d (by simp [Op.operands, Call.operands]))
    have hx := e1 x (hall x (by simp [Op.operands, Call.operands]))
    split at h
    · rename_i e r o dl c hu hed
      split at h
      · rename_i size xl cs el op' hs hl hr
        split at h
        · rename_i ys hys
          split at h
          · rename_i zs hzs
            obtain ⟨σ2, hσ, hy⟩ := puts_some h
            cases hy
            obtain ⟨y1, y2, y3, y4⟩ := firsts_ok hR hys
            obtain ⟨w', hst, hR', hM⟩ := hR.turnRow hr hzs hσ y1 y2
            refine ⟨θ, w', hR', hM, by simp [V], ?_⟩
            rw [hed] at hd
            simp only [execOp, resolve, invoke, builtin, Sem.run_bind, Sem.run_pure, Result.andThen_ok, List.map_toArray, List.map_cons, List.map_nil, hd, hx, conc]
            simp [Builtin.copy_, run_underlying hu, lenP_run hl, sizeP_run hs, y4 w rfl, hst, goInt]
          · cases h
        · cases h
      · cases h
    · cases h
  · -- makeMap
    rename_i ty'
    obtain ⟨θ', a, b, v, rfl, hv, hc, _⟩ := makeM_ok hR h
    refine ⟨θ', _, a, b, ?_⟩
    simp only [moreRun]
    refine ⟨hv, ?_⟩
    rw [hc]
    simp [execOp, Instr.makeMap, newObj, Sem.run]
  · -- makeMap with room
    rename_i ty' hh
    have hx := e1 hh (hall hh (by simp [Op.operands]))
    split at h
    · rename_i k n hen
      obtain ⟨θ', a, b, v, rfl, hv, hc, _, _, hu⟩ := makeM_ok hR h
      rw [hen] at hx
      refine ⟨θ', _, a, b, ?_⟩
      simp only [moreRun]
      refine ⟨hv, ?_⟩
      rw [hc]
      simp [execOp, Instr.makeMap, newObj, Sem.run, hx, conc, run_underlying hu, asInt]
      rfl
    · cases h
  · -- mapUpdate
    rename_i ty' m k x
    obtain ⟨rfl, w', a, b, c⟩ := updM_ok hR (v1 x) h
    refine ⟨θ, w', a, b, ?_⟩
    simp only [moreRun]
    simp [execOp, e1 m (hall m (by simp [Op.operands])), e1 k (hall k (by simp [Op.operands])), e1 x (hall x (by simp [Op.operands])), c]
  · -- insert
    rename_i ty' m k x
    obtain ⟨rfl, w', a, b, c⟩ := updM_ok hR (v1 x) h
    refine ⟨θ, w', a, b, ?_⟩
    simp only [moreRun]
    simp [execOp, e1 m (hall m (by simp [Op.operands])), e1 k (hall k (by simp [Op.operands])), e1 x (hall x (by simp [Op.operands])), c]
  · -- lookup
    rename_i ty' m k ok
    obtain ⟨rfl, v, rfl, hv, c⟩ := lookM_ok hR h
    refine ⟨θ, w, hR, Mv.refl (P := P) (W := W), ?_⟩
    simp only [moreRun]
    refine ⟨hv, ?_⟩
    simp [execOp, e1 m (hall m (by simp [Op.operands])), e1 k (hall k (by simp [Op.operands])), c]
  · -- range
    rename_i ty' x
    obtain ⟨θ', w', a, b, v, rfl, hv, c⟩ := rangeM_ok hR (v1 x) h
    refine ⟨θ', w', a, b, ?_⟩
    simp only [moreRun]
    refine ⟨hv, ?_⟩
    simp [execOp, e1 x (hall x (by simp [Op.operands])), c]
  · -- next
    rename_i x isS
    obtain ⟨w', a, b, v, rfl, hv, c⟩ := nextS_ok (ty := ty) hR h
    refine ⟨θ, w', a, b, ?_⟩
    simp only [moreRun]
    refine ⟨hv, ?_⟩
    simp [execOp, e1 x (hall x (by simp [Op.operands])), c]
  · -- entry
    rename_i x
    obtain ⟨rfl, v, rfl, hv, c⟩ := entryM_ok hR h
    refine ⟨θ, w, hR, Mv.refl (P := P) (W := W), ?_⟩
    simp only [moreRun]
    refine ⟨hv, ?_⟩
    simp [execOp, e1 x (hall x (by simp [Op.operands])), c]
  · -- slice, beyond its end
    rename_i ty' x lo hi
    have hx := e1 x (hall x (by simp [Op.operands]))
    have hvx := v1 x
    split at h
    · rename_i r o len d e hex hu
      split at h
      · rename_i cs e' size l hh hr hs bl bh
        split at h
        · rename_i hc
          obtain ⟨rfl, ho, hs0, hle, hlt⟩ := hc
          cases h
          rw [hex] at hx hvx
          obtain ⟨hrn, hcs, c, fz, hcc, hfz, hcv, hop⟩ := hR.row hr
          obtain ⟨rfl, hcm, i2, hi2, hcsz⟩ := hop rfl
          have hsz : size = i2.size := by unfold sizeP at hs; rw [hi2] at hs; simpa using hs.symm
          subst hsz
          have hlen : cs.length ≤ c.size := by
            rcases Nat.lt_or_ge c.size cs.length with hlt' | hge
            · have := hcv c.size _ (List.getElem?_eq_getElem hlt')
              simp at this
            · exact hge
          have hcap : hh ≤ (θ r).cap - d := by
            have h1 : (d + hh) * i2.size ≤ (θ r).cap * i2.size := by
              rw [Nat.add_mul, ← ho, ← hcsz]; omega
            have := Nat.le_of_mul_le_mul_right h1 (Nat.pos_of_ne_zero hs0)
            omega
          have hb := bounds_ok (P := P) (θ := θ) (ds := ds) (isS := true) (len := len) (cap := (θ r).cap - d) (mx := none) (m := (θ r).cap - d) (fun y hy => hall y (by simp [Op.operands, hy])) (fun y hy => hall y (by simp [Op.operands, hy])) bl bh (by omega) hcap (Nat.le_refl _) (.inl ⟨rfl, rfl⟩) w
          refine ⟨θ, w, hR, Mv.refl (P := P) (W := W), ?_⟩
          simp only [moreRun]
          simp only [V, capC] at hvx
          refine ⟨by simp only [V, capC]; exact ⟨hvx.1, by omega⟩, ?_⟩
          simp only [Option.map_none] at hb
          simp only [execOp, hx, conc, capC]
          simp [Instr.sliceAt, Instr.slice, run_underlying hu, hb, sizeP_run hs, add_plain]
          exact ⟨fun e => absurd e (by omega), by omega⟩
        · cases h
      · cases h
    · cases h
  · -- clear
    rename_i x ty'
    have hx := e1 x (hall x (by simp [Op.operands, Call.operands]))
    split at h
    · rename_i e hu hex
      cases h
      rw [hex] at hx
      refine ⟨θ, w, hR, Mv.refl (P := P) (W := W), by simp [V, Vs], ?_⟩
      simp [execOp, resolve, invoke, builtin, hx, conc, concs, Builtin.clear_, run_underlying hu]
    · rename_i e r o u' d' hu hex
      cases h
      rw [hex] at hx
      refine ⟨θ, w, hR, Mv.refl (P := P) (W := W), by simp [V, Vs], ?_⟩
      simp [execOp, resolve, invoke, builtin, hx, conc, concs, Builtin.clear_, run_underlying hu]
    · rename_i e r o n c hu hex
      rw [hex] at hx
      split at h
      · rename_i h0
        subst h0
        cases h
        refine ⟨θ, w, hR, Mv.refl (P := P) (W := W), by simp [V, Vs], ?_⟩
        simp [execOp, resolve, invoke, builtin, hx, conc, concs, Builtin.clear_, run_underlying hu]
      · rename_i h0
        split at h
        · rename_i z cs el op' hz hr
          split at h
          · rename_i h1
            split at h
            · rename_i zs hzs
              obtain ⟨σ2, hσ, hy⟩ := puts_some h
              cases hy
              obtain ⟨i, x', hi, hx', hofz⟩ := zeroP_info hz
              have hzV := cellsOf_V (of_ofV hofz θ σ.n).2
              obtain ⟨w', hst, hR', hM⟩ := hR.turnRow hr hzs hσ (Vs_iff.2 fun v hv => Vs_iff.1 hzV v (repl_mem hv)) (fun v hv => by
                have := List.all_eq_true.1 h1 v (repl_mem hv)
                exact this)
              refine ⟨θ, w', hR', hM, by simp [V, Vs], ?_⟩
              have hzc := zero_cells (θ := θ) hofz n
              have hst' : (storeCells ⟨(θ r).blk, o, none⟩ (Builtin.zeroCells x'.cells n).toList 0).run P w = .ok () w' := by rw [hzc]; exact hst
              cases n with
              | zero => exact absurd rfl h0
              | succ n' => simp [execOp, resolve, invoke, builtin, hx, conc, concs, Builtin.clear_, run_underlying hu, zeroValue, typeInfo, hi, hx', hst']
            · cases h
          · cases h
        · cases h
    · cases h
  · -- len of a map
    rename_i x ty'
    have hx := e1 x (hall x (by simp [Op.operands, Call.operands]))
    split at h
    · rename_i kt e r hu hex
      split at h
      · rename_i kt' es bs clk hr
        cases h
        rw [hex] at hx
        obtain ⟨hlt, hks, arr, hb, hl, hbs⟩ := hR.map hr
        have hlen : arr.size = es.length := by
          have := congrArg List.length hl
          simpa using this
        refine ⟨θ, w, hR, Mv.refl (P := P) (W := W), by simp [V], ?_⟩
        simp [execOp, resolve, invoke, builtin, hx, conc, Builtin.len_, run_underlying hu, MapKept.run_getObj_map hb, hlen, goInt]
      · cases h
    · cases h
  · -- delete
    rename_i m k ty' tys
    have hm := e1 m (hall m (by simp [Op.operands, Call.operands]))
    have hk' := e1 k (hall k (by simp [Op.operands, Call.operands]))
    obtain ⟨rfl, w', a, b, c⟩ := delM_ok (ty2 := ty) (tys := tys) hR h
    refine ⟨θ, w', a, b, by simp [V, Vs], ?_⟩
    simp only [execOp, resolve, invoke, builtin, Sem.run_bind, Sem.run_pure, Result.andThen_ok, List.map_toArray, List.map_cons, List.map_nil, hm, hk', c]
    simp [conc, concs]
  · -- call
    rename_i f args ats
    have hf := e1 f (hall f (by simp [Op.operands, Call.operands]))
    have hvf := v1 f
    have hargs : evOks args.toList = true := List.all_eq_true.2 fun x hx => hall x (by simp only [Op.operands, Call.operands]; simp at hx ⊢; exact .inr hx)
    have a1 : args.map (Act.eval ⟨(concs θ t).toArray, ds⟩) = (concs θ (evs t args.toList)).toArray := by
      apply Array.ext'; rw [Array.toList_map]; exact evs_conc hargs
    split at h
    · rename_i g first captured hef
      cases h
      rw [hef] at hf hvf
      simp only [V] at hvf
      refine ⟨θ, w, hR, Mv.refl (P := P) (W := W), rfl, rfl, ?_, ?_⟩
      · refine Vs_iff.2 fun v hv => ?_
        simp only [List.mem_append] at hv
        rcases hv with (hv | hv) | hv
        · exact Vs_iff.1 hvf.1 v hv
        · exact Vs_iff.1 (evs_V hV) v hv
        · exact Vs_iff.1 hvf.2 v hv
      · simp only [execOp, resolve, Sem.run_bind, hf, conc, Deferred.ofValue, Sem.run_pure, Result.andThen_ok, invoke, a1]
        congr 2
        apply Array.ext'
        simp [concs_map]
    · rename_i l hef
      cases h
      rw [hef] at hf hvf
      simp only [V] at hvf
      refine ⟨θ, w, hR, Mv.refl (P := P) (W := W), rfl, rfl, hvf, evs_V hV, ?_⟩
      simp only [execOp, resolve, Sem.run_bind, hf, conc, Deferred.ofValue, Sem.run_pure, Result.andThen_ok, invoke, a1]
      simp
    · cases h
  · -- convert
    rename_i s d x
    have hx := e1 x (hall x (by simp [Op.operands]))
    have hvx := v1 x
    split at h
    · rename_i r o len c e hex hu hd
      split at h
      · rename_i cs el op' hue hr
        split at h
        · rename_i l hl
          split at h
          · rename_i m hm
            cases h
            rw [hex] at hx
            obtain ⟨l1, l2, l3, l4⟩ := hR.cells hr hl
            refine ⟨θ, w, hR, Mv.refl (P := P) (W := W), by simp [V], ?_⟩
            have hb := bytes_run (P := P) (θ := θ) (w := w) (a := ⟨(θ r).blk, o, none⟩) (capC (θ r) c) hm (fun j u hu => by rw [add_plain]; exact l4 j u hu)
            rw [l3] at hb
            simp only [execOp, hx, conc]
            simp only [convert, Sem.run_bind, run_underlying hu, run_underlying hd, run_underlying hue, Result.andThen_ok, hb]
            rfl
          · cases h
        · cases h
      · cases h
    · rename_i r o u' d' e hex hu hd
      split at h
      · rename_i hue
        cases h
        rw [hex] at hx
        refine ⟨θ, w, hR, Mv.refl (P := P) (W := W), by simp [V], ?_⟩
        simp only [execOp, hx, conc]
        simp [convert, run_underlying hu, run_underlying hd, run_underlying hue, Conv.bytesToString, loadCells, loadCellsFrom]
        rfl
      · cases h
    · rename_i r o len cap e e' hex hu hd
      split at h
      · rename_i cs el op' hue hr
        split at h
        · rename_i hc
          obtain ⟨rfl, hop⟩ := hc
          cases h
          rw [hex] at hx hvx
          obtain ⟨hlt, hcs, c, fz, h3, h4, h5, h6⟩ := hR.row hr
          have hop : op' = false := by simpa using hop
          subst hop
          have hlt2 := (hR.blk r hlt).2
          have hT := hR.again (w' := w.freeze ⟨(θ r).blk, c.size, none⟩ 1) (o := .row cs el false) (rowOf_get hr) (by simp [World.freeze]) (fun k hk => by simp [World.freeze, Array.getElem?_modify, Ne.symm hk]) (by simp [World.freeze]) (by simp [World.freeze]) (by simp [World.freeze]) (by
            refine ⟨hcs, c, (if fz.1 == fz.2 then (c.size, c.size + 1) else (min fz.1 c.size, max fz.2 (c.size + 1))), ?_, ?_, h5, fun ho => by cases ho⟩
            · simp [World.freeze, Array.getElem?_modify, h3]
            · rcases h4 with h4 | h4
              · simp [h4, Unfrozen]
              · by_cases he : fz.1 = fz.2
                · simp [he, Unfrozen]
                · simp [he, Unfrozen]; omega)
          rw [hu] at hd
          cases hd
          refine ⟨θ, _, hT.1, hT.2, hvx, ?_⟩
          simp only [execOp, hx, conc, capC]
          simp [convert, run_underlying hu, run_underlying hue, markStringish, World.shape?, h3]
        · cases h
      · cases h
    · cases h
  · cases h
end
end Go.Proofs.YtdennekkbdlhdaaDoor.Ev
