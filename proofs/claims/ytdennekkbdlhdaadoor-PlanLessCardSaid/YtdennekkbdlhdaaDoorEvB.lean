/-
  What the values of the run stand for, and how its memory lies in a world.
-/
import Derived.Test.YtdennekkbdlhdaaDoorEvA
import Derived.Laws.Cells
import Derived.Laws.Entries
import Derived.Maps.RangeRun
import Derived.Laws.Tables
import Derived.Laws.Slices
import Derived.Laws.Small
import Derived.Laws.Closers25
namespace Go.Proofs.YtdennekkbdlhdaaDoor.Ev
open Go.RowKit
set_option linter.unusedVariables false

structure Ent where
  blk : Nat
  cap : Nat
instance : Inhabited Ent := ⟨⟨0, 0⟩⟩

def capC (e : Ent) : Cp → Nat | .k n => n | .o d => e.cap - d

mutual
def conc (θ : Nat → Ent) : AV → Value
  | .b x => .bool x
  | .i k n => .int k n
  | .s x => .string x
  | .pn => .pointer none
  | .p r o => .pointer (some ⟨(θ r).blk, o, none⟩)
  | .pg g o => .pointer (some ⟨g, o, none⟩)
  | .sn => .slice none 0 0
  | .sl r o len c => .slice (some ⟨(θ r).blk, o, none⟩) len (capC (θ r) c)
  | .se r o u d => .slice (some ⟨(θ r).blk, if (θ r).cap - d = 0 then o else u, none⟩) 0 ((θ r).cap - d)
  | .fn f a b => .func (.func f) (concs θ a).toArray (concs θ b).toArray
  | .yl r => .func (.yield (θ r).blk) #[] #[]
  | .mn => .map none
  | .mp r => .map (some (θ r).blk)
  | .fnil => .nilFunc
  | .inil => .nilIface
  | .ifc t v => .iface t (conc θ v)
  | .agg l => .agg (concs θ l).toArray
  | .tup l => .tuple (concs θ l).toArray
def concs (θ : Nat → Ent) : List AV → List Value
  | [] => []
  | v :: l => conc θ v :: concs θ l
end

theorem concs_map (θ : Nat → Ent) (l : List AV) : concs θ l = l.map (conc θ) := by induction l with | nil => simp [concs] | cons x l ih => simp [concs, ih]

mutual
def V (θ : Nat → Ent) (n : Nat) : AV → Prop
  | .p r _ => r < n
  | .sl r _ len c => r < n ∧ len ≤ capC (θ r) c
  | .se r _ _ _ => r < n
  | .yl r => r < n
  | .mp r => r < n
  | .fn _ a b => Vs θ n a ∧ Vs θ n b
  | .ifc _ v => V θ n v
  | .agg l => Vs θ n l
  | .tup l => Vs θ n l
  | _ => True
def Vs (θ : Nat → Ent) (n : Nat) : List AV → Prop
  | [] => True
  | v :: l => V θ n v ∧ Vs θ n l
end

theorem Vs_iff {θ : Nat → Ent} {n : Nat} {l : List AV} : Vs θ n l ↔ ∀ v ∈ l, V θ n v := by
  induction l with
  | nil => simp [Vs]
  | cons x l ih => simp [Vs, ih]

mutual
theorem conc_ext {θ θ' : Nat → Ent} {n : Nat} (h : ∀ r, r < n → θ' r = θ r) : ∀ v, V θ n v → conc θ' v = conc θ v
  | .b _, _ | .i _ _, _ | .s _, _ | .pn, _ | .pg _ _, _ | .sn, _ | .mn, _ | .fnil, _ | .inil, _ => by simp [conc]
  | .p r o, hv => by simp only [V] at hv; simp [conc, h r hv]
  | .sl r o len c, hv => by simp only [V] at hv; simp [conc, h r hv.1]
  | .yl r, hv => by simp only [V] at hv; simp [conc, h r hv]
  | .mp r, hv => by simp only [V] at hv; simp [conc, h r hv]
  | .se r o u d, hv => by simp only [V] at hv; simp [conc, h r hv]
  | .fn f a b, hv => by simp only [V] at hv; simp [conc, concs_ext h a hv.1, concs_ext h b hv.2]
  | .ifc t v, hv => by simp only [V] at hv; simp [conc, conc_ext h v hv]
  | .agg l, hv => by simp only [V] at hv; simp [conc, concs_ext h l hv]
  | .tup l, hv => by simp only [V] at hv; simp [conc, concs_ext h l hv]
theorem concs_ext {θ θ' : Nat → Ent} {n : Nat} (h : ∀ r, r < n → θ' r = θ r) : ∀ l, Vs θ n l → concs θ' l = concs θ l
  | [], _ => by simp [concs]
  | v :: l, hv => by simp only [Vs] at hv; simp [concs, conc_ext h v hv.1, concs_ext h l hv.2]
end
mutual
theorem V_ext {θ θ' : Nat → Ent} {n n' : Nat} (h : ∀ r, r < n → θ' r = θ r) (hn : n ≤ n') : ∀ v, V θ n v → V θ' n' v
  | .b _, _ | .i _ _, _ | .s _, _ | .pn, _ | .pg _ _, _ | .sn, _ | .mn, _ | .fnil, _ | .inil, _ => by simp [V]
  | .p r o, hv => by simp only [V] at *; omega
  | .sl r o len c, hv => by simp only [V] at *; rw [h r hv.1]; exact ⟨by omega, hv.2⟩
  | .yl r, hv => by simp only [V] at *; omega
  | .mp r, hv => by simp only [V] at *; omega
  | .se r o u d, hv => by simp only [V] at *; omega
  | .fn f a b, hv => by simp only [V] at *; exact ⟨Vs_ext h hn a hv.1, Vs_ext h hn b hv.2⟩
  | .ifc t v, hv => by simp only [V] at *; exact V_ext h hn v hv
  | .agg l, hv => by simp only [V] at *; exact Vs_ext h hn l hv
  | .tup l, hv => by simp only [V] at *; exact Vs_ext h hn l hv
theorem Vs_ext {θ θ' : Nat → Ent} {n n' : Nat} (h : ∀ r, r < n → θ' r = θ r) (hn : n ≤ n') : ∀ l, Vs θ n l → Vs θ' n' l
  | [], _ => by simp [Vs]
  | v :: l, hv => by simp only [Vs] at *; exact ⟨V_ext h hn v hv.1, Vs_ext h hn l hv.2⟩
end

/-! ### A value without addresses is what it stands for -/
theorem of_ofV1 {v : Value} {a : AV} (h : ofV1 v = some a) (θ : Nat → Ent) (n : Nat) : conc θ a = v ∧ V θ n a := by
  unfold ofV1 at h
  split at h <;> first | (cases h; exact ⟨by simp [conc], by simp [V]⟩) | cases h
theorem of_ofVs {l : List Value} {m : List AV} (h : ofVs l = some m) (θ : Nat → Ent) (n : Nat) : concs θ m = l ∧ Vs θ n m := by
  induction l generalizing m with
  | nil => simp only [ofVs] at h; cases h; exact ⟨by simp [concs], by simp [Vs]⟩
  | cons x l ih =>
    simp only [ofVs] at h
    split at h
    · rename_i a m' ha hm
      cases h
      obtain ⟨h1, h2⟩ := of_ofV1 ha θ n
      obtain ⟨h3, h4⟩ := ih hm
      exact ⟨by simp [concs, h1, h3], by simp only [Vs]; exact ⟨h2, h4⟩⟩
    · cases h
theorem of_ofV {v : Value} {a : AV} (h : ofV v = some a) (θ : Nat → Ent) (n : Nat) : conc θ a = v ∧ V θ n a := by
  unfold ofV at h
  split at h
  · rename_i l
    split at h
    · rename_i m hm
      cases h
      obtain ⟨h3, h4⟩ := of_ofVs hm θ n
      exact ⟨by simp [conc, h3], by simp only [V]; exact h4⟩
    · cases h
  · rename_i l
    split at h
    · rename_i m hm
      cases h
      obtain ⟨h3, h4⟩ := of_ofVs hm θ n
      exact ⟨by simp [conc, h3], by simp only [V]; exact h4⟩
    · cases h
  · exact of_ofV1 h θ n
theorem of_toV1 {a : AV} {v : Value} (h : toV1 a = some v) (θ : Nat → Ent) : conc θ a = v := by
  unfold toV1 at h
  split at h <;> first | (cases h; simp [conc]) | cases h
theorem of_toVs {l : List AV} {m : List Value} (h : toVs l = some m) (θ : Nat → Ent) : concs θ l = m := by
  induction l generalizing m with
  | nil => simp only [toVs] at h; cases h; simp [concs]
  | cons x l ih =>
    simp only [toVs] at h
    split at h
    · rename_i a m' ha hm; cases h; simp [concs, of_toV1 ha θ, ih hm]
    · cases h
theorem of_toV {a : AV} {v : Value} (h : toV a = some v) (θ : Nat → Ent) : conc θ a = v := by
  unfold toV at h
  split at h
  · split at h
    · rename_i hm; cases h; simp [conc, of_toVs hm θ]
    · cases h
  · split at h
    · rename_i hm; cases h; simp [conc, of_toVs hm θ]
    · cases h
  · exact of_toV1 h θ

theorem one_conc {v : AV} (h : one v = true) (θ : Nat → Ent) : (conc θ v).oneCell' = true := by cases v <;> simp_all [one, conc, Value.oneCell']
theorem one_cells {v : AV} (h : one v = true) (θ : Nat → Ent) : (conc θ v).cells = #[conc θ v] := by cases v <;> simp_all [one, conc, Value.cells]
theorem cells_conc (θ : Nat → Ent) (v : AV) : (conc θ v).cells.toList = concs θ (cellsOf v) := by
  cases v <;> simp [conc, Value.cells, cellsOf, concs]

theorem key_V {P : Program} {kt : TypeId} {k : AV} (h : keyP P kt k = true) (θ : Nat → Ent) (n : Nat) : V θ n k := by
  unfold keyP at h
  split at h <;> first | exact trivial | cases h

/-! ### Memory -/
def Unfrozen (fz : Nat × Nat) (n : Nat) : Prop := fz.1 = fz.2 ∨ n ≤ fz.1

def ObjOk (P : Program) (θ : Nat → Ent) (n : Nat) (w : World) (r : Nat) : AO → Prop
  | .row cs e op => (∀ v ∈ cs, V θ n v ∧ one v = true) ∧ ∃ (c : Array Value) (fz : Nat × Nat), w.heap[(θ r).blk]? = some (.cells c e fz) ∧ Unfrozen fz c.size ∧ (∀ (j : Nat) (v : AV), cs[j]? = some v → c[j]? = some (conc θ v)) ∧
      (op = true → fz = (0, 0) ∧ (θ r).cap ≤ maxLen ∧ ∃ i, P.info? e = some i ∧ c.size = (θ r).cap * i.size)
  | .loop st pend tm ps asg body dr => Vs θ n tm ∧ dr < n ∧ ∃ fn, w.heap[(θ r).blk]? = some (.loop { state := st, pending := pend, fn := fn, tmps := (concs θ tm).toArray, params := ps, assign := asg, body := body, defers := (θ dr).blk })
  | .defr tk => w.heap[(θ r).blk]? = some (.deferred (if tk then none else some []))
  | .map kt es bs clk => (∀ e ∈ es, keyP P kt e.1 = true ∧ V θ n e.2) ∧ ∃ (arr : Array MapEntry), w.heap[(θ r).blk]? = some (.map arr clk) ∧ arr.toList.map (fun e => (e.key, e.val)) = es.map (fun e => (conc θ e.1, conc θ e.2)) ∧ arr.toList.map (·.born) = bs
  | .iter m since seen last => (∀ r, m = some r → r < n) ∧ w.heap[(θ r).blk]? = some (.mapIter (m.map fun r => (θ r).blk) since seen.toArray last)
  | .siter s pos => w.heap[(θ r).blk]? = some (.stringIter s pos)

theorem ObjOk.kept {P : Program} {θ θ' : Nat → Ent} {n n' : Nat} {w w' : World} {r : Nat} {o : AO} (h : ObjOk P θ n w r o) (hx : ∀ r, r < n → θ' r = θ r) (hn : n ≤ n') (hr : r < n)
    (hw : w'.heap[(θ r).blk]? = w.heap[(θ r).blk]?) : ObjOk P θ' n' w' r o := by
  cases o with
  | row cs e op =>
    obtain ⟨h1, c, fz, h2, h3, h4, h5⟩ := h
    refine ⟨fun v hv => ⟨V_ext hx hn v (h1 v hv).1, (h1 v hv).2⟩, c, fz, by rw [hx r hr, hw]; exact h2, h3, fun j v hv => ?_, fun ho => by rw [hx r hr]; exact h5 ho⟩
    rw [h4 j v hv, conc_ext hx v (h1 v (List.mem_of_getElem? hv)).1]
  | loop st pend tm ps asg body dr =>
    obtain ⟨h1, h2, fn, h3⟩ := h
    refine ⟨Vs_ext hx hn tm h1, by omega, fn, ?_⟩
    rw [hx r hr, hw, h3, concs_ext hx tm h1, hx dr h2]
  | defr tk => unfold ObjOk at *; rw [hx r hr, hw]; exact h
  | map kt es bs clk =>
    obtain ⟨h1, arr, h2, h3, h4⟩ := h
    refine ⟨fun e he => ⟨(h1 e he).1, V_ext hx hn _ (h1 e he).2⟩, arr, by rw [hx r hr, hw]; exact h2, h3.trans ?_, h4⟩
    refine List.map_congr_left fun e he => ?_
    rw [conc_ext hx _ (h1 e he).2, conc_ext hx e.1 (key_V (h1 e he).1 θ n)]
  | iter m since seen last =>
    obtain ⟨h1, h2⟩ := h
    refine ⟨fun s hs => Nat.lt_of_lt_of_le (h1 s hs) hn, ?_⟩
    rw [hx r hr, hw, h2]
    cases m with
    | none => rfl
    | some s => simp [hx s (h1 s rfl)]
  | siter s pos => unfold ObjOk at *; rw [hx r hr, hw]; exact h

structure Rel (P : Program) (W : World) (θ : Nat → Ent) (σ : AW) (w : World) : Prop where
  bel : Below W.heap.size W w
  blk : ∀ r, r < σ.n → W.heap.size ≤ (θ r).blk ∧ (θ r).blk < w.heap.size
  obj : ∀ r o, σ.t.get r = some o → r < σ.n ∧ ObjOk P θ σ.n w r o
  sep : ∀ r s o p, σ.t.get r = some o → σ.t.get s = some p → r ≠ s → (θ r).blk ≠ (θ s).blk

/-- what a move has left as it was -/
structure Mv (θ : Nat → Ent) (σ : AW) (w : World) (θ' : Nat → Ent) (σ' : AW) (w' : World) : Prop where
  ext : ∀ r, r < σ.n → θ' r = θ r
  n : σ.n ≤ σ'.n
  size : w.heap.size ≤ w'.heap.size
  fr : ∀ k, k < w.heap.size → (∀ r o, σ.t.get r = some o → (θ r).blk ≠ k) → w'.heap[k]? = w.heap[k]?
  own : ∀ r o, σ'.t.get r = some o → (∃ s p, σ.t.get s = some p ∧ (θ s).blk = (θ' r).blk) ∨ w.heap.size ≤ (θ' r).blk

theorem Mv.refl {P : Program} {W : World} {θ : Nat → Ent} {σ : AW} {w : World} : Mv θ σ w θ σ w :=
  ⟨fun _ _ => rfl, Nat.le_refl _, Nat.le_refl _, fun _ _ _ => rfl, fun r o h => .inl ⟨r, o, h, rfl⟩⟩
theorem Mv.trans {θ θ1 θ2 : Nat → Ent} {σ σ1 σ2 : AW} {w w1 w2 : World} (h : Mv θ σ w θ1 σ1 w1) (k : Mv θ1 σ1 w1 θ2 σ2 w2) : Mv θ σ w θ2 σ2 w2 where
  ext r hr := (k.ext r (Nat.lt_of_lt_of_le hr h.n)).trans (h.ext r hr)
  n := Nat.le_trans h.n k.n
  size := Nat.le_trans h.size k.size
  fr j hj hno := by
    refine (k.fr j (Nat.lt_of_lt_of_le hj h.size) fun r o hr he => ?_).trans (h.fr j hj hno)
    rcases h.own r o hr with ⟨s, p, hs, hb⟩ | hb
    · exact hno s p hs (hb.trans he)
    · omega
  own r o hr := by
    rcases k.own r o hr with ⟨s, p, hs, hb⟩ | hb
    · rcases h.own s p hs with ⟨s', p', hs', hb'⟩ | hb'
      · exact .inl ⟨s', p', hs', hb'.trans hb⟩
      · exact .inr (by omega)
    · exact .inr (Nat.le_trans h.size hb)

section
variable {P : Program} {W : World} {θ : Nat → Ent} {σ σ' : AW} {w w' : World}

/-- nothing but a draw -/
theorem Rel.same (h : Rel P W θ σ w) (hh : w'.heap = w.heap) (h1 : w'.os = w.os) (h2 : w'.tape = w.tape) (h3 : w'.output = w.output) : Rel P W θ σ w' ∧ Mv θ σ w θ σ w' := by
  refine ⟨⟨⟨h1.trans h.bel.os, h2.trans h.bel.tape, h3.trans h.bel.output, by rw [hh]; exact h.bel.size, fun k hk => by rw [hh]; exact h.bel.block k hk⟩, fun r hr => by rw [hh]; exact h.blk r hr, fun r o hr => ?_, h.sep⟩, ?_⟩
  · obtain ⟨a, b⟩ := h.obj r o hr
    exact ⟨a, b.kept (fun _ _ => rfl) (Nat.le_refl _) a (by rw [hh])⟩
  · exact ⟨fun _ _ => rfl, Nat.le_refl _, by rw [hh]; exact Nat.le_refl _, fun k _ _ => by rw [hh], fun r o h => .inl ⟨r, o, h, rfl⟩⟩

theorem Rel.drew (h : Rel P W θ σ w) : Rel P W θ σ { w with drawn := w.drawn + 1 } ∧ Mv θ σ w θ σ { w with drawn := w.drawn + 1 } := h.same rfl rfl rfl rfl

def upd (θ : Nat → Ent) (n : Nat) (e : Ent) : Nat → Ent := fun r => if r = n then e else θ r
theorem upd_lt {θ : Nat → Ent} {n : Nat} {e : Ent} {r : Nat} (h : r < n) : upd θ n e r = θ r := by unfold upd; rw [if_neg (by omega)]
theorem upd_self {θ : Nat → Ent} {n : Nat} {e : Ent} : upd θ n e n = e := by simp [upd]

/-- a new object -/
theorem Rel.made (h : Rel P W θ σ w) {o : AO} (hσ : σ.new o = some σ') (O : Obj) (cap : Nat) (hh : w'.heap = w.heap.push O) (h1 : w'.os = w.os) (h2 : w'.tape = w.tape) (h3 : w'.output = w.output)
    (ho : ObjOk P (upd θ σ.n ⟨w.heap.size, cap⟩) (σ.n + 1) w' σ.n o) : Rel P W (upd θ σ.n ⟨w.heap.size, cap⟩) σ' w' ∧ Mv θ σ w (upd θ σ.n ⟨w.heap.size, cap⟩) σ' w' := by
  obtain ⟨hn, hg⟩ := AW.get_new hσ
  have hold : ∀ k, k < w.heap.size → w'.heap[k]? = w.heap[k]? := fun k hk => by rw [hh, Array.getElem?_push]; rw [if_neg (by omega)]
  have hsz : w'.heap.size = w.heap.size + 1 := by rw [hh]; simp
  have key : ∀ r p, σ'.t.get r = some p → (r = σ.n ∧ p = o) ∨ (r < σ.n ∧ σ.t.get r = some p) := fun r p hr => by
    rw [hg] at hr
    split at hr
    · rename_i e; cases hr; exact .inl ⟨e, rfl⟩
    · exact .inr ⟨(h.obj r p hr).1, hr⟩
  refine ⟨⟨⟨h1.trans h.bel.os, h2.trans h.bel.tape, h3.trans h.bel.output, by rw [hsz]; have := h.bel.size; omega, fun k hk => (hold k (by have := h.bel.size; omega)).trans (h.bel.block k hk)⟩, fun r hr => ?_, fun r p hr => ?_, fun r s p q hr hs hne => ?_⟩, ?_⟩
  · rw [hn] at hr
    rcases Nat.lt_or_ge r σ.n with hlt | hge
    · rw [upd_lt hlt, hsz]; have := h.blk r hlt; omega
    · obtain rfl : r = σ.n := by omega
      rw [upd_self, hsz]; exact ⟨h.bel.size, Nat.lt_succ_self _⟩
  · rw [hn]
    rcases key r p hr with ⟨rfl, rfl⟩ | ⟨hlt, hr⟩
    · exact ⟨Nat.lt_succ_self _, ho⟩
    · exact ⟨by omega, (h.obj r p hr).2.kept (fun r hr => upd_lt hr) (Nat.le_succ _) hlt (hold _ (h.blk r hlt).2)⟩
  · rcases key r p hr with ⟨rfl, rfl⟩ | ⟨hlt, hr⟩ <;> rcases key s q hs with ⟨rfl, rfl⟩ | ⟨hlt', hs⟩
    · exact absurd rfl hne
    · rw [upd_self, upd_lt hlt']; have := (h.blk s hlt').2; simp only; omega
    · rw [upd_self, upd_lt hlt]; have := (h.blk r hlt).2; simp only; omega
    · rw [upd_lt hlt, upd_lt hlt']; exact h.sep r s p q hr hs hne
  · refine ⟨fun r hr => upd_lt hr, by omega, by omega, fun k hk _ => hold k hk, fun r p hr => ?_⟩
    rcases key r p hr with ⟨rfl, rfl⟩ | ⟨hlt, hr⟩
    · rw [upd_self]; exact .inr (Nat.le_refl _)
    · rw [upd_lt hlt]; exact .inl ⟨r, p, hr, rfl⟩

/-- an object that has turned -/
theorem Rel.turn (h : Rel P W θ σ w) {r : Nat} {o o' : AO} (hr : σ.t.get r = some o) (hσ : σ.put r (some o') = some σ') (hsz : w'.heap.size = w.heap.size) (hold : ∀ k, k ≠ (θ r).blk → w'.heap[k]? = w.heap[k]?)
    (h1 : w'.os = w.os) (h2 : w'.tape = w.tape) (h3 : w'.output = w.output) (ho : ObjOk P θ σ.n w' r o') : Rel P W θ σ' w' ∧ Mv θ σ w θ σ' w' := by
  obtain ⟨hn, hg⟩ := AW.get_put hσ
  have hlt := (h.obj r o hr).1
  have hb := h.blk r hlt
  have key : ∀ s p, σ'.t.get s = some p → (s = r ∧ p = o') ∨ (s ≠ r ∧ σ.t.get s = some p) := fun s p hs => by
    rw [hg] at hs
    split at hs
    · rename_i e; cases hs; exact .inl ⟨e, rfl⟩
    · rename_i e; exact .inr ⟨e, hs⟩
  have ex : ∀ s p, σ'.t.get s = some p → ∃ q, σ.t.get s = some q := fun s p hs => by
    rcases key s p hs with ⟨rfl, _⟩ | ⟨_, hs⟩
    · exact ⟨_, hr⟩
    · exact ⟨_, hs⟩
  refine ⟨⟨⟨h1.trans h.bel.os, h2.trans h.bel.tape, h3.trans h.bel.output, by rw [hsz]; exact h.bel.size, fun k hk => (hold k (by omega)).trans (h.bel.block k hk)⟩, fun s hs => by rw [hsz]; exact h.blk s (by omega), fun s p hs => ?_, fun s u p q hs hu hne => ?_⟩, ?_⟩
  · rw [hn]
    rcases key s p hs with ⟨rfl, rfl⟩ | ⟨hne, hs⟩
    · exact ⟨hlt, ho⟩
    · obtain ⟨a, b⟩ := h.obj s p hs
      exact ⟨a, b.kept (fun _ _ => rfl) (Nat.le_refl _) a (hold _ (h.sep s r p o hs hr hne))⟩
  · obtain ⟨p', hs'⟩ := ex s p hs
    obtain ⟨q', hu'⟩ := ex u q hu
    exact h.sep s u p' q' hs' hu' hne
  · refine ⟨fun _ _ => rfl, by omega, by omega, fun k _ hno => hold k (fun e => hno r o hr e.symm), fun s p hs => ?_⟩
    obtain ⟨p', hs'⟩ := ex s p hs
    exact .inl ⟨s, p', hs', rfl⟩

/-- an object is forgotten -/
theorem Rel.drop (h : Rel P W θ σ w) {r : Nat} (hσ : σ.put r none = some σ') : Rel P W θ σ' w ∧ Mv θ σ w θ σ' w := by
  obtain ⟨hn, hg⟩ := AW.get_put hσ
  have key : ∀ s p, σ'.t.get s = some p → σ.t.get s = some p := fun s p hs => by
    rw [hg] at hs
    split at hs
    · cases hs
    · exact hs
  exact ⟨⟨h.bel, fun s hs => h.blk s (by omega), fun s p hs => by rw [hn]; exact h.obj s p (key s p hs), fun s u p q hs hu => h.sep s u p q (key s p hs) (key u q hu)⟩,
    ⟨fun _ _ => rfl, by omega, Nat.le_refl _, fun _ _ _ => rfl, fun s p hs => .inl ⟨s, p, key s p hs, rfl⟩⟩⟩
end
end Go.Proofs.YtdennekkbdlhdaaDoor.Ev
/-
  Operations that leave memory as it is: what the run tells is what the model tells.
-/
namespace Go.Proofs.YtdennekkbdlhdaaDoor.Ev
open Go.RowKit
set_option linter.unusedVariables false
set_option linter.unusedSimpArgs false

theorem quiet_run {P : Program} {α : Type} {e : Sem α} {a : α} (h : quiet P e = some a) (w : World) : e.run P w = .ok a w := by
  induction e with
  | pure x => simp only [quiet] at h; cases h; rfl
  | program k ih => simp only [quiet] at h; simp only [Sem.run]; exact ih _ h
  | mark m k ih => simp only [quiet] at h; simp only [Sem.run]; exact ih h
  | _ => simp [quiet] at h

section
variable {P : Program} {θ : Nat → Ent} {n : Nat} {t : List AV} {ds : List Deferred}

theorem getD_concs (l : List AV) (i : Nat) : (concs θ l).toArray.getD i undef = conc θ (l.getD i (.tup [])) := by
  rw [concs_map]
  simp only [Array.getD_eq_getD_getElem?, List.getElem?_toArray, List.getElem?_map, List.getD_eq_getElem?_getD]
  cases l[i]? with
  | none => simp [conc, concs, undef]
  | some v => simp

theorem eval_conc {x : Operand} (hx : evOk x = true) : Act.eval ⟨(concs θ t).toArray, ds⟩ x = conc θ (ev t x) := by
  cases x with
  | tmp i => simp only [Act.eval, ev, nthA_eq]; exact getD_concs t i
  | const v =>
    simp only [evOk, Option.isSome_iff_exists] at hx
    obtain ⟨a, ha⟩ := hx
    simp only [Act.eval, ev, ha, Option.getD_some]
    exact (of_ofV ha θ 0).1.symm
  | global g => simp [Act.eval, ev, conc]
  | func f => simp [Act.eval, ev, conc, concs]

theorem ev_V {x : Operand} (hV : Vs θ n t) : V θ n (ev t x) := by
  cases x with
  | tmp i =>
    simp only [ev, nthA_eq, List.getD_eq_getElem?_getD]
    cases h : t[i]? with
    | none => simp [V, Vs]
    | some v => simp only [Option.getD_some]; exact Vs_iff.1 hV v (List.mem_of_getElem? h)
  | const v =>
    simp only [ev]
    cases h : ofV v with
    | none => simp [V, Vs]
    | some a => simp only [Option.getD_some]; exact (of_ofV h θ n).2
  | global g => simp [ev, V]
  | func f => simp [ev, V, Vs]

theorem evs_conc {l : List Operand} (hl : evOks l = true) : l.map (Act.eval ⟨(concs θ t).toArray, ds⟩) = concs θ (evs t l) := by
  unfold evOks at hl
  rw [concs_map θ (evs t l), evs, List.map_map]
  refine List.map_congr_left fun x hx => eval_conc (List.all_eq_true.1 hl x hx)
theorem evs_V {l : List Operand} (hV : Vs θ n t) : Vs θ n (evs t l) := Vs_iff.2 fun v hv => by
  obtain ⟨x, _, rfl⟩ := List.mem_map.1 hv
  exact ev_V hV

theorem plain_ok {o : Oper} {v : AV} (hs : ∀ cs b, o.op ≠ .select cs b) (h : plainOp P o t = some v) :
    V θ n v ∧ ∀ w, (execOp (Act.eval ⟨(concs θ t).toArray, ds⟩) o).run P w = .ok (.value (conc θ v)) w := by
  unfold plainOp at h
  split at h
  · rename_i hall
    split at h
    · rename_i x hq
      obtain ⟨h1, h2⟩ := of_ofV h θ n
      refine ⟨h2, fun w => ?_⟩
      rw [h1, ← quiet_run hq w]
      congr 1
      refine execOp_congr o hs fun x hx => ?_
      have hx' := List.all_eq_true.1 hall x (by simpa using hx)
      simp only [Bool.and_eq_true, Option.isSome_iff_exists] at hx'
      obtain ⟨h3, u, h4⟩ := hx'
      rw [eval_conc h3, h4, of_toV h4 θ]
      rfl
    · cases h
  · cases h

theorem orPlain_ok {o : Oper} {v : AV} {r : Option AV} (hs : ∀ cs b, o.op ≠ .select cs b) (h : orPlain P o t r = some v)
    (hr : r = some v → V θ n v ∧ ∀ w, (execOp (Act.eval ⟨(concs θ t).toArray, ds⟩) o).run P w = .ok (.value (conc θ v)) w) :
    V θ n v ∧ ∀ w, (execOp (Act.eval ⟨(concs θ t).toArray, ds⟩) o).run P w = .ok (.value (conc θ v)) w := by
  unfold orPlain at h
  split at h
  · cases h; exact hr rfl
  · exact plain_ok hs h

/-! ### Parts of values -/
theorem sizeP_run {ty : TypeId} {k : Nat} (h : sizeP P ty = some k) (w : World) : (sizeOf ty).run P w = .ok k w := by
  unfold sizeP at h
  split at h
  · rename_i i hi; cases h; simp [sizeOf, typeInfo, hi]
  · cases h
theorem isAggP_run {ty : TypeId} {b : Bool} (h : isAggP P ty = some b) (w : World) : (isAgg ty).run P w = .ok b w := by
  unfold isAggP at h
  split at h
  · rename_i hu; cases h; simp [isAgg, run_underlying hu]
  · rename_i hu; cases h; simp [isAgg, run_underlying hu]
  · rename_i d h1 h2 hu
    cases h
    simp only [isAgg, Sem.run_bind, run_underlying hu, Result.andThen_ok]
    cases d <;> first | rfl | exact absurd rfl (h1 _) | exact absurd rfl (h2 _ _)
  · cases h

theorem getRange_some {l : List AV} {o k : Nat} {m : List AV} (h : getRange l o k = some m) : m = (l.drop o).take k ∧ m.length = k := by
  unfold getRange at h
  simp only at h
  split at h
  · rename_i hl; cases h; exact ⟨rfl, hl⟩
  · cases h
theorem getRange_le {l : List AV} {o k : Nat} {m : List AV} (h : getRange l o k = some m) : k = 0 ∨ o + k ≤ l.length := by
  obtain ⟨h1, h2⟩ := getRange_some h
  rw [h1] at h2
  simp at h2
  omega
theorem getRange_get {l : List AV} {o k : Nat} {m : List AV} (h : getRange l o k = some m) (j : Nat) (hj : j < k) : m[j]? = l[o + j]? := by
  obtain ⟨h1, h2⟩ := getRange_some h
  rw [h1, List.getElem?_take, if_pos hj, List.getElem?_drop]
theorem getRange_mem {l : List AV} {o k : Nat} {m : List AV} (h : getRange l o k = some m) {v : AV} (hv : v ∈ m) : v ∈ l := by
  obtain ⟨h1, _⟩ := getRange_some h
  rw [h1] at hv
  exact List.mem_of_mem_drop (List.mem_of_mem_take hv)

/-- a part of an aggregate -/
theorem part_ok {ty : TypeId} {l : List AV} {o : Nat} {v : AV} (h : loadP P ty l o = some v) (hV : Vs θ n l) :
    V θ n v ∧ ∀ w, (part ty (concs θ l).toArray o).run P w = .ok (conc θ v) w := by
  unfold loadP at h
  split at h
  · rename_i k ha hs
    split at h
    · rename_i m hm
      cases h
      obtain ⟨h1, h2⟩ := getRange_some hm
      refine ⟨by simp only [V]; exact Vs_iff.2 fun v hv => Vs_iff.1 hV v (getRange_mem hm hv), fun w => ?_⟩
      simp only [part, Sem.run_bind, isAggP_run ha, Result.andThen_ok, if_true, sizeP_run hs, Sem.run_pure, conc]
      congr 2
      rw [h1, concs_map, concs_map]
      apply Array.ext'
      simp [List.take_drop, Nat.add_comm]
    · cases h
  · rename_i hs ha
    refine ⟨Vs_iff.1 hV v (List.mem_of_getElem? h), fun w => ?_⟩
    simp only [part, Sem.run_bind, isAggP_run ha, Result.andThen_ok]
    have : (concs θ l).toArray[o]? = some (conc θ v) := by rw [concs_map]; simp [h]
    simp [this]
  · cases h

/-! ### Literals -/
theorem zipIdx_fold {α : Type} (off : Nat) (ys : List α) : ∀ (k : Nat) (A : Array α), off + k + ys.length ≤ A.size →
    (ys.zipIdx k).foldl (fun cs (x : α × Nat) => cs.setIfInBounds (off + x.2) x.1) A = (A.toList.take (off + k) ++ (ys ++ A.toList.drop (off + k + ys.length))).toArray := by
  induction ys with
  | nil => intro k A _; simp
  | cons y ys ih =>
    intro k A hA
    simp only [List.length_cons] at hA
    rw [List.zipIdx_cons, List.foldl_cons, ih (k + 1) _ (by simp; omega)]
    apply Array.ext'
    simp only [Array.toList_setIfInBounds, List.length_cons]
    have e1 : off + (k + 1) = off + k + 1 := by omega
    rw [e1]
    have hlt : off + k < A.toList.length := by simp; omega
    have h1 : (A.toList.set (off + k) y).take (off + k + 1) = A.toList.take (off + k) ++ [y] := by
      rw [List.take_succ_eq_append_getElem (by simpa using hlt), List.take_set_of_le (Nat.le_refl _)]
      simp
    have h2 : (A.toList.set (off + k) y).drop (off + k + 1 + ys.length) = A.toList.drop (off + k + (ys.length + 1)) := by
      rw [List.drop_set_of_lt (by omega)]
      congr 1
      omega
    rw [h1, h2]
    simp

theorem fill_ok {place : Nat → Option (Nat × Nat)} : ∀ {parts : List (Nat × AV)} {cs m : List AV}, fillP place cs parts = some m →
    Instr.fill place (concs θ cs).toArray (parts.map fun x => (x.1, conc θ x.2)) = some (concs θ m).toArray ∧ (Vs θ n cs → (∀ x ∈ parts, V θ n x.2) → Vs θ n m) := by
  intro parts
  induction parts with
  | nil => intro cs m h; simp only [fillP] at h; cases h; exact ⟨rfl, fun h _ => h⟩
  | cons x parts ih =>
    intro cs m h
    obtain ⟨i, v⟩ := x
    simp only [fillP] at h
    split at h
    · cases h
    · rename_i off size hp
      split at h
      · rename_i hl
        split at h
        · rename_i cs' hset
          obtain ⟨h1, h2⟩ := ih h
          unfold setRange at hset
          split at hset
          · rename_i hle
            cases hset
            have hlen : (conc θ v).cells.size = size := by rw [← Array.length_toList, cells_conc, concs_map]; simpa using hl
            have hclen : (concs θ cs).length = cs.length := by rw [concs_map]; simp
            refine ⟨?_, fun hc hp' => h2 ?_ fun x hx => hp' x (List.mem_cons_of_mem _ hx)⟩
            · simp only [List.map_cons, Instr.fill, hp]
              rw [if_neg (by simp [hlen, hclen]; omega)]
              rw [← h1]
              congr 1
              have e : (conc θ v).cells.zipIdx = ((concs θ (cellsOf v)).zipIdx 0).toArray := by
                apply Array.ext'; rw [Array.toList_zipIdx, cells_conc]
              rw [e, List.foldl_toArray]
              have hz := zipIdx_fold off (concs θ (cellsOf v)) 0 (concs θ cs).toArray (by simp [hclen, concs_map]; omega)
              refine Eq.trans hz ?_
              congr 1
              simp [concs_map]
            · refine Vs_iff.2 fun u hu => ?_
              simp only [List.mem_append] at hu
              rcases hu with hu | hu | hu
              · exact Vs_iff.1 hc u (List.mem_of_mem_take hu)
              · have := hp' (i, v) (List.mem_cons_self ..)
                cases v <;> simp only [cellsOf, List.mem_singleton] at hu <;> first | (subst hu; exact this) | (simp only [V] at this; exact Vs_iff.1 this u hu)
              · exact Vs_iff.1 hc u (List.mem_of_mem_drop hu)
          · cases hset
        · cases h
      · cases h

theorem zeroP_info {ty : TypeId} {z : AV} (h : zeroP P ty = some z) : ∃ i x, P.info? ty = some i ∧ i.zero = some x ∧ ofV x = some z := by
  unfold zeroP at h
  split at h
  · rename_i i hi
    split at h
    · rename_i x hx; exact ⟨i, x, hi, hx, h⟩
    · cases h
  · cases h
theorem cells_ofV {x : Value} {z : AV} (h : ofV x = some z) : x.cells = (concs θ (cellsOf z)).toArray := by
  apply Array.ext'
  rw [← (of_ofV h θ 0).1, cells_conc]
theorem cellsOf_V {v : AV} (h : V θ n v) : Vs θ n (cellsOf v) := by
  cases v <;> simp_all [cellsOf, V, Vs]

theorem build_ok {ty : TypeId} {parts : List (Nat × AV)} {v : AV} (h : buildOp P ty parts = some v) (hp : ∀ x ∈ parts, V θ n x.2) :
    V θ n v ∧ ∀ w, (Instr.build ty (parts.map fun x => (x.1, conc θ x.2)).toArray).run P w = .ok (conc θ v) w := by
  unfold buildOp at h
  split at h
  · rename_i z hz
    obtain ⟨i, x, hi, hx, hofz⟩ := zeroP_info hz
    have hzV := cellsOf_V (of_ofV hofz θ n).2
    split at h
    · rename_i fs hu
      split at h
      · rename_i pl hpl
        split at h
        · rename_i cs hf
          cases h
          obtain ⟨h1, h2⟩ := fill_ok (θ := θ) (n := n) hf
          refine ⟨by simp only [V]; exact h2 hzV hp, fun w => ?_⟩
          rw [run_build w ty _ (concs θ cs).toArray]
          · simp [conc]
          · unfold Program.built
            unfold placesP at hpl
            simp only [hi, hu, hx, hpl]
            rw [cells_ofV (θ := θ) hofz, ← h1]
            congr 1
            funext j; simp
        · cases h
      · cases h
    · rename_i k e hu
      split at h
      · rename_i m hs
        split at h
        · rename_i cs hf
          cases h
          obtain ⟨h1, h2⟩ := fill_ok (θ := θ) (n := n) hf
          refine ⟨by simp only [V]; exact h2 hzV hp, fun w => ?_⟩
          unfold sizeP at hs
          split at hs
          · rename_i ie hie
            cases hs
            rw [run_build w ty _ (concs θ cs).toArray]
            · simp [conc]
            · unfold Program.built
              simp only [hi, hu, hx, hie]
              rw [cells_ofV (θ := θ) hofz, ← h1]
          · cases hs
        · cases h
      · cases h
    · cases h
  · cases h
end
end Go.Proofs.YtdennekkbdlhdaaDoor.Ev
/-
  Operations that leave memory as it is, kind by kind.
-/
namespace Go.Proofs.YtdennekkbdlhdaaDoor.Ev
open Go.RowKit
set_option linter.unusedVariables false
set_option linter.unusedSimpArgs false

section
variable {P : Program} {θ : Nat → Ent} {n : Nat} {t : List AV} {ds : List Deferred}

theorem ibin_ok {op : BinOp} {k : IntKind} {a b : Int} {v : AV} {ty : TypeId} {x y : Operand} (h : ibin op k a b = some v) :
    V θ n v ∧ ∀ w, (do eqGuard op ty x y (.int k a) (.int k b); binOp op ty (.int k a) (.int k b)).run P w = .ok (conc θ v) w := by
  cases op <;> simp only [ibin] at h <;> first | (cases h; done) | (cases h; exact ⟨by simp [V], fun w => by simp [eqGuard_at_int, binOp, Op.intArith, Op.intCmp, conc]⟩)

theorem nil_ne {ty : TypeId} {a b : AV} (h : nilNe (P.underlying ty) a b = true) (w : World) : (Op.equal ty (conc θ a) (conc θ b)).run P w = .ok false w := by
  obtain ⟨d, hd⟩ : ∃ d, Op.maxDepth = d + 1 := ⟨9999, rfl⟩
  unfold Op.equal
  rw [hd]
  generalize hu : P.underlying ty = u at h
  unfold nilNe at h
  split at h <;> first | (cases h; done) | simp [Op.equalIn, run_underlying hu, conc]

theorem bin_nil {op : BinOp} {ty : TypeId} {a b v : AV} {x y : Operand} (h : nilNe (P.underlying ty) a b = true) (hop : (op = .eql ∧ v = .b false) ∨ (op = .neq ∧ v = .b true)) :
    V θ n v ∧ ∀ w, (do eqGuard op ty x y (conc θ a) (conc θ b); binOp op ty (conc θ a) (conc θ b)).run P w = .ok (conc θ v) w := by
  have hne := fun w => nil_ne (θ := θ) h w
  generalize hu : P.underlying ty = u at h
  unfold nilNe at h
  split at h <;> first | (cases h; done) | skip
  all_goals
    rcases hop with ⟨rfl, rfl⟩ | ⟨rfl, rfl⟩ <;> refine ⟨by simp [V], fun w => ?_⟩ <;> simp only [conc] at hne ⊢ <;>
      simp [eqGuard_at_pointer, eqGuard_at_slice, eqGuard_at_func, eqGuard_at_nilFunc, eqGuard_at_iface, eqGuard_at_map, eqGuard_nil_iface, binOp, hne]

theorem bin_ptr {op : BinOp} {ty : TypeId} {a b v : AV} {x y : Operand} (h : ptrEq P (P.underlying ty) a b = true) (hop : (op = .eql ∧ v = .b true) ∨ (op = .neq ∧ v = .b false)) :
    V θ n v ∧ ∀ w, (do eqGuard op ty x y (conc θ a) (conc θ b); binOp op ty (conc θ a) (conc θ b)).run P w = .ok (conc θ v) w := by
  obtain ⟨d, hd⟩ : ∃ d, Op.maxDepth = d + 1 := ⟨9999, rfl⟩
  generalize hu : P.underlying ty = u at h
  unfold ptrEq at h
  split at h
  · rename_i e r o s u
    simp only [Bool.and_eq_true, decide_eq_true_eq, Option.isSome_iff_exists] at h
    obtain ⟨⟨k, hk⟩, rfl, rfl⟩ := h
    have hq : ∀ w, (Op.equal ty (.pointer (some ⟨(θ r).blk, o, none⟩)) (.pointer (some ⟨(θ r).blk, o, none⟩))).run P w = .ok true w := fun w => by
      unfold Op.equal
      rw [hd]
      have hs := sizeP_run hk w
      by_cases h0 : k = 0
      · subst h0
        simp [Op.equalIn, run_underlying hu, hs]
      · simp [Op.equalIn, run_underlying hu, hs, h0, sameAddr]
    rcases hop with ⟨rfl, rfl⟩ | ⟨rfl, rfl⟩ <;> refine ⟨by simp [V], fun w => ?_⟩ <;> simp [conc, eqGuard_at_pointer, binOp, hq]
  · cases h

theorem bound_ok {x : Option Operand} {d k : Nat} (hx : ∀ y, x = some y → evOk y = true) (h : bound t x d = some k) :
    (x = none ∧ k = d) ∨ ∃ y q i, x = some y ∧ Act.eval ⟨(concs θ t).toArray, ds⟩ y = .int q i ∧ 0 ≤ i ∧ k = i.toNat := by
  unfold bound at h
  split at h
  · cases h; exact .inl ⟨rfl, rfl⟩
  · rename_i y
    split at h
    · rename_i q i hi
      split at h
      · rename_i h0
        cases h
        exact .inr ⟨y, q, i, rfl, by rw [eval_conc (hx y rfl), hi]; simp [conc], h0, rfl⟩
      · cases h
    · cases h

theorem add_plain (b o k : Nat) : (⟨b, o, none⟩ : Addr).add k = ⟨b, o + k, none⟩ := Addr.add_lit b o k

theorem idx_ok {ty : TypeId} {x i v : AV} (h : idxAddr P ty x i = some v) (hx : V θ n x) :
    V θ n v ∧ ∀ w, (Instr.indexAt ty (conc θ x) (conc θ i)).run P w = .ok (conc θ v) w := by
  unfold idxAddr at h
  split at h
  all_goals try (cases h; done)
  all_goals
    rename_i hu
    split at h
    · rename_i hb
      split at h
      · rename_i k hk
        cases h
        refine ⟨by simp_all [V], fun w => ?_⟩
        simp only [conc]
        simp [Instr.indexAt, asIntOf, Instr.sureAddr, run_underlying hu, hb.1, hb.2, sizeP_run hk, add_plain]
      · cases h
    · cases h

theorem fld_ok {ty : TypeId} {x v : AV} {f : Nat} (h : fldAddr P ty x f = some v) (hx : V θ n x) :
    V θ n v ∧ ∀ w, (Instr.fieldAt ty (conc θ x) f).run P w = .ok (conc θ v) w := by
  unfold fldAddr at h
  split at h
  all_goals try (cases h; done)
  all_goals
    rename_i hu
    split at h
    · rename_i fd hf
      split at h
      · rename_i k hk
        cases h
        refine ⟨by simp_all [V], fun w => ?_⟩
        simp only [conc]
        simp [Instr.fieldAt, Instr.sureAddr, run_underlying hu, hf, fieldPlace, sizeP_run hk, add_plain]
      · cases h
    · cases h

theorem bounds_ok {isS : Bool} {lo hi mx : Option Operand} {len cap l h m : Nat} (hlo : ∀ y, lo = some y → evOk y = true) (hhi : ∀ y, hi = some y → evOk y = true)
    (bl : bound t lo 0 = some l) (bh : bound t hi len = some h) (h1 : l ≤ h) (h2 : h ≤ m) (h3 : m ≤ cap)
    (hm : (mx = none ∧ m = cap) ∨ ∃ y q, mx = some y ∧ Act.eval ⟨(concs θ t).toArray, ds⟩ y = .int q (m : Int) ∧ hi.isSome = true) (w : World) :
    (Instr.sliceBounds isS len cap (lo.map (Act.eval ⟨(concs θ t).toArray, ds⟩)) (hi.map (Act.eval ⟨(concs θ t).toArray, ds⟩)) (mx.map (Act.eval ⟨(concs θ t).toArray, ds⟩))).run P w = .ok (l, h, m) w := by
  have sb : ∀ (q : IntKind) (i : Int) (y : Nat) (c : BoundsCode), 0 ≤ i → i ≤ y → (Instr.sliceBound (.int q i) y c).run P w = .ok i.toNat w := fun q i y c a b => run_sliceBound (P := P) w q i y c a b
  rcases bound_ok (ds := ds) (θ := θ) hlo bl with ⟨rfl, el⟩ | ⟨y1, q1, i1, rfl, e1, p1, rfl⟩ <;> rcases bound_ok (ds := ds) (θ := θ) hhi bh with ⟨rfl, eh⟩ | ⟨y2, q2, i2, rfl, e2, p2, rfl⟩ <;>
    rcases hm with ⟨rfl, em⟩ | ⟨y3, q3, rfl, e3, hs⟩ <;> (try (simp at hs; done)) <;> (try subst el) <;> (try subst eh) <;> (try subst em)
  · simp [Instr.sliceBounds]
  · have := sb q2 i2 m (if isS = true then .sliceAcap else .sliceAlen) p2 (by omega)
    simp [Instr.sliceBounds, e2, this]
  · have a1 := sb q3 (m : Int) cap (if isS = true then .slice3Acap else .slice3Alen) (by omega) (by omega)
    have a2 := sb q2 i2 m .slice3B p2 (by omega)
    simp [Instr.sliceBounds, e2, e3, a1, a2]
  · have := sb q1 i1 h .sliceB p1 (by omega)
    simp [Instr.sliceBounds, e1, this]
  · have a1 := sb q2 i2 m (if isS = true then .sliceAcap else .sliceAlen) p2 (by omega)
    have a2 := sb q1 i1 i2.toNat .sliceB p1 (by omega)
    simp [Instr.sliceBounds, e1, e2, a1, a2]
  · have a1 := sb q3 (m : Int) cap (if isS = true then .slice3Acap else .slice3Alen) (by omega) (by omega)
    have a2 := sb q2 i2 m .slice3B p2 (by omega)
    have a3 := sb q1 i1 i2.toNat .slice3C p1 (by omega)
    simp [Instr.sliceBounds, e1, e2, e3, a1, a2, a3]

theorem slice_ok {ty : TypeId} {x v : AV} {lo hi mx : Option Operand} (hlo : ∀ y, lo = some y → evOk y = true) (hhi : ∀ y, hi = some y → evOk y = true) (hmx : ∀ y, mx = some y → evOk y = true)
    (h : sliceOp P ty x t lo hi mx = some v) (hx : V θ n x) :
    V θ n v ∧ ∀ w, (Instr.sliceAt ty (conc θ x) (lo.map (Act.eval ⟨(concs θ t).toArray, ds⟩)) (hi.map (Act.eval ⟨(concs θ t).toArray, ds⟩)) (mx.map (Act.eval ⟨(concs θ t).toArray, ds⟩))).run P w = .ok (conc θ v) w := by
  unfold sliceOp at h
  split at h
  · rename_i r o len c e hu
    simp only [V] at hx
    split at h
    · rename_i size l hh hs bl bh
      split at h
      · rename_i hc
        have hlim : hh ≤ capC (θ r) c := by
          cases c with
          | k n => exact hc.1
          | o d => exact Nat.le_trans (show hh ≤ len from hc.1) hx.2
        obtain ⟨hxr, hxl⟩ := hx
        obtain ⟨C, hC⟩ : ∃ C, capC (θ r) c = C := ⟨_, rfl⟩
        rw [hC] at hlim hxl
        have run : ∀ m, m ≤ C → hh ≤ m → ((mx = none ∧ m = C) ∨ ∃ y q, mx = some y ∧ Act.eval ⟨(concs θ t).toArray, ds⟩ y = .int q (m : Int) ∧ hi.isSome = true) → ∀ w,
            (Instr.sliceAt ty (conc θ (.sl r o len c)) (lo.map (Act.eval ⟨(concs θ t).toArray, ds⟩)) (hi.map (Act.eval ⟨(concs θ t).toArray, ds⟩)) (mx.map (Act.eval ⟨(concs θ t).toArray, ds⟩))).run P w =
              .ok (.slice (some ⟨(θ r).blk, if m = l then o else o + l * size, none⟩) (hh - l) (m - l)) w := fun m h1 h2 h3 w => by
          have := bounds_ok (P := P) (θ := θ) (ds := ds) (isS := true) (cap := C) hlo hhi bl bh hc.2 h2 h1 h3 w
          simp only [conc, hC]
          simp [Instr.sliceAt, Instr.slice, run_underlying hu, this, sizeP_run hs, add_plain]
          split <;> rfl
        split at h
        · have run' := run C (Nat.le_refl _) hlim (.inl ⟨rfl, rfl⟩)
          split at h
          · rename_i h0
            subst h0
            cases h
            refine ⟨by simp only [V]; exact ⟨hxr, by rw [hC]; exact hlim⟩, fun w => ?_⟩
            rw [run']
            simp [conc, hC]
          · cases c with
            | k k =>
              simp only at h
              cases h
              have hk : k = C := hC
              subst hk
              refine ⟨by simp only [V, capC]; exact ⟨hxr, by omega⟩, fun w => ?_⟩
              rw [run']
              simp only [conc, capC]
            | o d =>
              have hk : (θ r).cap - d = C := hC
              have hlm : hh ≤ len := hc.1
              simp only at h
              split at h
              · rename_i hlt
                cases h
                refine ⟨by simp only [V, capC]; exact ⟨hxr, by omega⟩, fun w => ?_⟩
                rw [run', if_neg (by omega)]
                simp only [conc, capC]
                congr 2
                omega
              · rename_i hge
                cases h
                have hl : l = len := by omega
                have hhl : hh = len := by omega
                refine ⟨by simp only [V]; exact hxr, fun w => ?_⟩
                rw [run']
                simp only [conc]
                have e1 : C - l = (θ r).cap - (d + l) := by omega
                rw [e1, hhl, hl, Nat.sub_self]
                by_cases hz : C = len
                · rw [if_pos hz, if_pos (by omega)]
                · rw [if_neg hz, if_neg (by omega)]
        · rename_i m
          split at h
          · rename_i q i2 y k hm
            split at h
            · rename_i hb
              cases h
              have hk : k = C := hC
              subst hk
              have run' := run i2.toNat (by omega) (by omega) (.inr ⟨m, q, rfl, by rw [eval_conc (hmx m rfl), hm]; simp [conc]; omega, rfl⟩)
              refine ⟨by simp only [V, capC]; exact ⟨hxr, by omega⟩, fun w => ?_⟩
              rw [run']
              simp only [conc, capC]
            · cases h
          · rename_i q i2 y d hm
            split at h
            · rename_i hb
              cases h
              have run' := run i2.toNat (by omega) (by omega) (.inr ⟨m, q, rfl, by rw [eval_conc (hmx m rfl), hm]; simp [conc]; omega, rfl⟩)
              refine ⟨by simp only [V, capC]; exact ⟨hxr, by omega⟩, fun w => ?_⟩
              rw [run']
              simp only [conc, capC]
            · cases h
          · cases h
      · cases h
    · cases h
  · rename_i r o a hu
    simp only [V] at hx
    split at h
    · rename_i k e hua
      split at h
      · rename_i size l hh hs bl bh
        split at h
        · rename_i hc
          cases h
          obtain ⟨h1, h2, h3⟩ := hc
          obtain rfl : mx = none := by cases mx <;> simp_all
          refine ⟨by simp only [V, capC]; exact ⟨hx, by omega⟩, fun w => ?_⟩
          have := bounds_ok (P := P) (θ := θ) (ds := ds) (isS := false) (cap := k) (mx := none) hlo hhi bl bh h2 h1 (Nat.le_refl k) (.inl ⟨rfl, rfl⟩) w
          simp only [Option.map_none] at this ⊢
          simp only [conc, capC]
          simp [Instr.sliceAt, Instr.slice, asAddr, run_underlying hu, run_underlying hua, this, sizeP_run hs, add_plain]
          split <;> rfl
        · cases h
      · cases h
    · cases h
  · rename_i r o k e hu
    simp only [V] at hx
    split at h
    · rename_i size l hh hs bl bh
      split at h
      · rename_i hc
        cases h
        obtain ⟨h1, h2, h3⟩ := hc
        obtain rfl : mx = none := by cases mx <;> simp_all
        refine ⟨by simp only [V, capC]; exact ⟨hx, by omega⟩, fun w => ?_⟩
        have := bounds_ok (P := P) (θ := θ) (ds := ds) (isS := false) (cap := k) (mx := none) hlo hhi bl bh h2 h1 (Nat.le_refl k) (.inl ⟨rfl, rfl⟩) w
        simp only [Option.map_none] at this ⊢
        simp only [conc, capC]
        simp [Instr.sliceAt, Instr.sureAddr, run_underlying hu, this, sizeP_run hs, add_plain]
        split <;> rfl
      · cases h
    · cases h
  · cases h
end
end Go.Proofs.YtdennekkbdlhdaaDoor.Ev
/-
  A pure operation, whatever its kind.
-/
namespace Go.Proofs.YtdennekkbdlhdaaDoor.Ev
open Go.RowKit
set_option linter.unusedVariables false
set_option linter.unusedSimpArgs false

section
variable {P : Program} {θ : Nat → Ent} {n : Nat} {t : List AV} {ds : List Deferred}

theorem map_eval {parts : Array (Nat × Operand)} (h : ∀ x ∈ parts, evOk x.2 = true) :
    (parts.map fun (x : Nat × Operand) => (x.1, Act.eval ⟨(concs θ t).toArray, ds⟩ x.2)) = ((parts.toList.map fun x => (x.1, ev t x.2)).map fun x => (x.1, conc θ x.2)).toArray := by
  apply Array.ext'
  simp only [Array.toList_map, List.map_map]
  refine List.map_congr_left fun x hx => ?_
  simp [eval_conc (h x (by simpa using hx))]

set_option maxHeartbeats 1000000 in
theorem pure_ok {o : Oper} {v : AV} (hV : Vs θ n t) (h : pureOp P o t = some v) :
    V θ n v ∧ ∀ w, (execOp (Act.eval ⟨(concs θ t).toArray, ds⟩) o).run P w = .ok (.value (conc θ v)) w := by
  unfold pureOp at h
  split at h
  · cases h
  rename_i h0
  have hall : ∀ x ∈ o.op.operands, evOk x = true := by
    have := (by simpa using h0 : evOks o.op.operands.toList = true)
    intro x hx
    exact List.all_eq_true.1 this x (by simpa using hx)
  clear h0
  obtain ⟨dst, op, ty, pos, after, guard⟩ := o
  simp only at h hall
  have e1 : ∀ x, evOk x = true → Act.eval ⟨(concs θ t).toArray, ds⟩ x = conc θ (ev t x) := fun x hx => eval_conc hx
  have v1 : ∀ x, V θ n (ev t x) := fun x => ev_V hV
  split at h
  · -- move
    rename_i x
    cases h
    exact ⟨v1 x, fun w => by simp [execOp, e1 x (hall x (by simp [Op.operands]))]⟩
  · rename_i x
    cases h
    exact ⟨v1 x, fun w => by simp [execOp, e1 x (hall x (by simp [Op.operands]))]⟩
  · -- pick
    rename_i c a b
    have hc := e1 c (hall c (by simp [Op.operands]))
    have ha := e1 a (hall a (by simp [Op.operands]))
    have hb := e1 b (hall b (by simp [Op.operands]))
    split at h
    · rename_i he
      cases h
      rw [he] at hc
      exact ⟨v1 a, fun w => by simp [execOp, hc, ha, conc, asBool]⟩
    · rename_i he
      cases h
      rw [he] at hc
      exact ⟨v1 b, fun w => by simp [execOp, hc, hb, conc, asBool]⟩
    · cases h
  · -- nilCheck
    rename_i x
    have hx := e1 x (hall x (by simp [Op.operands]))
    have hvx := v1 x
    split at h <;> first | (cases h; done) | skip
    all_goals
      rename_i he
      cases h
      rw [he] at hx hvx
      exact ⟨hvx, fun w => by simp [execOp, hx, conc]⟩
  · -- binOp
    rename_i op ty' x y yt
    refine orPlain_ok (by simp) h fun h' => ?_
    clear h
    have h := h'
    clear h'
    have hx := e1 x (hall x (by simp [Op.operands]))
    have hy := e1 y (hall y (by simp [Op.operands]))
    split at h
    · rename_i k a k' b hea heb
      split at h
      · rename_i hk
        subst hk
        rw [hea] at hx
        rw [heb] at hy
        obtain ⟨h1, h2⟩ := ibin_ok (P := P) (θ := θ) (n := n) (ty := ty') (x := x) (y := y) h
        refine ⟨h1, fun w => ?_⟩
        have h2 := h2 w
        simp only [execOp, hx, hy, conc]
        rw [Sem.run_bind, h2]
        simp [conc]
      · cases h
    · split at h
      · have hn : nilNe (P.underlying ty') (ev t x) (ev t y) = true := by assumption
        cases h
        obtain ⟨h1, h2⟩ := bin_nil (P := P) (θ := θ) (n := n) (x := x) (y := y) hn (.inl ⟨rfl, rfl⟩)
        refine ⟨h1, fun w => ?_⟩
        have h2 := h2 w
        simp only [execOp, hx, hy]
        rw [Sem.run_bind, h2]
        simp [conc]
      · have hn : nilNe (P.underlying ty') (ev t x) (ev t y) = true := by assumption
        cases h
        obtain ⟨h1, h2⟩ := bin_nil (P := P) (θ := θ) (n := n) (x := x) (y := y) hn (.inr ⟨rfl, rfl⟩)
        refine ⟨h1, fun w => ?_⟩
        have h2 := h2 w
        simp only [execOp, hx, hy]
        rw [Sem.run_bind, h2]
        simp [conc]
      · have hn : ptrEq P (P.underlying ty') (ev t x) (ev t y) = true := by assumption
        cases h
        obtain ⟨h1, h2⟩ := bin_ptr (P := P) (θ := θ) (n := n) (x := x) (y := y) hn (.inl ⟨rfl, rfl⟩)
        refine ⟨h1, fun w => ?_⟩
        have h2 := h2 w
        simp only [execOp, hx, hy]
        rw [Sem.run_bind, h2]
        simp [conc]
      · have hn : ptrEq P (P.underlying ty') (ev t x) (ev t y) = true := by assumption
        cases h
        obtain ⟨h1, h2⟩ := bin_ptr (P := P) (θ := θ) (n := n) (x := x) (y := y) hn (.inr ⟨rfl, rfl⟩)
        refine ⟨h1, fun w => ?_⟩
        have h2 := h2 w
        simp only [execOp, hx, hy]
        rw [Sem.run_bind, h2]
        simp [conc]
      · cases h
  · -- build
    rename_i ty' parts
    have hp : ∀ x ∈ parts, evOk x.2 = true := fun x hx => hall x.2 (by simp only [Op.operands]; simp; exact ⟨x.1, hx⟩)
    obtain ⟨h1, h2⟩ := build_ok (θ := θ) (n := n) h (fun x hx => by
      obtain ⟨y, _, rfl⟩ := List.mem_map.1 hx
      exact v1 _)
    refine ⟨h1, fun w => ?_⟩
    simp only [execOp]
    rw [map_eval hp, Sem.run_bind, h2]
    rfl
  · -- makeFunc
    rename_i g first captured
    cases h
    have hf : evOks first.toList = true := List.all_eq_true.2 fun x hx => hall x (by simp only [Op.operands]; simp at hx ⊢; exact .inl hx)
    have hc : evOks captured.toList = true := List.all_eq_true.2 fun x hx => hall x (by simp only [Op.operands]; simp at hx ⊢; exact .inr hx)
    refine ⟨by simp only [V]; exact ⟨evs_V hV, evs_V hV⟩, fun w => ?_⟩
    have a1 : first.map (Act.eval ⟨(concs θ t).toArray, ds⟩) = (concs θ (evs t first.toList)).toArray := by
      apply Array.ext'; rw [Array.toList_map]; exact evs_conc hf
    have a2 : captured.map (Act.eval ⟨(concs θ t).toArray, ds⟩) = (concs θ (evs t captured.toList)).toArray := by
      apply Array.ext'; rw [Array.toList_map]; exact evs_conc hc
    simp only [execOp]
    simp [Instr.makeFunc, a1, a2, conc]
  · -- makeInterface
    rename_i ty' x
    have hx := e1 x (hall x (by simp [Op.operands]))
    split at h
    · cases h
    · rename_i d hne hu
      cases h
      refine ⟨by simp only [V]; exact v1 x, fun w => ?_⟩
      simp only [execOp, hx]
      have hu' : P.underlying ty' = some d := by assumption
      have : (Instr.makeInterface ty' (conc θ (ev t x))).run P w = .ok (.iface ty' (conc θ (ev t x))) w := by
        simp only [Instr.makeInterface, Sem.run_bind, run_underlying hu', Result.andThen_ok]
        cases d <;> first | rfl | (exfalso; simp_all)
      simp [this, conc]
    · cases h
  · -- fieldAddr
    rename_i ty' x f
    have hx := e1 x (hall x (by simp [Op.operands]))
    obtain ⟨h1, h2⟩ := fld_ok (θ := θ) h (v1 x)
    exact ⟨h1, fun w => by simp [execOp, hx, h2]⟩
  · -- field
    rename_i ty' x f
    have hx := e1 x (hall x (by simp [Op.operands]))
    have hvx := v1 x
    split at h
    · rename_i fs l hu he
      split at h
      · rename_i fd hf
        rw [he] at hx hvx
        simp only [V] at hvx
        obtain ⟨h1, h2⟩ := part_ok (θ := θ) h hvx
        refine ⟨h1, fun w => ?_⟩
        simp only [execOp, hx, conc]
        simp [Instr.field, run_underlying hu, hf, asAgg, h2]
      · cases h
    · cases h
  · -- indexAddr
    rename_i ty' x i
    have hx := e1 x (hall x (by simp [Op.operands]))
    have hi := e1 i (hall i (by simp [Op.operands]))
    obtain ⟨h1, h2⟩ := idx_ok (θ := θ) h (v1 x)
    exact ⟨h1, fun w => by simp [execOp, hx, hi, h2]⟩
  · -- index
    rename_i ty' x i
    refine orPlain_ok (by simp) h fun h => ?_
    have hx := e1 x (hall x (by simp [Op.operands]))
    have hi := e1 i (hall i (by simp [Op.operands]))
    have hvx := v1 x
    split at h
    · rename_i len e l q k hu hel hei
      split at h
      · rename_i hb
        split at h
        · rename_i s hs
          rw [hel] at hx hvx
          rw [hei] at hi
          simp only [V] at hvx
          obtain ⟨h1, h2⟩ := part_ok (θ := θ) h hvx
          refine ⟨h1, fun w => ?_⟩
          simp only [execOp, hx, hi, conc]
          simp [Instr.index, asIntOf, run_underlying hu, hb.1, hb.2, sizeP_run hs, h2]
        · cases h
      · cases h
    · cases h
  · -- extract
    rename_i x i
    have hx := e1 x (hall x (by simp [Op.operands]))
    have hvx := v1 x
    split at h
    · rename_i l he
      rw [he] at hx hvx
      simp only [V] at hvx
      refine ⟨Vs_iff.1 hvx v (List.mem_of_getElem? h), fun w => ?_⟩
      simp only [execOp, hx, conc]
      have : (concs θ l).toArray[i]? = some (conc θ v) := by rw [concs_map]; simp [h]
      simp [Instr.extract, this]
    · cases h
  · -- slice
    rename_i ty' x lo hi mx
    refine orPlain_ok (by simp) h fun h => ?_
    have hx := e1 x (hall x (by simp [Op.operands]))
    obtain ⟨h1, h2⟩ := slice_ok (ds := ds) (θ := θ) (fun y hy => hall y (by simp [Op.operands, hy])) (fun y hy => hall y (by simp [Op.operands, hy])) (fun y hy => hall y (by simp [Op.operands, hy])) h (v1 x)
    exact ⟨h1, fun w => by simp [execOp, hx, h2]⟩
  · -- len
    rename_i x ty'
    refine orPlain_ok (by simp) h fun h => ?_
    have hx := e1 x (hall x (by simp [Op.operands, Call.operands]))
    split at h
    · rename_i hel hu
      cases h
      rw [hel] at hx
      refine ⟨by simp [V], fun w => ?_⟩
      simp [execOp, resolve, invoke, builtin, hx, conc, Builtin.len_, run_underlying hu, goInt]
    · rename_i hel hu
      cases h
      rw [hel] at hx
      refine ⟨by simp [V], fun w => ?_⟩
      simp [execOp, resolve, invoke, builtin, hx, conc, Builtin.len_, run_underlying hu, goInt]
    · cases h
  · -- cap
    rename_i x ty'
    have hx := e1 x (hall x (by simp [Op.operands, Call.operands]))
    split at h
    · rename_i hel hu
      cases h
      rw [hel] at hx
      refine ⟨by simp [V], fun w => ?_⟩
      simp [execOp, resolve, invoke, builtin, hx, conc, capC, Builtin.cap_, run_underlying hu, goInt]
    · cases h
  · exact plain_ok (by simp) h
  · exact plain_ok (by simp) h
  · exact plain_ok (by simp) h
  · exact plain_ok (by simp) h
  · cases h
end
end Go.Proofs.YtdennekkbdlhdaaDoor.Ev
