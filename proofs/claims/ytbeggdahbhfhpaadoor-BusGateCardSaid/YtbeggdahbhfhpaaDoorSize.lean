/-
  How long the lists of a configuration that came in can be: what memory bears.
-/
import Derived.Test.YtbeggdahbhfhpaaDoorCfgGreat
import Derived.SizedLaws
namespace Go.Proofs.YtbeggdahbhfhpaaDoor
open Go.RowKit Go.Deep
set_option linter.unusedVariables false
set_option linter.unusedSimpArgs false

section
variable {H : Type} {enc : TypeId × Value → H} {w : World} {P : Program} {M : Nat}

theorem weights_mem_all {e : TypeId} : ∀ {l : List (DataW H)} {d : DataW H}, d ∈ l → ∀ n ∈ d.weights P e, n ∈ DataW.weightsAll P e l
  | x :: l, d, hd, n, hn => by
    simp only [DataW.weightsAll, List.mem_append]
    rcases List.mem_cons.1 hd with rfl | h
    · exact .inl hn
    · exact .inr (weights_mem_all h n hn)

/-- a slice with its weights -/
theorem open_weight {t e : TypeId} {fuel : Nat} {A : Option Addr} {len cap : Nat} {x : DataW H × List MemPlace} (ht : P.underlying t = some (.slice e)) (h : DataW.trod enc P w 0 (fun _ => true) true fuel t [.slice A len cap] = some x)
    (hz : ∀ n ∈ x.1.weights P t, n ≤ M) :
    len * P.bytesOf e ≤ M ∧ ∀ i, i < len → ∃ (a : Addr) (cs' : List Value) (n : Nat) (y : DataW H × List MemPlace), A = some a ∧ w.cells? 0 (a.add (i * P.cellsOf e)) (P.cellsOf e) = some cs' ∧ DataW.trod enc P w 0 (fun _ => true) true n e cs' = some y ∧ ∀ k ∈ y.1.weights P e, k ≤ M := by
  rcases open_slice ht h with ⟨hcs, rfl⟩ | ⟨a, len', cap', m, n, D, Pl, hcs, _, hl, hm, hmm, rfl, hr⟩
  · simp at hcs
    obtain ⟨_, rfl, _⟩ := hcs
    exact ⟨by simp, fun i hi => by omega⟩
  · simp at hcs
    obtain ⟨rfl, rfl, rfl⟩ := hcs
    simp only [if_true] at hmm
    subst hmm
    simp only [DataW.weights, ht] at hz
    constructor
    · have h1 := hz _ List.mem_cons_self
      simp only [List.length_map, List.length_range] at h1
      exact Nat.le_trans (Nat.mul_le_mul_right _ (Nat.le_add_right _ _)) h1
    · intro i hi
      obtain ⟨cs', c1, h1⟩ := hr i (by omega)
      refine ⟨a, cs', n, _, rfl, c1, h1, fun k hk => hz k ?_⟩
      refine List.mem_cons_of_mem _ (List.mem_append_left _ (weights_mem_all (d := D i) ?_ k hk))
      exact List.mem_map.2 ⟨i, by simpa using hi, rfl⟩

/-- a struct's field with its weights -/
theorem field_weight {t : TypeId} {fs : Array Field} {fuel : Nat} {cs : List Value} {x : DataW H × List MemPlace} (hs : P.underlying t = some (.struct fs)) (hone : oneCellFields P fs = true)
    (h : DataW.trod enc P w 0 (fun _ => true) true fuel t cs = some x) (hz : ∀ n ∈ x.1.weights P t, n ≤ M) (i : Nat) (f : Field) (hf : fs[i]? = some f) (hi : i < P.cellsOf t) :
    ∃ v m y, cs[i]? = some v ∧ DataW.trod enc P w 0 (fun _ => true) true m f.type [v] = some y ∧ ∀ k ∈ y.1.weights P f.type, k ≤ M := by
  obtain ⟨xs, n, _, rfl, hl, hlen, hfs⟩ := DataW.trod_struct hs h
  have h1 := hfs i f hf
  obtain ⟨o, k⟩ := hone_of hone i f hf
  have hx : i < xs.length := by
    rw [hlen]
    rcases Nat.lt_or_ge i fs.size with h2 | h2
    · exact h2
    · rw [Array.getElem?_eq_none h2] at hf; cases hf
  rw [o, k, List.getElem?_eq_getElem hx] at h1
  have hi' : i < cs.length := by omega
  rw [List.drop_eq_getElem_cons hi', List.take_succ_cons, List.take_zero] at h1
  refine ⟨cs[i], n, xs[i], List.getElem?_eq_getElem hi', h1, fun k hk => hz k ?_⟩
  simp only [DataW.weights, hs]
  refine DataW.weights_mem_each (j := i) (t := f.type) (d := xs[i].1) ?_ ?_ k hk
  · rw [List.getElem?_map, Array.getElem?_toList, hf]; rfl
  · rw [List.getElem?_map, List.getElem?_eq_getElem hx]; rfl
end

section
variable {H : Type} {enc : TypeId × Value → H} {w : World}

/-- what memory bears of a configuration's lists -/
structure Sized (c : Conf) : Prop where
  owners : c.owners.length * 8 ≤ reachBytes
  parts : c.parts.length * 24 ≤ reachBytes
  windows : c.windows.length * 24 ≤ reachBytes
  ports : c.ports.length * 48 ≤ reachBytes
  links : c.links.length * 40 ≤ reachBytes
  row : ∀ k, k < c.windows.length → (c.windows.getD k []).length * 8 ≤ reachBytes
  dests : ∀ k, k < c.links.length → (c.links.getD k default).dests.length * 8 ≤ reachBytes

theorem cells_one {a : Addr} {cs : List Value} {v : Value} {b o : Nat} (h : w.cells? 0 a 1 = some cs) (ha : a = ⟨b, o, none⟩) (hv : w.cell? ⟨b, o, none⟩ = some v) : cs = [v] := by
  subst ha
  obtain ⟨_, l1, g⟩ := World.cells?_some h
  match cs, l1 with
  | [u], _ =>
    have := g 0 (by omega)
    rw [plain_add, Nat.add_zero, hv] at this
    simpa using this.symm

set_option maxRecDepth 100000 in
theorem conf_sized {fuel : Nat} {c : Conf} {a : Ad} {x : DataW H × List MemPlace} (hC : ConfAt w c a) (h : DataW.trod enc Tryd.prog w 0 (fun _ => true) true fuel 28 (c.val a).cells.toList = some x)
    (hz : ∀ n ∈ x.1.weights Tryd.prog 28, n ≤ reachBytes) : Sized c := by
  have k : Tryd.prog.cellsOf 28 = 12 := by kernel_rfl
  have kr : Tryd.prog.cellsOf 22 = 1 := by kernel_rfl
  have kl : Tryd.prog.cellsOf 53 = 3 := by kernel_rfl
  have z1 : Tryd.prog.bytesOf 3 = 8 := by kernel_rfl
  have z2 : Tryd.prog.bytesOf 51 = 24 := by kernel_rfl
  have z3 : Tryd.prog.bytesOf 22 = 24 := by kernel_rfl
  have z4 : Tryd.prog.bytesOf 49 = 48 := by kernel_rfl
  have z5 : Tryd.prog.bytesOf 53 = 40 := by kernel_rfl
  obtain ⟨v1, m1, y1, e1, t1, w1⟩ := field_weight Tryd.underlying28 (by kernel_rfl) h hz 1 _ rfl (by omega)
  obtain ⟨v8, m8, y8, e8, t8, w8⟩ := field_weight Tryd.underlying28 (by kernel_rfl) h hz 8 _ rfl (by omega)
  obtain ⟨v9, m9, y9, e9, t9, w9⟩ := field_weight Tryd.underlying28 (by kernel_rfl) h hz 9 _ rfl (by omega)
  obtain ⟨v10, m10, y10, e10, t10, w10⟩ := field_weight Tryd.underlying28 (by kernel_rfl) h hz 10 _ rfl (by omega)
  obtain ⟨v11, m11, y11, e11, t11, w11⟩ := field_weight Tryd.underlying28 (by kernel_rfl) h hz 11 _ rfl (by omega)
  simp only [Conf.val, Value.cells, List.getElem?_cons_zero, List.getElem?_cons_succ, Option.some.injEq] at e1 e8 e9 e10 e11
  subst e1 e8 e9 e10 e11
  obtain ⟨s1, _⟩ := open_weight Tryd.underlying22 t1 w1
  obtain ⟨s8, _⟩ := open_weight Tryd.underlying23 t8 w8
  obtain ⟨s9, r9⟩ := open_weight Tryd.underlying24 t9 w9
  obtain ⟨s10, _⟩ := open_weight Tryd.underlying25 t10 w10
  obtain ⟨s11, r11⟩ := open_weight Tryd.underlying26 t11 w11
  rw [z1] at s1
  rw [z2] at s8
  rw [z3] at s9
  rw [z4] at s10
  rw [z5] at s11
  refine ⟨s1, s8, s9, s10, s11, fun i hi => ?_, fun i hi => ?_⟩
  · obtain ⟨ad, cs', n, y, hA, hc, ht, hw⟩ := r9 i hi
    obtain ⟨b, off, Ai, ci, hA', _, hcell, _⟩ := hC.windows.at hi
    rw [kr, Nat.mul_one] at hc
    have e : ad = ⟨b, off, none⟩ := Option.some.inj (hA.symm.trans hA')
    subst e
    obtain rfl := cells_one hc (plain_add _ _ _) hcell
    have := (open_weight Tryd.underlying22 ht hw).1
    rwa [z1] at this
  · obtain ⟨ad, cs', n, y, hA, hc, ht, hw⟩ := r11 i hi
    obtain ⟨b, off, Ai, ci, hA', _, h0, h1, h2, _⟩ := hC.links.at hi
    rw [kl] at hc
    have e : ad = ⟨b, off, none⟩ := Option.some.inj (hA.symm.trans hA')
    subst e
    obtain ⟨_, l1, g⟩ := World.cells?_some hc
    obtain ⟨v, m, y', e1, t1, w1⟩ := field_weight Tryd.underlying53 (by kernel_rfl) ht hw 1 _ rfl (by omega)
    have g1 := g 1 (by omega)
    rw [plain_add, plain_add, e1, h1] at g1
    obtain rfl := Option.some.inj g1
    have := (open_weight Tryd.underlying22 t1 w1).1
    rwa [z1] at this

theorem Sized.borne {c : Conf} (h : Sized c) : Borne c := by
  have hM : reachBytes = 140737488351232 := rfl
  have h1 := h.owners; have h2 := h.parts; have h3 := h.windows; have h4 := h.ports; have h5 := h.links
  rw [hM] at h1 h2 h3 h4 h5
  refine ⟨by omega, by omega, by omega, by omega, by omega, fun k => ?_, fun k => ?_⟩
  · by_cases hk : k < c.windows.length
    · have := h.row k hk
      rw [hM] at this
      omega
    · rw [List.getD_eq_getElem?_getD, List.getElem?_eq_none (by omega)]; simp
  · by_cases hk : k < c.links.length
    · have := h.dests k hk
      rw [hM] at this
      omega
    · rw [List.getD_eq_getElem?_getD, List.getElem?_eq_none (by omega)]; simp [show (default : Lk).dests = [] from rfl]

/-- tables that are not great -/
structure Modest (c : Conf) : Prop where
  owners : c.owners.length ≤ 1000
  parts : c.parts.length ≤ 100
  windows : c.windows.length ≤ 1000
  ports : c.ports.length ≤ 100
  links : c.links.length ≤ 100
  row : ∀ k, k < c.windows.length → k < 100 → (c.windows.getD k []).length ≤ 1000
  dests : ∀ k, k < c.links.length → (c.links.getD k default).dests.length ≤ 1000
theorem modest_of {c : Conf} (h : great c = false) : Modest c := by
  simp only [great, Bool.or_eq_false_iff, decide_eq_false_iff_not, Nat.not_lt] at h
  obtain ⟨⟨⟨h1, h2⟩, h3⟩, h4⟩ := h
  unfold bulk at h1
  refine ⟨by omega, h2, by omega, h3, h4, fun k hk hk1 => ?_, fun k hk => ?_⟩
  · have := sumTo_one (rowLen c) (show k < min c.windows.length 100 by omega)
    have e : rowLen c k = (c.windows.getD k []).length := rfl
    omega
  · have := sumTo_one (destLen c) (show k < min c.links.length 100 by omega)
    have e : destLen c k = (c.links.getD k default).dests.length := rfl
    omega
end
end Go.Proofs.YtbeggdahbhfhpaaDoor
