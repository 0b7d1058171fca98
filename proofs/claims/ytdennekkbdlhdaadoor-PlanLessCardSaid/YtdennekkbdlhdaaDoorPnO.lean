/-
  What a demand with a plan keeps; and how a plan's lists are counted.
-/
import Derived.Test.YtdennekkbdlhdaaDoorPnM
namespace Go.Proofs.YtdennekkbdlhdaaDoor
set_option linter.unusedVariables false

/-- all that a demand with a plan keeps -/
structure Okd (d : Dm) (N : Nat) : Prop where
  hN : (N : Int) = d.nodes
  n4 : 4 ≤ N
  n16 : N ≤ 16
  dr : 0 ≤ d.drift ∧ d.drift ≤ 1048576
  re : 0 ≤ d.reading ∧ d.reading ≤ 1048576
  rj : 1 ≤ d.rejoin ∧ d.rejoin ≤ 8
  qu : 1 ≤ d.quota ∧ d.quota ≤ 16
  tl : d.tasks.length ≤ 32
  tk : ∀ t ∈ d.tasks, (0 ≤ t.node ∧ t.node < d.nodes) ∧ (0 ≤ t.mem ∧ t.mem ≤ 256) ∧ (0 ≤ t.share ∧ t.share ≤ d.nodes)
  sl : d.streams.length ≤ 64
  sm : ∀ s ∈ d.streams, (0 ≤ s.src ∧ s.src < (d.tasks.length : Int)) ∧ (riseB d.tasks.length (-1) s.dests = true ∧ s.dests ≠ []) ∧ (1 ≤ s.size ∧ s.size ≤ 32) ∧ kindB s = true
  pn : portN d.streams ≤ 64
theorem okd_of {d : Dm} (h : mayD d = true) : ∃ N, Okd d N := by
  unfold mayD at h
  rw [Bool.and_eq_true, Bool.and_eq_true] at h
  obtain ⟨h1, h2, h3⟩ := h
  unfold numB at h1
  simp only [Bool.and_eq_true, inD_iff] at h1
  unfold tasksB at h2
  unfold streamsB at h3
  simp only [Bool.and_eq_true, decide_eq_true_eq, List.all_eq_true] at h2 h3
  obtain ⟨N, hN⟩ := Int.eq_ofNat_of_zero_le (show 0 ≤ d.nodes by omega)
  refine ⟨N, hN.symm, by omega, by omega, h1.2.1, h1.2.2.1, h1.2.2.2.1, h1.2.2.2.2, h2.1, fun t ht => ?_, h3.1, fun s hs => ?_, h3.2.2⟩
  · have := h2.2 t ht
    unfold tkB at this
    simp only [Bool.and_eq_true, decide_eq_true_eq, inD_iff] at this
    exact ⟨this.1, this.2.1, this.2.2⟩
  · have := h3.2.1 s hs
    unfold smB toB at this
    simp only [Bool.and_eq_true, decide_eq_true_eq, inD_iff, Bool.not_eq_true', List.isEmpty_eq_false_iff] at this
    exact ⟨this.1, this.2.1, this.2.2.1, this.2.2.2⟩
theorem fit_all {N : Nat} {p : Nat → Prop} [DecidablePred p] (h : ((List.range N).all fun n => decide (p n)) = true) {z : Int} (h0 : 0 ≤ z) (h1 : z < (N : Int)) : p z.toNat := by
  have := List.all_eq_true.1 h z.toNat (List.mem_range.2 (by omega))
  exact of_decide_eq_true this
theorem Okd.toNat {d : Dm} {N : Nat} (h : Okd d N) : d.nodes.toNat = N := by rw [← h.hN]; simp
theorem Okd.mem {d : Dm} {N : Nat} (h : Okd d N) (hf : fitM d = true) {z : Int} (h0 : 0 ≤ z) (h1 : z < d.nodes) : memN z d.tasks ≤ 256 := by
  unfold fitM at hf
  rw [h.toNat] at hf
  have := fit_all hf h0 (by rw [h.hN]; exact h1)
  rwa [Int.toNat_of_nonneg h0] at this
theorem Okd.shr {d : Dm} {N : Nat} (h : Okd d N) (hf : fitS d = true) {z : Int} (h0 : 0 ≤ z) (h1 : z < d.nodes) : shareN z d.tasks ≤ d.nodes := by
  unfold fitS at hf
  rw [h.toNat] at hf
  have := fit_all hf h0 (by rw [h.hN]; exact h1)
  rwa [Int.toNat_of_nonneg h0] at this
theorem Okd.load {d : Dm} {N : Nat} (h : Okd d N) (hf : fitL d = true) {z : Int} (h0 : 0 ≤ z) (h1 : z < d.nodes) : loadN d.tasks z d.streams ≤ 64 := by
  unfold fitL at hf
  rw [h.toNat] at hf
  have := fit_all hf h0 (by rw [h.hN]; exact h1)
  rwa [Int.toNat_of_nonneg h0] at this
theorem getD_mem {α : Type} {l : List α} {k : Nat} {d : α} (h : k < l.length) : l.getD k d ∈ l := by
  rw [List.getD_eq_getElem?_getD, List.getElem?_eq_getElem h]; exact List.getElem_mem _
theorem mem_getD {α : Type} {l : List α} {p : α → Prop} {d : α} (h : ∀ a ∈ l, p a) {k : Nat} (hk : k < l.length) : p (l.getD k d) := h _ (getD_mem hk)
theorem Okd.node {d : Dm} {N : Nat} (h : Okd d N) {s : Sm} (hs : s ∈ d.streams) : 0 ≤ nodeOf d.tasks s ∧ nodeOf d.tasks s < d.nodes := by
  obtain ⟨h1, _⟩ := h.sm s hs
  exact (h.tk _ (getD_mem (l := d.tasks) (k := s.src.toNat) (d := default) (by omega))).1
theorem Okd.memOf0 {d : Dm} {N : Nat} (h : Okd d N) (n : Int) : ∀ t ∈ d.tasks, 0 ≤ memOf n t := fun t ht => by
  have := (h.tk t ht).2.1.1
  unfold memOf; split <;> omega
theorem Okd.shareOf0 {d : Dm} {N : Nat} (h : Okd d N) (n : Int) : ∀ t ∈ d.tasks, 0 ≤ shareOf n t := fun t ht => by
  have := (h.tk t ht).2.2.1
  unfold shareOf; split <;> omega
theorem Okd.loadOf0 {d : Dm} {N : Nat} (h : Okd d N) (n : Int) : ∀ s ∈ d.streams, 0 ≤ loadOf d.tasks n s := fun s hs => by
  have := (h.sm s hs).2.2.1.1
  unfold loadOf; split <;> omega
theorem sum_mono {α : Type} {f : α → Int} {l : List α} (h : ∀ a ∈ l, 0 ≤ f a) {i j : Nat} (hij : i ≤ j) : sumI f (l.take i) ≤ sumI f (l.take j) := by
  have e : l.take i = (l.take j).take i := by rw [List.take_take, Nat.min_eq_left hij]
  rw [e]
  exact sumI_take (fun a ha => h a (List.mem_of_mem_take ha)) i
theorem part_hi {ts : List Tk} {k : Nat} (hk : k < ts.length) : (partAt ts k).hi = memN (partAt ts k).node (ts.take (k + 1)) := by
  show memN (ts.getD k default).node (ts.take k) + (ts.getD k default).mem = memN (ts.getD k default).node (ts.take (k + 1))
  have e : memOf (ts.getD k default).node (ts.getD k default) = (ts.getD k default).mem := if_pos rfl
  unfold memN
  rw [sumI_next _ ts default k hk, e]
theorem partsTo_at (ts : List Tk) {k n : Nat} (h : k < n) : (partsTo ts n).getD k default = partAt ts k := by
  simp [partsTo, List.getD_eq_getElem?_getD, h]
theorem linksTo_at (ts : List Tk) (ss : List Sm) {k n : Nat} (h : k < n) : (linksTo ts ss n).getD k default = linkAt ts ss k := by
  simp [linksTo, List.getD_eq_getElem?_getD, h]
theorem rowsTo_at (N : Nat) (ts : List Tk) (k : Nat) {n : Nat} (h : n < N) : (rowsTo N ts k).getD n [] = rowTo N ts (n : Int) k := by
  simp [rowsTo, List.getD_eq_getElem?_getD, h]
theorem rowsTo_len (N : Nat) (ts : List Tk) (k : Nat) : (rowsTo N ts k).length = N := by simp [rowsTo]
theorem row_len {d : Dm} {N : Nat} (h : Okd d N) (hf : fitS d = true) {n : Nat} (hn : n < N) : (rowTo N d.tasks (n : Int) d.tasks.length).length = N := by
  have e := givenTo_len d.tasks (n : Int) (fun t ht => (h.tk t ht).2.2.1) d.tasks.length (Nat.le_refl _)
  rw [List.take_length] at e
  have := h.shr hf (z := (n : Int)) (by omega) (by rw [← h.hN]; omega)
  have hN := h.hN
  unfold rowTo
  rw [List.length_append, List.length_replicate]
  omega
theorem rise_in {T : Nat} : ∀ {a : Int} {l : List Int}, riseB T a l = true → ∀ t ∈ l, a < t ∧ t < (T : Int)
  | a, [], _, t, ht => by cases ht
  | a, x :: l, h, t, ht => by
    simp only [riseB, Bool.and_eq_true, decide_eq_true_eq] at h
    rcases List.mem_cons.1 ht with rfl | ht
    · exact h.1
    · have := rise_in h.2 t ht; omega
/-- where a stream's ports stand -/
theorem ports_at (ss : List Sm) {i j : Nat} (hi : i < ss.length) (hj : j < 1 + (ss.getD i default).dests.length) :
    (portsAll ss)[(portsAll (ss.take i)).length + j]? = (portsOf (ss.getD i default))[j]? := by
  have e : ss = ss.take i ++ (ss.getD i default :: ss.drop (i + 1)) := by
    rw [List.getD_eq_getElem?_getD, List.getElem?_eq_getElem hi, Option.getD_some, ← List.drop_eq_getElem_cons hi, List.take_append_drop]
  have e2 : portsAll ss = portsAll (ss.take i) ++ (portsOf (ss.getD i default) ++ portsAll (ss.drop (i + 1))) := by
    conv => lhs; rw [e]
    simp [portsAll]
  rw [e2, List.getElem?_append_right (by omega), Nat.add_sub_cancel_left, List.getElem?_append_left (by rw [portsOf_len]; exact hj)]
theorem ports_end (ss : List Sm) {i : Nat} (hi : i < ss.length) : (portsAll (ss.take i)).length + (1 + (ss.getD i default).dests.length) ≤ (portsAll ss).length := by
  have e : portsAll (ss.take (i + 1)) = _ := portsAll_next ss i hi
  have h1 := congrArg List.length e
  rw [List.length_append, portsOf_len] at h1
  have h2 := portN_take ss (i + 1)
  rw [← portsAll_len, ← portsAll_len] at h2
  omega
theorem src_port (ss : List Sm) {i : Nat} (hi : i < ss.length) : (portsAll ss).getD (portsAll (ss.take i)).length default = ⟨(ss.getD i default).src, (ss.getD i default).kind, 1, (ss.getD i default).size, (ss.getD i default).depth, 0⟩ := by
  have := ports_at ss hi (j := 0) (by omega)
  rw [Nat.add_zero] at this
  rw [List.getD_eq_getElem?_getD, this]; rfl
theorem dest_port (ss : List Sm) {i j : Nat} (hi : i < ss.length) (hj : j < (ss.getD i default).dests.length) :
    (portsAll ss).getD ((portsAll (ss.take i)).length + 1 + j) default = ⟨(ss.getD i default).dests.getD j 0, (ss.getD i default).kind, 2, (ss.getD i default).size, (ss.getD i default).depth, (ss.getD i default).fresh⟩ := by
  have := ports_at ss hi (j := 1 + j) (by omega)
  rw [Nat.add_assoc, List.getD_eq_getElem?_getD, this]
  unfold portsOf
  rw [Nat.add_comm 1 j, List.getElem?_cons_succ, List.getElem?_map, List.getD_eq_getElem?_getD (l := (ss.getD i default).dests), List.getElem?_eq_getElem hj]; rfl
theorem range_at {α : Type} {f : Nat → α} {n j : Nat} {d : α} (h : j < n) : ((List.range n).map f).getD j d = f j := by
  rw [List.getD_eq_getElem?_getD, List.getElem?_map, List.getElem?_range h]; rfl
theorem link_hi {ts : List Tk} {ss : List Sm} {k : Nat} (hk : k < ss.length) : (linkAt ts ss k).offset + (1 + (ss.getD k default).size) = loadN ts (nodeOf ts (ss.getD k default)) (ss.take (k + 1)) := by
  show loadN ts (nodeOf ts (ss.getD k default)) (ss.take k) + (1 + (ss.getD k default).size) = _
  have e : loadOf ts (nodeOf ts (ss.getD k default)) (ss.getD k default) = 1 + (ss.getD k default).size := if_pos rfl
  unfold loadN
  rw [sumI_next _ ss default k hk, e]
end Go.Proofs.YtdennekkbdlhdaaDoor
