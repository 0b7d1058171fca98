/-
  Check takes a plan: what is laid by the plan's own rules keeps all six rows.
-/
import Derived.Test.YtdennekkbdlhdaaDoorPnO
import Derived.Test.YtdennekkbdlhdaaDoorChkP
namespace Go.Proofs.YtdennekkbdlhdaaDoor
set_option linter.unusedVariables false

theorem meet_apart {a b c e : Int} (h : b ≤ c) : meetS ⟨a, b⟩ ⟨c, e⟩ = false := by
  unfold meetS
  rw [decide_eq_false_iff_not]
  dsimp only
  omega
theorem plan_parts {d : Dm} {N : Nat} (h : Okd d N) (hf : fitM d = true) : PartsK (confF d) := by
  refine ⟨by show (partsTo d.tasks d.tasks.length).length ≤ 32; rw [partsTo_len]; exact h.tl, fun k hk => ?_, ?_⟩
  · have hk' : k < d.tasks.length := by have : k < (partsTo d.tasks d.tasks.length).length := hk; rwa [partsTo_len] at this
    show (0 ≤ ((partsTo d.tasks d.tasks.length).getD k default).node ∧ ((partsTo d.tasks d.tasks.length).getD k default).node < d.nodes) ∧ 0 ≤ ((partsTo d.tasks d.tasks.length).getD k default).lo ∧ ((partsTo d.tasks d.tasks.length).getD k default).lo ≤ ((partsTo d.tasks d.tasks.length).getD k default).hi ∧ ((partsTo d.tasks d.tasks.length).getD k default).hi ≤ 256
    rw [partsTo_at d.tasks hk']
    obtain ⟨t1, t2, t3⟩ := h.tk _ (getD_mem (l := d.tasks) (d := default) hk')
    have e := part_hi hk'
    have h0 := sumI_nonneg (f := memOf (d.tasks.getD k default).node) (l := d.tasks.take k) fun t ht => h.memOf0 _ t (List.mem_of_mem_take ht)
    have h1 := sumI_take (h.memOf0 (d.tasks.getD k default).node) (k + 1)
    have h2 := h.mem hf t1.1 t1.2
    refine ⟨t1, h0, ?_, ?_⟩
    · show memN _ _ ≤ memN _ _ + (d.tasks.getD k default).mem
      omega
    · rw [e]
      exact Int.le_trans h1 h2
  · show (partsTo d.tasks d.tasks.length).Pairwise _
    unfold partsTo
    rw [List.pairwise_map]
    refine List.Pairwise.imp_of_mem ?_ (List.pairwise_lt_range (n := d.tasks.length))
    intro i j hi hj hij hn
    have hi := List.mem_range.1 hi
    have e := part_hi hi
    unfold spOf
    apply meet_apart
    rw [e]
    show memN _ _ ≤ memN _ _
    rw [hn]
    exact sum_mono (h.memOf0 _) (show i + 1 ≤ j by omega)
theorem plan_windows {d : Dm} {N : Nat} (h : Okd d N) (hf : fitS d = true) : WindowsK (confF d) := by
  have hw : (confF d).windows = rowsTo N d.tasks d.tasks.length := by show rowsTo d.nodes.toNat _ _ = _; rw [h.toNat]
  refine ⟨by rw [hw, rowsTo_len]; exact h.hN, fun n hn => ?_⟩
  rw [hw, rowsTo_len] at hn
  unfold RowOk
  rw [hw, rowsTo_at N d.tasks _ hn]
  refine ⟨by rw [row_len h hf hn]; exact h.hN, fun i hi => ?_⟩
  have hm := getD_mem (l := rowTo N d.tasks (n : Int) d.tasks.length) (d := (0 : Int)) hi
  generalize (rowTo N d.tasks (n : Int) d.tasks.length).getD i 0 = x at hm ⊢
  unfold rowTo at hm
  rcases List.mem_append.1 hm with h1 | h1
  · obtain ⟨g1, g2, g3⟩ := givenTo_nat d.tasks (n : Int) _ _ h1
    refine .inr ⟨?_, ?_⟩
    · show ofB _ (partsTo d.tasks d.tasks.length).length = true
      rw [partsTo_len]
      unfold ofB
      simp only [Bool.and_eq_true, decide_eq_true_eq]
      exact ⟨g1, g2⟩
    · show ((partsTo d.tasks d.tasks.length).getD _ default).node = _
      rw [partsTo_at d.tasks (by omega)]
      exact g3
  · exact .inl (List.mem_replicate.1 h1).2
theorem plan_ports {d : Dm} {N : Nat} (h : Okd d N) : PortsK (confF d) := by
  refine ⟨by show (portsAll d.streams).length ≤ 64; rw [portsAll_len]; exact h.pn, fun k hk => ?_⟩
  have hm := getD_mem (l := (confF d).ports) (d := default) hk
  generalize (confF d).ports.getD k default = p at hm
  have hm : p ∈ portsAll d.streams := hm
  unfold portsAll at hm
  obtain ⟨s, hs, hp⟩ := List.mem_flatMap.1 hm
  obtain ⟨s1, s2, s3, s4⟩ := h.sm s hs
  show ofB p.part (partsTo d.tasks d.tasks.length).length = true ∧ _
  rw [partsTo_len]
  unfold kindB at s4
  simp only [Bool.or_eq_true, Bool.and_eq_true, decide_eq_true_eq, inD_iff] at s4
  unfold portsOf at hp
  rcases List.mem_cons.1 hp with rfl | hp
  · refine ⟨by unfold ofB; simp only [Bool.and_eq_true, decide_eq_true_eq]; exact s1, ?_⟩
    unfold PortB inB
    dsimp only
    rcases s4 with ⟨⟨e1, e2⟩, e3⟩ | ⟨⟨e1, e2⟩, e3⟩
    · simp [e1, e2, s3]
    · simp [e1, e3, s3]
  · obtain ⟨t, ht, rfl⟩ := List.mem_map.1 hp
    have := rise_in s2.1 t ht
    refine ⟨by unfold ofB; simp only [Bool.and_eq_true, decide_eq_true_eq]; exact ⟨by omega, this.2⟩, ?_⟩
    unfold PortB inB
    dsimp only
    rcases s4 with ⟨⟨e1, e2⟩, e3⟩ | ⟨⟨e1, e2⟩, e3⟩
    · simp [e1, e2, e3, s3]
    · simp [e1, e2, e3, s3]
theorem names_links (ts : List Tk) (ss : List Sm) : ∀ k, k ≤ ss.length → namesOf (linksTo ts ss k) = (List.range (portsAll (ss.take k)).length).map fun (n : Nat) => (n : Int)
  | 0, _ => by simp [linksTo, namesOf, portsAll]
  | k + 1, hk => by
    rw [linksTo_next, namesOf_snoc, names_links ts ss k (by omega), portsAll_next ss k (by omega), List.length_append, portsOf_len]
    show _ ++ ((((portsAll (ss.take k)).length : Nat) : Int) :: (List.range (ss.getD k default).dests.length).map fun j => (((portsAll (ss.take k)).length + 1 + j : Nat) : Int)) = _
    generalize (portsAll (ss.take k)).length = p
    generalize (ss.getD k default).dests.length = m
    rw [← Nat.add_assoc, List.range_add, List.range_succ, List.map_append, List.map_append, List.append_assoc]
    congr 1
    simp [List.map_map, Function.comp_def]
theorem stand_range (n : Nat) : ∀ m, m ≤ n → standF (List.replicate n false) ((List.range m).map fun (k : Nat) => (k : Int)) = some (List.replicate m true ++ List.replicate (n - m) false)
  | 0, _ => by simp [standF]
  | m + 1, hm => by
    rw [List.range_succ, List.map_append, standF_append, stand_range n m (by omega)]
    simp only [Option.bind_some, List.map_cons, List.map_nil, standF, Int.toNat_natCast]
    have e : n - m = (n - (m + 1)) + 1 := by omega
    have e3 : (List.replicate m true ++ false :: List.replicate (n - (m + 1)) false).getD m false = false := by
      rw [List.getD_eq_getElem?_getD, List.getElem?_append_right (by simp), List.length_replicate, Nat.sub_self]; rfl
    rw [e, List.replicate_succ]
    simp only [e3, Bool.false_eq_true, if_false]
    rw [List.set_append_right _ _ (by simp), List.length_replicate, Nat.sub_self, List.set_cons_zero, List.replicate_succ' (n := m), List.append_assoc]
    rfl
theorem plan_pt {d : Dm} {N : Nat} (h : Okd d N) {k : Nat} (hk : k < d.streams.length) : ptOf (confF d) (linkAt d.tasks d.streams k) = ⟨nodeOf d.tasks (d.streams.getD k default), (linkAt d.tasks d.streams k).offset, loadN d.tasks (nodeOf d.tasks (d.streams.getD k default)) (d.streams.take (k + 1))⟩ := by
  have hsrc : (confF d).ports.getD (linkAt d.tasks d.streams k).source.toNat default = ⟨(d.streams.getD k default).src, (d.streams.getD k default).kind, 1, (d.streams.getD k default).size, (d.streams.getD k default).depth, 0⟩ := src_port d.streams hk
  obtain ⟨s1, _⟩ := h.sm _ (getD_mem (d := default) hk)
  unfold ptOf
  rw [hsrc]
  dsimp only
  rw [link_hi hk]
  congr 1
  show ((partsTo d.tasks d.tasks.length).getD _ default).node = _
  rw [partsTo_at d.tasks (by omega)]
  rfl
theorem plan_links {d : Dm} {N : Nat} (h : Okd d N) (hf : fitL d = true) : LinksK (confF d) := by
  have hl : (confF d).links = linksTo d.tasks d.streams d.streams.length := rfl
  refine ⟨by rw [hl, linksTo_len]; exact h.sl, fun k hk => ?_, ?_, ?_⟩
  · rw [hl, linksTo_len] at hk
    rw [hl, linksTo_at _ _ hk]
    have hm := getD_mem (l := d.streams) (d := default) hk
    obtain ⟨s1, s2, s3, s4⟩ := h.sm _ hm
    have hend := ports_end d.streams hk
    have hsrc : (confF d).ports.getD (linkAt d.tasks d.streams k).source.toNat default = ⟨(d.streams.getD k default).src, (d.streams.getD k default).kind, 1, (d.streams.getD k default).size, (d.streams.getD k default).depth, 0⟩ := src_port d.streams hk
    have hdl : (linkAt d.tasks d.streams k).dests.length = (d.streams.getD k default).dests.length := by simp [linkAt]
    have hpl : (confF d).ports.length = (portsAll d.streams).length := rfl
    refine ⟨?_, by rw [hsrc], ?_, ?_, ?_⟩
    · unfold ofB
      rw [hpl]
      show (decide (0 ≤ (((portsAll (d.streams.take k)).length : Nat) : Int)) && decide ((((portsAll (d.streams.take k)).length : Nat) : Int) < _)) = true
      simp only [Bool.and_eq_true, decide_eq_true_eq]
      omega
    · intro e
      have := congrArg List.length e
      rw [hdl] at this
      exact s2.2 (List.length_eq_zero_iff.1 this)
    · intro j hj
      rw [hdl] at hj
      have hd : (linkAt d.tasks d.streams k).dests.getD j 0 = (((portsAll (d.streams.take k)).length + 1 + j : Nat) : Int) := range_at hj
      rw [hd, hsrc]
      have hp : (confF d).ports.getD ((((portsAll (d.streams.take k)).length + 1 + j : Nat) : Int)).toNat default = _ := dest_port d.streams hk hj
      unfold DestOk
      rw [hp, hpl]
      refine ⟨?_, rfl, rfl, rfl⟩
      unfold ofB
      simp only [Bool.and_eq_true, decide_eq_true_eq]
      omega
    · rw [hsrc]
      dsimp only
      have h0 := sumI_nonneg (f := loadOf d.tasks (nodeOf d.tasks (d.streams.getD k default))) (l := d.streams.take k) fun t ht => h.loadOf0 _ t (List.mem_of_mem_take ht)
      have h1 := sumI_take (h.loadOf0 (nodeOf d.tasks (d.streams.getD k default))) (k + 1)
      have h2 := h.load hf (h.node hm).1 (h.node hm).2
      have h3 := link_hi (ts := d.tasks) hk
      have h4 : 0 ≤ (linkAt d.tasks d.streams k).offset := h0
      have h5 : (linkAt d.tasks d.streams k).offset + (1 + (d.streams.getD k default).size) ≤ 64 := by rw [h3]; exact Int.le_trans h1 h2
      unfold inB
      simp only [Bool.and_eq_true, decide_eq_true_eq]
      omega
  · rw [hl, names_links _ _ _ (Nat.le_refl _), List.take_length]
    show (standF (List.replicate (portsAll d.streams).length false) _).isSome = true
    rw [stand_range _ _ (Nat.le_refl _)]; rfl
  · rw [hl]
    unfold ApartP linksTo
    rw [List.map_map, List.pairwise_map]
    refine List.Pairwise.imp_of_mem ?_ (List.pairwise_lt_range (n := d.streams.length))
    intro i j hi hj hij
    have hi := List.mem_range.1 hi
    have hj := List.mem_range.1 hj
    simp only [Function.comp_def]
    rw [plan_pt h hi, plan_pt h hj]
    intro hn
    dsimp only at hn
    unfold spOf
    apply meet_apart
    show loadN _ _ _ ≤ loadN _ _ _
    rw [hn]
    exact sum_mono (h.loadOf0 _) (show i + 1 ≤ j by omega)
theorem plan_checks {d : Dm} (h : errF d = 0) : checkF (confF d) = 0 := by
  unfold errF at h
  cases hm : mayD d with
  | false => rw [hm] at h; simp at h
  | true =>
    cases h1 : fitM d with
    | false => rw [hm, h1] at h; simp at h
    | true =>
      cases h2 : fitS d with
      | false => rw [hm, h1, h2] at h; simp at h
      | true =>
        cases h3 : fitL d with
        | false => rw [hm, h1, h2, h3] at h; simp at h
        | true =>
          obtain ⟨N, ho⟩ := okd_of hm
          have hn : NodesK (confF d) := by
            have hl : (confF d).owners.length = N := by show ((List.range d.nodes.toNat).map _).length = N; simp [ho.toNat]
            have a := ho.hN
            have b := ho.n4
            have e := ho.n16
            refine ⟨by show 4 ≤ d.nodes; omega, by show d.nodes ≤ 16; omega, by rw [hl]; exact ho.hN, fun n hn => ?_⟩
            rw [hl] at hn
            exact List.mem_map.2 ⟨n, List.mem_range.2 (by rw [ho.toNat]; exact hn), rfl⟩
          have hc : ClockK (confF d) = true := by
            obtain ⟨a1, a2⟩ := ho.dr
            obtain ⟨b1, b2⟩ := ho.re
            obtain ⟨c1, c2⟩ := ho.rj
            obtain ⟨e1, e2⟩ := ho.qu
            unfold ClockK inB precF
            simp only [Bool.and_eq_true, decide_eq_true_eq]
            show ((((((0 ≤ d.drift ∧ d.drift ≤ 1048576) ∧ (0 ≤ d.reading ∧ d.reading ≤ 1048576)) ∧ (2 * (2 * (d.drift + d.reading) + 1) + d.reading ≤ boundF d ∧ boundF d ≤ 16777216)) ∧ (2 * (2 * (d.drift + d.reading) + 1) + d.reading ≤ boundF d ∧ boundF d ≤ 16777216)) ∧ (1 ≤ d.rejoin ∧ d.rejoin ≤ 8)) ∧ (1 ≤ d.quota ∧ d.quota ≤ 16))
            unfold boundF
            omega
          unfold checkF checkW
          simp only [hn, hc, plan_parts ho h1, plan_windows ho h2, plan_ports ho, plan_links ho h3, not_true, if_false, Bool.true_eq_false]
end Go.Proofs.YtdennekkbdlhdaaDoor
