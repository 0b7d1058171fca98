/-
  The document's own row on links, in the program's words.
-/
import Derived.Test.YtbeggdahbhfhpaaDoorRckG
import Derived.Test.YtbeggdahbhfhpaaDoorDupB
import Derived.BigRegion
import Derived.Deep.RegionHeld3
namespace Go.Proofs.YtbeggdahbhfhpaaDoor
open Go.RowKit Go.Deep
set_option linter.unusedVariables false
set_option linter.unusedSimpArgs false

theorem sA {α : Type} (l : List α) (i : Nat) (a : α) : l.toArray.setIfInBounds i a = (l.set i a).toArray := List.setIfInBounds_toArray l i a
theorem sZ {α : Type} (a b : α) (l : List α) : (a :: l).set 0 b = b :: l := rfl
theorem sS {α : Type} (a b : α) (l : List α) (n : Nat) : (a :: l).set (n + 1) b = a :: l.set n b := rfl
section
variable {P : Program} {ops : Array Oper} {Q : Exit → Act → World → Prop} {md : Region.Mode} {S : World → Prop} {i : Nat} {oi : Oper} {v : Value} {fuel : Nat} {listed : Array Bool} {a : Act} {w : World}
/-- the next operation, which yields v into d -/
theorem tkW (d : Nat) (hi : ops[i]? = some oi) (hd : oi.dst = some d) (hb : (Region.noSelect ops && (Region.free md ops listed i && ((Region.ready md ops listed).contains i && Region.wanted oi (yielded ops a.tmps)))) = true)
    (hQ : ∀ c a w, Q (.panic c) (a.put (some d) v) w → Q (.panic c) a w) (hy : ∀ w, S w → (execOp a.eval oi).run P w = .ok (.value v) w) (hS : S w)
    (h : wpAnyH P md ops Q S fuel (listed.setIfInBounds i true) (a.put (some d) v) w) : wpAnyH P md ops Q S (fuel + 1) listed a w := by
  simp only [Bool.and_eq_true] at hb
  rw [← hd] at h hQ
  exact wpAnyH_take hi hb.1 hb.2.1 hb.2.2.1 hQ (.inl ⟨hb.2.2.2, hy⟩) hS h
/-- the next operation, which nobody asks for -/
theorem tkU (d : Nat) (hi : ops[i]? = some oi) (hd : oi.dst = some d) (hb : (Region.noSelect ops && (Region.free md ops listed i && ((Region.ready md ops listed).contains i && !Region.wanted oi (yielded ops a.tmps)))) = true)
    (hQ : ∀ c a w, Q (.panic c) (a.put (some d) undef) w → Q (.panic c) a w) (hS : S w)
    (h : wpAnyH P md ops Q S fuel (listed.setIfInBounds i true) (a.put (some d) undef) w) : wpAnyH P md ops Q S (fuel + 1) listed a w := by
  simp only [Bool.and_eq_true, Bool.not_eq_true'] at hb
  rw [← hd] at h hQ
  exact wpAnyH_take hi hb.1 hb.2.1 hb.2.2.1 hQ (.inr ⟨hb.2.2.2, rfl⟩) hS h
end

set_option maxRecDepth 100000 in
set_option maxHeartbeats 16000000 in
theorem rlinksK (c : Conf) (d : Ad) (w : World) (hg : Glo w) (h : ConfAt w c d) (hPO : PortsK c) (hSm : ∀ k, k < c.links.length → (c.links.getD k default).dests.length ≤ 17592186043904) :
    Calls Tryd.prog 108 #[c.val d] w fun e w' => e = .returned (.bool (decide (LinksK c))) ∧ Below w.heap.size w w' := by
  have hS := CfS.first 28 hg h
  have HG0 := hide hg
  have HC0 := hide h
  obtain ⟨nm, hnm⟩ : ∃ nm : Nat → List Int, ∀ k, nm k = namesOf (c.links.take k) := ⟨_, fun _ => rfl⟩
  obtain ⟨ok, hok⟩ : ∃ ok : Lk → Prop, ∀ l, ok l ↔ LinkOk c l := ⟨_, fun _ => Iff.rfl⟩
  obtain ⟨dk, hdk⟩ : ∃ dk : Po → Int → Prop, ∀ s z, dk s z ↔ DestOk c s z := ⟨_, fun _ _ => Iff.rfl⟩
  obtain ⟨nd, hnd⟩ : ∃ nd : Lk → Int, ∀ l, nd l = LkNode c l := ⟨_, fun _ => rfl⟩
  obtain ⟨en, hen⟩ : ∃ en : Lk → Int, ∀ l, en l = LkEnd c l := ⟨_, fun _ => rfl⟩
  have HLong : Hid (¬ c.links.length ≤ 64 → decide (LinksK c) = false) := fun q => decide_eq_false fun a => q a.1
  have HBad : Hid (∀ k, k < c.links.length → ¬ ok (c.links.getD k default) → decide (LinksK c) = false) := fun k hk q => decide_eq_false fun a => q ((hok _).2 (a.2.1 k hk))
  have HOver : Hid (∀ k, ¬ (nm k).length ≤ c.ports.length → decide (LinksK c) = false) := fun k q => decide_eq_false fun a => q (by rw [hnm]; exact names_over c k a.2.1 a.2.2.1)
  have HCnt : Hid (∀ n : Nat, n < c.ports.length → ¬ (nm c.links.length).count (n : Int) ≤ 1 → decide (LinksK c) = false) := fun n hn q => decide_eq_false fun a => q (by rw [hnm, List.take_length]; exact (names_once c a.2.1).1 a.2.2.1 n hn)
  have HMeet : Hid (∀ i k, k < i → i < c.links.length → nd (c.links.getD i default) = nd (c.links.getD k default) → meetB (c.links.getD i default).offset (en (c.links.getD i default)) (c.links.getD k default).offset (en (c.links.getD k default)) = true → decide (LinksK c) = false) := fun i k h1 h2 h3 h4 => decide_eq_false fun a => by
    rw [hnd, hnd] at h3
    rw [hen, hen, (links_apart c).1 a.2.2.2 i k h1 h2 h3] at h4
    cases h4
  have HYes : Hid (c.links.length ≤ 64 → (∀ k, k < c.links.length → ok (c.links.getD k default)) → (∀ n : Nat, n < c.ports.length → (nm c.links.length).count (n : Int) ≤ 1) → (∀ i k, k < i → i < c.links.length → nd (c.links.getD i default) = nd (c.links.getD k default) → meetB (c.links.getD i default).offset (en (c.links.getD i default)) (c.links.getD k default).offset (en (c.links.getD k default)) = false) → decide (LinksK c) = true) := fun a1 a2 a3 a4 => by
    have a2' : ∀ k, k < c.links.length → LinkOk c (c.links.getD k default) := fun k hk => (hok _).1 (a2 k hk)
    refine decide_eq_true ⟨a1, a2', (names_once c a2').2 ?_, (links_apart c).2 fun i k h1 h2 h3 => ?_⟩
    · rw [hnm, List.take_length] at a3; exact a3
    · have := a4 i k h1 h2 (by rw [hnd, hnd]; exact h3)
      rwa [hen, hen] at this
  have HPort : Hid (∀ n, n < c.ports.length → ofB (c.ports.getD n default).part c.parts.length = true ∧ 1 ≤ (c.ports.getD n default).size ∧ (c.ports.getD n default).size ≤ 32) := fun n hn => ⟨(hPO.2 n hn).1, portB_size (hPO.2 n hn).2⟩
  have HSm := hide hSm
  have HIN : Hid (∀ k, k ≤ c.links.length → (∀ j, j < k → ok (c.links.getD j default)) → ∀ z ∈ nm k, ofB z c.ports.length = true) := fun k hk hj => by rw [hnm]; exact names_upto c k hk fun j q => (hok _).1 (hj j q)
  have HOk : Hid (∀ l, ok l ↔ ofB l.source c.ports.length = true ∧ (c.ports.getD l.source.toNat default).dir = 1 ∧ l.dests ≠ [] ∧ (∀ k, k < l.dests.length → dk (c.ports.getD l.source.toNat default) (l.dests.getD k 0)) ∧ 0 ≤ l.offset ∧ l.offset + 1 + (c.ports.getD l.source.toNat default).size ≤ 64) := fun l => by
    rw [hok]
    unfold LinkOk
    simp only [hdk, inB, Bool.and_eq_true, decide_eq_true_eq]
    refine and_congr Iff.rfl (and_congr Iff.rfl (and_congr Iff.rfl (and_congr Iff.rfl (and_congr Iff.rfl ?_))))
    omega
  have HDk : Hid (∀ s z, dk s z ↔ ofB z c.ports.length = true ∧ (c.ports.getD z.toNat default).dir = 2 ∧ (c.ports.getD z.toNat default).kind = s.kind ∧ (c.ports.getD z.toNat default).size = s.size) := hdk
  have HNd : Hid (∀ l, nd l = (c.parts.getD (c.ports.getD l.source.toNat default).part.toNat default).node) := hnd
  have HEn : Hid (∀ l, en l = l.offset + 1 + (c.ports.getD l.source.toNat default).size) := hen
  have HNM0 : nm 0 = [] := by rw [hnm]; rfl
  have HNMS : Hid (∀ k, k < c.links.length → nm (k + 1) = nm k ++ ((c.links.getD k default).source :: (c.links.getD k default).dests)) := fun k hk => by rw [hnm, hnm, take_snoc _ _ hk, namesOf_snoc]
  have HIS : Hid (∀ (W : World) (n : Int), CfS w W c d → Calls Tryd.prog 140 #[c.val d, .int .i64 n] W fun e w' => e = .returned (.bool (ofB n c.ports.length)) ∧ Below W.heap.size W w') := fun W n hW => ris_of c d n W hW.cf
  have HU0 : Hid (∀ W : World, W.ownsRow (w.heap.size + 1) 3 1 (.slice none 0 0) (nm 0).length ((nm 0).map (Value.int .i64))) := fun W => by rw [HNM0]; exact World.ownsRow_nil W _ _ _
  have HZ0 : Hid ((nm 0).length ≤ c.ports.length) := by rw [HNM0]; exact Nat.zero_le _
  have hp64 : c.ports.length ≤ 64 := hPO.1
  clear hg h hPO hSm hnm hok hdk hnd hen HNM0
  obtain ⟨oA, oC, pA, pC, wA, wC, qA, qC, lA, lC⟩ := d
  obtain ⟨nodes, owners, drift, reading, margin, bound, rejoin, quota, parts, windows, ports, links⟩ := c
  unfold Conf.val at HIS ⊢
  unfold Conf.cells at hS
  dsimp only at hS hp64 HC0 HLong HBad HOver HCnt HMeet HYes HPort HSm HIN HOk HDk HNd HEn HNMS HIS HZ0 ⊢
  generalize decide (LinksK ⟨nodes, owners, drift, reading, margin, bound, rejoin, quota, parts, windows, ports, links⟩) = ans at HLong HBad HOver HCnt HMeet HYes ⊢
  obtain ⟨hb, ⟨hl, e0, e1, e2, e3, e4, e5, e6, e7, e8, e9, e10, e11⟩, hg, hc⟩ := id hS
  dsimp only at e0 e1 e2 e3 e4 e5 e6 e7 e8 e9 e10 e11
  have HS := hide hS
  clear hS hg hc
  go_enter Tryd.func108, Tryd.ntmps108
  by_cases hlen : links.length ≤ 64
  · have hlen2 : ((links.length : Nat) : Int) ≤ 64 := by omega
    have HLEN := hide hlen
    go_wp2_with fail
    go_loopw [2, 3, 4, 5, 6, 7] (fun _ u i _ _ _ W => ∃ k : Nat, k ≤ links.length ∧ i = .int .i64 k ∧ CfS w W ⟨nodes, owners, drift, reading, margin, bound, rejoin, quota, parts, windows, ports, links⟩ ⟨oA, oC, pA, pC, wA, wC, qA, qC, lA, lC⟩ ∧ W.ownsRow (w.heap.size + 1) 3 1 u (nm k).length ((nm k).map (Value.int .i64)) ∧ (nm k).length ≤ ports.length ∧ Hid (∀ j, j < k → ok (links.getD j default))) (fun _ _ i _ _ _ _ => links.length - (intOf i).toNat)
    case atStart => exact ⟨0, by omega, rfl, HS.out, HU0.out _, HZ0.out, fun j hj => by omega⟩
    case round =>
      obtain ⟨k, hk, rfl, hT, hU, hm, H⟩ := hrel
      clear HS hb hl e0 e1 e2 e3 e4 e5 e6 e7 e8 e9 e10 e11 HU0 HZ0
      obtain ⟨uA, uC, rfl, hu1, hu2, hu3⟩ := ownsRow.slice hU
      by_cases hlt : k < links.length
      · obtain ⟨lb, lof, Ai, ci, hA, hlb, f0, f1, f2, hci, hcm, hIn, hI1, hI2⟩ := HC0.out.links.at hlt
        dsimp only at hA f0 f1 f2 hci hIn hI1 hI2
        subst hA
        obtain ⟨hb, ⟨hl, e0, e1, e2, e3, e4, e5, e6, e7, e8, e9, e10, e11⟩, hg, hc⟩ := id hT
        dsimp only at e0 e1 e2 e3 e4 e5 e6 e7 e8 e9 e10 e11
        replace f0 := cell_below hb (Nat.le_refl _) hlb f0
        replace f1 := cell_below hb (Nat.le_refl _) hlb f1
        replace f2 := cell_below hb (Nat.le_refl _) hlb f2
        have hdl := HSm.out k hlt
        obtain ⟨⟨source, dests, offset⟩, hp⟩ : ∃ p, links.getD k default = p := ⟨_, rfl⟩
        rw [hp] at f0 f1 f2 hci hIn hI1 hI2 hdl
        dsimp only at f0 f1 f2 hci hIn hI1 hI2 hdl
        have HP := hide hp
        have HNK : Hid (nm (k + 1) = nm k ++ (source :: dests)) := by have := HNMS.out k hlt; rw [hp] at this; exact this
        have HF : Hid (¬ ok ⟨source, dests, offset⟩ → ans = false) := fun g => HBad.out k hlt (by rw [HP.out]; exact g)
        have HN : Hid (ok ⟨source, dests, offset⟩ → ∀ j, j < k + 1 → ok (links.getD j default)) := fun g j hj => by
          rcases Nat.lt_succ_iff_lt_or_eq.1 hj with h5 | rfl
          · exact H.out j h5
          · rw [HP.out]; exact g
        have HK := hide (HOk.out ⟨source, dests, offset⟩)
        dsimp only at HK
        have HI0 := hide hIn
        have HDL := hide hdl
        have hbx := (Below.refl wr.heap.size wr).alloc (Nat.le_refl _) (.cells #[.int .i64 source, .slice Ai dests.length ci, .int .i64 offset] 53)
        have hu0 : UsS w (wr.alloc (.cells #[.int .i64 source, .slice Ai dests.length ci, .int .i64 offset] 53)) ⟨nodes, owners, drift, reading, margin, bound, rejoin, quota, parts, windows, ports, links⟩ ⟨oA, oC, pA, pC, wA, wC, qA, qC, some ⟨lb, lof, none⟩, lC⟩ wr.heap.size source Ai dests.length ci offset (.slice uA (nm k).length uC) (nm k) :=
          ⟨hT.below hbx, lk_new wr source Ai dests.length ci offset 53, ownsRow.on hU hbx, fun g hg => by obtain ⟨_, cur, e⟩ := ownsRow.blk hU hg; have := (Array.getElem?_eq_some_iff.1 e).1; omega⟩
        have HT := hide (hu0.below (Below.refl _ _).drew)
        have hdmax : dests.length ≤ 9223372036854775807 := by omega
        clear hp hIn hT hU hu0 hbx hg hc hu1 hu2 hu3 hI1 hI2 hci hcm hdl
        go_upto_region 8 with fail
        clear e0 e1 e2 e3 e4 e5 e6 e7 e8 e9 e10 e11 hl hb f0 f1 f2 hlb
        obtain ⟨⟨hb, ⟨hl, e0, e1, e2, e3, e4, e5, e6, e7, e8, e9, e10, e11⟩, hg, hc⟩, ⟨hll, l0, l1, l2⟩, hU, hne⟩ := id HT.out
        dsimp only at e0 e1 e2 e3 e4 e5 e6 e7 e8 e9 e10 e11
        have HPS := hide hc.ports
        try dsimp only at HPS
        clear hg hc hU hne hb
        by_cases hso : ofB source ports.length = true
        · have HSO := hide hso
          have hso2 := hso
          simp only [ofB, Bool.and_eq_true, decide_eq_true_eq] at hso2
          obtain ⟨v1, v2⟩ := hso2
          obtain ⟨sn, rfl⟩ := Int.eq_ofNat_of_zero_le v1
          have hsn : sn < ports.length := by omega
          obtain ⟨pb, po, hA, hpb, p0, p1, p2, p3, p4, p5⟩ := HPS.out.at hsn
          try dsimp only at hA
          subst hA
          have hsz := (HPort.out sn hsn).2
          obtain ⟨⟨part, kind, dir, size, depth, fresh⟩, hpo⟩ : ∃ p, ports.getD sn default = p := ⟨_, rfl⟩
          rw [hpo] at p1 p2 p3 hsz
          dsimp only at p1 p2 p3 hsz
          obtain ⟨hs1, hs2⟩ := hsz
          have HPO := hide hpo
          have HK2 : Hid (ok ⟨(sn : Int), dests, offset⟩ ↔ dir = 1 ∧ dests ≠ [] ∧ (∀ k, k < dests.length → dk ⟨part, kind, dir, size, depth, fresh⟩ (dests.getD k 0)) ∧ 0 ≤ offset ∧ offset + 1 + size ≤ 64) := by
            have := HK.out
            rw [Int.toNat_natCast, hpo] at this
            exact ⟨fun g => (this.1 g).2, fun g => this.2 ⟨HSO.out, g⟩⟩
          clear hso hpo p0 p4 p5 HPS
          by_cases c1 : dir = 1
          · subst c1
            by_cases c2 : dests.length = 0
            · have HX := hide (HF.out (fun g => (HK2.out.1 g).2.1 (List.length_eq_zero_iff.1 c2)))
              have n2 : ((dests.length : Int) == 0) = true := beq_iff_eq.2 (by omega)
              clear c2 hs1 hs2 v1 v2
              as_aux_lemma =>
                refine wp_region_held_drew (S := fun w' => w'.cell? ⟨w.heap.size, 0, none⟩ = some (.int .i64 nodes) ∧ w'.cell? ⟨w.heap.size, 1, none⟩ = some (.slice oA owners.length oC) ∧ w'.cell? ⟨w.heap.size, 2, none⟩ = some (.int .i64 drift) ∧ w'.cell? ⟨w.heap.size, 3, none⟩ = some (.int .i64 reading) ∧ w'.cell? ⟨w.heap.size, 4, none⟩ = some (.int .i64 margin) ∧ w'.cell? ⟨w.heap.size, 5, none⟩ = some (.int .i64 bound) ∧ w'.cell? ⟨w.heap.size, 6, none⟩ = some (.int .i64 rejoin) ∧ w'.cell? ⟨w.heap.size, 7, none⟩ = some (.int .i64 quota) ∧ w'.cell? ⟨w.heap.size, 8, none⟩ = some (.slice (pA) parts.length pC) ∧ w'.cell? ⟨w.heap.size, 9, none⟩ = some (.slice wA windows.length wC) ∧ w'.cell? ⟨w.heap.size, 10, none⟩ = some (.slice (some ⟨pb, po, none⟩) ports.length qC) ∧ w'.cell? ⟨w.heap.size, 11, none⟩ = some (.slice (some ⟨lb, lof, none⟩) links.length lC) ∧ w'.cell? ⟨wr.heap.size, 0, none⟩ = some (.int .i64 (sn : Int)) ∧ w'.cell? ⟨wr.heap.size, 1, none⟩ = some (.slice Ai dests.length ci) ∧ w'.cell? ⟨wr.heap.size, 2, none⟩ = some (.int .i64 offset) ∧ w'.cell? ⟨pb, po + sn * 6 + 2, none⟩ = some (.int .i64 1) ∧ w'.cell? ⟨pb, po + sn * 6 + 3, none⟩ = some (.int .i64 size)) (by kernel_rfl) (⟨e0, e1, e2, e3, e4, e5, e6, e7, e8, e9, e10, e11, l0, l1, l2, p2, p3⟩) (fun hHeld => ?_)
                refine tkW 31 (i := 0) (v := ?v1_0) rfl rfl (by kernel_rfl) (fun _ _ _ h => h) ?y1_0 (by assumption) ?r1_0
                case y1_0 => (intro W hSW; (try dsimp only at hSW); go_simp; (try with_reducible rfl))
                (try simp only [Act.put, sA, sZ, sS])
                refine tkW 32 (i := 1) (v := ?v1_1) rfl rfl (by kernel_rfl) (fun _ _ _ h => h) ?y1_1 (by assumption) ?r1_1
                case y1_1 => (intro W hSW; (try dsimp only at hSW); go_simp; (try with_reducible rfl))
                (try simp only [Act.put, sA, sZ, sS])
                refine tkW 33 (i := 2) (v := ?v1_2) rfl rfl (by kernel_rfl) (fun _ _ _ h => h) ?y1_2 (by assumption) ?r1_2
                case y1_2 => (intro W hSW; (try dsimp only at hSW); go_simp; (try with_reducible rfl))
                (try simp only [Act.put, sA, sZ, sS])
                refine wpAnyH_ready (rs := [3]) (by kernel_rfl) (by simp) ?_
                refine AllReadyH.cons rfl (fun K hK => ?_) AllReadyH.nil
                rw [if_pos (by rfl)]
                go_simp
                refine (HIS.out _ _ HT.out.cf).mono ?_
                rintro e w1 ⟨rfl, hb1⟩
                have HT1 := hide (HT.out.below hb1)
                have hq1 := Nat.lt_of_lt_of_le hpb hb1.size
                replace p1 := cell_below hb1 (Nat.le_refl _) hpb p1
                replace p2 := cell_below hb1 (Nat.le_refl _) hpb p2
                replace p3 := cell_below hb1 (Nat.le_refl _) hpb p3
                clear hHeld e0 e1 e2 e3 e4 e5 e6 e7 e8 e9 e10 e11 hl hll l0 l1 l2 hb1
                obtain ⟨⟨_, ⟨hl, e0, e1, e2, e3, e4, e5, e6, e7, e8, e9, e10, e11⟩, _, _⟩, ⟨hll, l0, l1, l2⟩, _, _⟩ := HT1.out
                dsimp only at e0 e1 e2 e3 e4 e5 e6 e7 e8 e9 e10 e11
                rw [HSO.out]
                refine hK.out _ _ (⟨e0, e1, e2, e3, e4, e5, e6, e7, e8, e9, e10, e11, l0, l1, l2, p2, p3⟩) (fun hHeld => ?_)
                clear hK K
                (try simp only [Act.put, sA, sZ, sS])
                refine tkW 35 (i := 4) (v := ?v1_4) rfl rfl (by kernel_rfl) (fun _ _ _ h => h) ?y1_4 (by assumption) ?r1_4
                case y1_4 => (intro W hSW; (try dsimp only at hSW); go_simp; (try with_reducible rfl))
                (try simp only [Act.put, sA, sZ, sS])
                refine tkW 36 (i := 5) (v := ?v1_5) rfl rfl (by kernel_rfl) (fun _ _ _ h => h) ?y1_5 (by assumption) ?r1_5
                case y1_5 => (intro W hSW; (try dsimp only at hSW); go_simp; (try with_reducible rfl))
                (try simp only [Act.put, sA, sZ, sS])
                refine tkW 37 (i := 6) (v := ?v1_6) rfl rfl (by kernel_rfl) (fun _ _ _ h => h) ?y1_6 (by assumption) ?r1_6
                case y1_6 => (intro W hSW; (try dsimp only at hSW); go_simp; (try with_reducible rfl))
                (try simp only [Act.put, sA, sZ, sS])
                refine tkW 38 (i := 7) (v := ?v1_7) rfl rfl (by kernel_rfl) (fun _ _ _ h => h) ?y1_7 (by assumption) ?r1_7
                case y1_7 => (intro W hSW; (try dsimp only at hSW); go_simp; (try with_reducible rfl))
                (try simp only [Act.put, sA, sZ, sS])
                refine tkW 39 (i := 8) (v := ?v1_8) rfl rfl (by kernel_rfl) (fun _ _ _ h => h) ?y1_8 (by assumption) ?r1_8
                case y1_8 => (intro W hSW; (try dsimp only at hSW); go_simp; (try with_reducible rfl))
                (try simp only [Act.put, sA, sZ, sS])
                refine tkW 40 (i := 9) (v := ?v1_9) rfl rfl (by kernel_rfl) (fun _ _ _ h => h) ?y1_9 (by assumption) ?r1_9
                case y1_9 => (intro W hSW; (try dsimp only at hSW); go_simp; (try with_reducible rfl))
                (try simp only [Act.put, sA, sZ, sS])
                refine tkW 41 (i := 10) (v := ?v1_10) rfl rfl (by kernel_rfl) (fun _ _ _ h => h) ?y1_10 (by assumption) ?r1_10
                case y1_10 => (intro W hSW; (try dsimp only at hSW); go_simp; (try with_reducible rfl))
                (try simp only [Act.put, sA, sZ, sS])
                refine tkW 42 (i := 11) (v := ?v1_11) rfl rfl (by kernel_rfl) (fun _ _ _ h => h) ?y1_11 (by assumption) ?r1_11
                case y1_11 => (intro W hSW; (try dsimp only at hSW); go_simp; (try with_reducible rfl))
                (try simp only [Act.put, sA, sZ, sS])
                refine tkW 43 (i := 12) (v := ?v1_12) rfl rfl (by kernel_rfl) (fun _ _ _ h => h) ?y1_12 (by assumption) ?r1_12
                case y1_12 => (intro W hSW; (try dsimp only at hSW); go_simp; (try with_reducible rfl))
                (try simp only [Act.put, sA, sZ, sS])
                refine tkW 44 (i := 13) (v := ?v1_13) rfl rfl (by kernel_rfl) (fun _ _ _ h => h) ?y1_13 (by assumption) ?r1_13
                case y1_13 => (intro W hSW; (try dsimp only at hSW); go_simp; (try with_reducible rfl))
                (try simp only [Act.put, sA, sZ, sS])
                refine tkW 45 (i := 14) (v := ?v1_14) rfl rfl (by kernel_rfl) (fun _ _ _ h => h) ?y1_14 (by assumption) ?r1_14
                case y1_14 => (intro W hSW; (try dsimp only at hSW); go_simp; (try with_reducible rfl))
                (try simp only [Act.put, sA, sZ, sS])
                refine tkW 46 (i := 15) (v := ?v1_15) rfl rfl (by kernel_rfl) (fun _ _ _ h => h) ?y1_15 (by assumption) ?r1_15
                case y1_15 => (intro W hSW; (try dsimp only at hSW); go_simp; (try with_reducible rfl))
                (try simp only [Act.put, sA, sZ, sS])
                refine tkW 47 (i := 16) (v := ?v1_16) rfl rfl (by kernel_rfl) (fun _ _ _ h => h) ?y1_16 (by assumption) ?r1_16
                case y1_16 => (intro W hSW; (try dsimp only at hSW); go_simp; (try with_reducible rfl))
                (try simp only [Act.put, sA, sZ, sS])
                refine tkW 48 (i := 17) (v := ?v1_17) rfl rfl (by kernel_rfl) (fun _ _ _ h => h) ?y1_17 (by assumption) ?r1_17
                case y1_17 => (intro W hSW; (try dsimp only at hSW); go_simp; (try with_reducible rfl))
                (try simp only [Act.put, sA, sZ, sS])
                refine tkW 49 (i := 18) (v := ?v1_18) rfl rfl (by kernel_rfl) (fun _ _ _ h => h) ?y1_18 (by assumption) ?r1_18
                case y1_18 => (intro W hSW; (try dsimp only at hSW); go_simp; (try with_reducible rfl))
                (try simp only [Act.put, sA, sZ, sS])
                refine tkW 50 (i := 19) (v := ?v1_19) rfl rfl (by kernel_rfl) (fun _ _ _ h => h) ?y1_19 (by assumption) ?r1_19
                case y1_19 => (intro W hSW; (try dsimp only at hSW); go_simp; (try with_reducible rfl))
                (try simp only [Act.put, sA, sZ, sS])
                refine tkW 51 (i := 20) (v := ?v1_20) rfl rfl (by kernel_rfl) (fun _ _ _ h => h) ?y1_20 (by assumption) ?r1_20
                case y1_20 => (intro W hSW; (try dsimp only at hSW); go_simp; (try with_reducible rfl))
                (try simp only [Act.put, sA, sZ, sS])
                refine tkW 52 (i := 21) (v := ?v1_21) rfl rfl (by kernel_rfl) (fun _ _ _ h => h) ?y1_21 (by assumption) ?r1_21
                case y1_21 => (intro W hSW; (try dsimp only at hSW); go_simp; (try with_reducible rfl))
                (try simp only [Act.put, sA, sZ, sS])
                refine tkU 53 (i := 22) rfl rfl (by kernel_rfl) (fun _ _ _ h => h) (by assumption) ?_
                (try simp only [Act.put, sA, sZ, sS])
                refine tkU 54 (i := 23) rfl rfl (by kernel_rfl) (fun _ _ _ h => h) (by assumption) ?_
                (try simp only [Act.put, sA, sZ, sS])
                refine tkU 55 (i := 24) rfl rfl (by kernel_rfl) (fun _ _ _ h => h) (by assumption) ?_
                (try simp only [Act.put, sA, sZ, sS])
                refine tkW 56 (i := 25) (v := ?v1_25) rfl rfl (by kernel_rfl) (fun _ _ _ h => h) ?y1_25 (by assumption) ?r1_25
                case y1_25 => (intro W hSW; (try dsimp only at hSW); go_simp; (try with_reducible rfl))
                (try simp only [Act.put, sA, sZ, sS])
                refine tkW 57 (i := 26) (v := ?v1_26) rfl rfl (by kernel_rfl) (fun _ _ _ h => h) ?y1_26 (by assumption) ?r1_26
                case y1_26 => (intro W hSW; (try dsimp only at hSW); go_simp; (try with_reducible rfl))
                (try simp only [Act.put, sA, sZ, sS])
                refine tkU 58 (i := 27) rfl rfl (by kernel_rfl) (fun _ _ _ h => h) (by assumption) ?_
                (try simp only [Act.put, sA, sZ, sS])
                refine tkU 59 (i := 28) rfl rfl (by kernel_rfl) (fun _ _ _ h => h) (by assumption) ?_
                (try simp only [Act.put, sA, sZ, sS])
                refine tkU 60 (i := 29) rfl rfl (by kernel_rfl) (fun _ _ _ h => h) (by assumption) ?_
                (try simp only [Act.put, sA, sZ, sS])
                refine tkW 61 (i := 30) (v := ?v1_30) rfl rfl (by kernel_rfl) (fun _ _ _ h => h) ?y1_30 (by assumption) ?r1_30
                case y1_30 => (intro W hSW; (try dsimp only at hSW); go_simp; (try with_reducible rfl))
                (try simp only [Act.put, sA, sZ, sS])
                refine tkW 62 (i := 31) (v := ?v1_31) rfl rfl (by kernel_rfl) (fun _ _ _ h => h) ?y1_31 (by assumption) ?r1_31
                case y1_31 => (intro W hSW; (try dsimp only at hSW); go_simp; (try with_reducible rfl))
                (try simp only [Act.put, sA, sZ, sS])
                refine tkU 63 (i := 32) rfl rfl (by kernel_rfl) (fun _ _ _ h => h) (by assumption) ?_
                (try simp only [Act.put, sA, sZ, sS])
                refine tkU 64 (i := 33) rfl rfl (by kernel_rfl) (fun _ _ _ h => h) (by assumption) ?_
                (try simp only [Act.put, sA, sZ, sS])
                refine tkU 65 (i := 34) rfl rfl (by kernel_rfl) (fun _ _ _ h => h) (by assumption) ?_
                (try simp only [Act.put, sA, sZ, sS])
                refine tkU 66 (i := 35) rfl rfl (by kernel_rfl) (fun _ _ _ h => h) (by assumption) ?_
                (try simp only [Act.put, sA, sZ, sS])
                refine tkU 67 (i := 36) rfl rfl (by kernel_rfl) (fun _ _ _ h => h) (by assumption) ?_
                (try simp only [Act.put, sA, sZ, sS])
                refine tkU 68 (i := 37) rfl rfl (by kernel_rfl) (fun _ _ _ h => h) (by assumption) ?_
                (try simp only [Act.put, sA, sZ, sS])
                refine tkU 69 (i := 38) rfl rfl (by kernel_rfl) (fun _ _ _ h => h) (by assumption) ?_
                (try simp only [Act.put, sA, sZ, sS])
                refine tkU 70 (i := 39) rfl rfl (by kernel_rfl) (fun _ _ _ h => h) (by assumption) ?_
                (try simp only [Act.put, sA, sZ, sS])
                refine tkU 71 (i := 40) rfl rfl (by kernel_rfl) (fun _ _ _ h => h) (by assumption) ?_
                (try simp only [Act.put, sA, sZ, sS])
                refine tkU 72 (i := 41) rfl rfl (by kernel_rfl) (fun _ _ _ h => h) (by assumption) ?_
                (try simp only [Act.put, sA, sZ, sS])
                refine tkU 73 (i := 42) rfl rfl (by kernel_rfl) (fun _ _ _ h => h) (by assumption) ?_
                (try simp only [Act.put, sA, sZ, sS])
                refine tkU 74 (i := 43) rfl rfl (by kernel_rfl) (fun _ _ _ h => h) (by assumption) ?_
                (try simp only [Act.put, sA, sZ, sS])
                refine tkW 75 (i := 44) (v := ?v1_44) rfl rfl (by kernel_rfl) (fun _ _ _ h => h) ?y1_44 (by assumption) ?r1_44
                case y1_44 => (intro W hSW; (try dsimp only at hSW); go_simp; (try with_reducible rfl))
                (try simp only [Act.put, sA, sZ, sS])
                refine wpAnyH_done (by kernel_rfl) ?_ _
                have HBB := hide HT1.out.cf.bel
                go_wp2_with fail
                go_ret
                exact ⟨by rw [HX.out]; rfl, HBB.out⟩
            · have n2 : ((dests.length : Int) == 0) = false := beq_eq_false_iff_ne.2 (by omega)
              by_cases c3 : 0 ≤ offset
              · have n3 : decide (offset < 0) = false := by simp; omega
                by_cases c5 : offset + 1 + size ≤ 64
                · have n4 : decide (64 < offset) = false := by simp; omega
                  have hw0 : IntKind.i64.wrap (offset + 1) = offset + 1 := by rw [IntKind.wrap_i64]; omega
                  have hw1 : IntKind.i64.wrap (offset + 1 + size) = offset + 1 + size := by rw [IntKind.wrap_i64]; omega
                  have n5 : decide (64 < offset + 1 + size) = false := by simp; omega
                  have HDO : Hid ((∀ k, k < dests.length → dk ⟨part, kind, 1, size, depth, fresh⟩ (dests.getD k 0)) → ok ⟨(sn : Int), dests, offset⟩) := fun g => HK2.out.2 ⟨rfl, fun e => c2 (by rw [e]; rfl), g, c3, c5⟩
                  have HDN : Hid (∀ k, k < dests.length → ¬ dk ⟨part, kind, 1, size, depth, fresh⟩ (dests.getD k 0) → ans = false) := fun k hk q => HF.out fun g => q ((HK2.out.1 g).2.2.1 k hk)
                  clear c2 c3 c5 hs1 hs2 v1 v2
                  as_aux_lemma =>
                    refine wp_region_held_drew (S := fun w' => w'.cell? ⟨w.heap.size, 0, none⟩ = some (.int .i64 nodes) ∧ w'.cell? ⟨w.heap.size, 1, none⟩ = some (.slice oA owners.length oC) ∧ w'.cell? ⟨w.heap.size, 2, none⟩ = some (.int .i64 drift) ∧ w'.cell? ⟨w.heap.size, 3, none⟩ = some (.int .i64 reading) ∧ w'.cell? ⟨w.heap.size, 4, none⟩ = some (.int .i64 margin) ∧ w'.cell? ⟨w.heap.size, 5, none⟩ = some (.int .i64 bound) ∧ w'.cell? ⟨w.heap.size, 6, none⟩ = some (.int .i64 rejoin) ∧ w'.cell? ⟨w.heap.size, 7, none⟩ = some (.int .i64 quota) ∧ w'.cell? ⟨w.heap.size, 8, none⟩ = some (.slice (pA) parts.length pC) ∧ w'.cell? ⟨w.heap.size, 9, none⟩ = some (.slice wA windows.length wC) ∧ w'.cell? ⟨w.heap.size, 10, none⟩ = some (.slice (some ⟨pb, po, none⟩) ports.length qC) ∧ w'.cell? ⟨w.heap.size, 11, none⟩ = some (.slice (some ⟨lb, lof, none⟩) links.length lC) ∧ w'.cell? ⟨wr.heap.size, 0, none⟩ = some (.int .i64 (sn : Int)) ∧ w'.cell? ⟨wr.heap.size, 1, none⟩ = some (.slice Ai dests.length ci) ∧ w'.cell? ⟨wr.heap.size, 2, none⟩ = some (.int .i64 offset) ∧ w'.cell? ⟨pb, po + sn * 6 + 2, none⟩ = some (.int .i64 1) ∧ w'.cell? ⟨pb, po + sn * 6 + 3, none⟩ = some (.int .i64 size)) (by kernel_rfl) (⟨e0, e1, e2, e3, e4, e5, e6, e7, e8, e9, e10, e11, l0, l1, l2, p2, p3⟩) (fun hHeld => ?_)
                    refine tkW 31 (i := 0) (v := ?v2_0) rfl rfl (by kernel_rfl) (fun _ _ _ h => h) ?y2_0 (by assumption) ?r2_0
                    case y2_0 => (intro W hSW; (try dsimp only at hSW); go_simp; (try with_reducible rfl))
                    (try simp only [Act.put, sA, sZ, sS])
                    refine tkW 32 (i := 1) (v := ?v2_1) rfl rfl (by kernel_rfl) (fun _ _ _ h => h) ?y2_1 (by assumption) ?r2_1
                    case y2_1 => (intro W hSW; (try dsimp only at hSW); go_simp; (try with_reducible rfl))
                    (try simp only [Act.put, sA, sZ, sS])
                    refine tkW 33 (i := 2) (v := ?v2_2) rfl rfl (by kernel_rfl) (fun _ _ _ h => h) ?y2_2 (by assumption) ?r2_2
                    case y2_2 => (intro W hSW; (try dsimp only at hSW); go_simp; (try with_reducible rfl))
                    (try simp only [Act.put, sA, sZ, sS])
                    refine wpAnyH_ready (rs := [3]) (by kernel_rfl) (by simp) ?_
                    refine AllReadyH.cons rfl (fun K hK => ?_) AllReadyH.nil
                    rw [if_pos (by rfl)]
                    go_simp
                    refine (HIS.out _ _ HT.out.cf).mono ?_
                    rintro e w1 ⟨rfl, hb1⟩
                    have HT1 := hide (HT.out.below hb1)
                    have hq1 := Nat.lt_of_lt_of_le hpb hb1.size
                    replace p1 := cell_below hb1 (Nat.le_refl _) hpb p1
                    replace p2 := cell_below hb1 (Nat.le_refl _) hpb p2
                    replace p3 := cell_below hb1 (Nat.le_refl _) hpb p3
                    clear hHeld e0 e1 e2 e3 e4 e5 e6 e7 e8 e9 e10 e11 hl hll l0 l1 l2 hb1
                    obtain ⟨⟨_, ⟨hl, e0, e1, e2, e3, e4, e5, e6, e7, e8, e9, e10, e11⟩, _, _⟩, ⟨hll, l0, l1, l2⟩, _, _⟩ := HT1.out
                    dsimp only at e0 e1 e2 e3 e4 e5 e6 e7 e8 e9 e10 e11
                    rw [HSO.out]
                    refine hK.out _ _ (⟨e0, e1, e2, e3, e4, e5, e6, e7, e8, e9, e10, e11, l0, l1, l2, p2, p3⟩) (fun hHeld => ?_)
                    clear hK K
                    (try simp only [Act.put, sA, sZ, sS])
                    refine tkW 35 (i := 4) (v := ?v2_4) rfl rfl (by kernel_rfl) (fun _ _ _ h => h) ?y2_4 (by assumption) ?r2_4
                    case y2_4 => (intro W hSW; (try dsimp only at hSW); go_simp; (try with_reducible rfl))
                    (try simp only [Act.put, sA, sZ, sS])
                    refine tkW 36 (i := 5) (v := ?v2_5) rfl rfl (by kernel_rfl) (fun _ _ _ h => h) ?y2_5 (by assumption) ?r2_5
                    case y2_5 => (intro W hSW; (try dsimp only at hSW); go_simp; (try with_reducible rfl))
                    (try simp only [Act.put, sA, sZ, sS])
                    refine tkW 37 (i := 6) (v := ?v2_6) rfl rfl (by kernel_rfl) (fun _ _ _ h => h) ?y2_6 (by assumption) ?r2_6
                    case y2_6 => (intro W hSW; (try dsimp only at hSW); go_simp; (try with_reducible rfl))
                    (try simp only [Act.put, sA, sZ, sS])
                    refine tkW 38 (i := 7) (v := ?v2_7) rfl rfl (by kernel_rfl) (fun _ _ _ h => h) ?y2_7 (by assumption) ?r2_7
                    case y2_7 => (intro W hSW; (try dsimp only at hSW); go_simp; (try with_reducible rfl))
                    (try simp only [Act.put, sA, sZ, sS])
                    refine tkW 39 (i := 8) (v := ?v2_8) rfl rfl (by kernel_rfl) (fun _ _ _ h => h) ?y2_8 (by assumption) ?r2_8
                    case y2_8 => (intro W hSW; (try dsimp only at hSW); go_simp; (try with_reducible rfl))
                    (try simp only [Act.put, sA, sZ, sS])
                    refine tkW 40 (i := 9) (v := ?v2_9) rfl rfl (by kernel_rfl) (fun _ _ _ h => h) ?y2_9 (by assumption) ?r2_9
                    case y2_9 => (intro W hSW; (try dsimp only at hSW); go_simp; (try with_reducible rfl))
                    (try simp only [Act.put, sA, sZ, sS])
                    refine tkW 41 (i := 10) (v := ?v2_10) rfl rfl (by kernel_rfl) (fun _ _ _ h => h) ?y2_10 (by assumption) ?r2_10
                    case y2_10 => (intro W hSW; (try dsimp only at hSW); go_simp; (try with_reducible rfl))
                    (try simp only [Act.put, sA, sZ, sS])
                    refine tkW 42 (i := 11) (v := ?v2_11) rfl rfl (by kernel_rfl) (fun _ _ _ h => h) ?y2_11 (by assumption) ?r2_11
                    case y2_11 => (intro W hSW; (try dsimp only at hSW); go_simp; (try with_reducible rfl))
                    (try simp only [Act.put, sA, sZ, sS])
                    refine tkW 43 (i := 12) (v := ?v2_12) rfl rfl (by kernel_rfl) (fun _ _ _ h => h) ?y2_12 (by assumption) ?r2_12
                    case y2_12 => (intro W hSW; (try dsimp only at hSW); go_simp; (try with_reducible rfl))
                    (try simp only [Act.put, sA, sZ, sS])
                    refine tkW 44 (i := 13) (v := ?v2_13) rfl rfl (by kernel_rfl) (fun _ _ _ h => h) ?y2_13 (by assumption) ?r2_13
                    case y2_13 => (intro W hSW; (try dsimp only at hSW); go_simp; (try with_reducible rfl))
                    (try simp only [Act.put, sA, sZ, sS])
                    refine tkW 45 (i := 14) (v := ?v2_14) rfl rfl (by kernel_rfl) (fun _ _ _ h => h) ?y2_14 (by assumption) ?r2_14
                    case y2_14 => (intro W hSW; (try dsimp only at hSW); go_simp; (try with_reducible rfl))
                    (try simp only [Act.put, sA, sZ, sS])
                    refine tkW 46 (i := 15) (v := ?v2_15) rfl rfl (by kernel_rfl) (fun _ _ _ h => h) ?y2_15 (by assumption) ?r2_15
                    case y2_15 => (intro W hSW; (try dsimp only at hSW); go_simp; (try with_reducible rfl))
                    (try simp only [Act.put, sA, sZ, sS])
                    refine tkW 47 (i := 16) (v := ?v2_16) rfl rfl (by kernel_rfl) (fun _ _ _ h => h) ?y2_16 (by assumption) ?r2_16
                    case y2_16 => (intro W hSW; (try dsimp only at hSW); go_simp; (try with_reducible rfl))
                    (try simp only [Act.put, sA, sZ, sS])
                    refine tkW 48 (i := 17) (v := ?v2_17) rfl rfl (by kernel_rfl) (fun _ _ _ h => h) ?y2_17 (by assumption) ?r2_17
                    case y2_17 => (intro W hSW; (try dsimp only at hSW); go_simp; (try with_reducible rfl))
                    (try simp only [Act.put, sA, sZ, sS])
                    refine tkW 49 (i := 18) (v := ?v2_18) rfl rfl (by kernel_rfl) (fun _ _ _ h => h) ?y2_18 (by assumption) ?r2_18
                    case y2_18 => (intro W hSW; (try dsimp only at hSW); go_simp; (try with_reducible rfl))
                    (try simp only [Act.put, sA, sZ, sS])
                    refine tkW 50 (i := 19) (v := ?v2_19) rfl rfl (by kernel_rfl) (fun _ _ _ h => h) ?y2_19 (by assumption) ?r2_19
                    case y2_19 => (intro W hSW; (try dsimp only at hSW); go_simp; (try with_reducible rfl))
                    (try simp only [Act.put, sA, sZ, sS])
                    refine tkW 51 (i := 20) (v := ?v2_20) rfl rfl (by kernel_rfl) (fun _ _ _ h => h) ?y2_20 (by assumption) ?r2_20
                    case y2_20 => (intro W hSW; (try dsimp only at hSW); go_simp; (try with_reducible rfl))
                    (try simp only [Act.put, sA, sZ, sS])
                    refine tkW 52 (i := 21) (v := ?v2_21) rfl rfl (by kernel_rfl) (fun _ _ _ h => h) ?y2_21 (by assumption) ?r2_21
                    case y2_21 => (intro W hSW; (try dsimp only at hSW); go_simp; (try with_reducible rfl))
                    (try simp only [Act.put, sA, sZ, sS])
                    refine tkW 53 (i := 22) (v := ?v2_22) rfl rfl (by kernel_rfl) (fun _ _ _ h => h) ?y2_22 (by assumption) ?r2_22
                    case y2_22 => (intro W hSW; (try dsimp only at hSW); go_simp; (try with_reducible rfl))
                    (try simp only [Act.put, sA, sZ, sS])
                    refine tkW 54 (i := 23) (v := ?v2_23) rfl rfl (by kernel_rfl) (fun _ _ _ h => h) ?y2_23 (by assumption) ?r2_23
                    case y2_23 => (intro W hSW; (try dsimp only at hSW); go_simp; (try with_reducible rfl))
                    (try simp only [Act.put, sA, sZ, sS])
                    refine tkW 55 (i := 24) (v := ?v2_24) rfl rfl (by kernel_rfl) (fun _ _ _ h => h) ?y2_24 (by assumption) ?r2_24
                    case y2_24 => (intro W hSW; (try dsimp only at hSW); go_simp; (try with_reducible rfl))
                    (try simp only [Act.put, sA, sZ, sS])
                    refine tkW 56 (i := 25) (v := ?v2_25) rfl rfl (by kernel_rfl) (fun _ _ _ h => h) ?y2_25 (by assumption) ?r2_25
                    case y2_25 => (intro W hSW; (try dsimp only at hSW); go_simp; (try with_reducible rfl))
                    (try simp only [Act.put, sA, sZ, sS])
                    refine tkW 57 (i := 26) (v := ?v2_26) rfl rfl (by kernel_rfl) (fun _ _ _ h => h) ?y2_26 (by assumption) ?r2_26
                    case y2_26 => (intro W hSW; (try dsimp only at hSW); go_simp; (try with_reducible rfl))
                    (try simp only [Act.put, sA, sZ, sS])
                    refine tkW 58 (i := 27) (v := ?v2_27) rfl rfl (by kernel_rfl) (fun _ _ _ h => h) ?y2_27 (by assumption) ?r2_27
                    case y2_27 => (intro W hSW; (try dsimp only at hSW); go_simp; (try with_reducible rfl))
                    (try simp only [Act.put, sA, sZ, sS])
                    refine tkW 59 (i := 28) (v := ?v2_28) rfl rfl (by kernel_rfl) (fun _ _ _ h => h) ?y2_28 (by assumption) ?r2_28
                    case y2_28 => (intro W hSW; (try dsimp only at hSW); go_simp; (try with_reducible rfl))
                    (try simp only [Act.put, sA, sZ, sS])
                    refine tkW 60 (i := 29) (v := ?v2_29) rfl rfl (by kernel_rfl) (fun _ _ _ h => h) ?y2_29 (by assumption) ?r2_29
                    case y2_29 => (intro W hSW; (try dsimp only at hSW); go_simp; (try with_reducible rfl))
                    (try simp only [Act.put, sA, sZ, sS])
                    refine tkW 61 (i := 30) (v := ?v2_30) rfl rfl (by kernel_rfl) (fun _ _ _ h => h) ?y2_30 (by assumption) ?r2_30
                    case y2_30 => (intro W hSW; (try dsimp only at hSW); go_simp; (try with_reducible rfl))
                    (try simp only [Act.put, sA, sZ, sS])
                    refine tkW 62 (i := 31) (v := ?v2_31) rfl rfl (by kernel_rfl) (fun _ _ _ h => h) ?y2_31 (by assumption) ?r2_31
                    case y2_31 => (intro W hSW; (try dsimp only at hSW); go_simp; (try with_reducible rfl))
                    (try simp only [Act.put, sA, sZ, sS])
                    refine tkW 63 (i := 32) (v := ?v2_32) rfl rfl (by kernel_rfl) (fun _ _ _ h => h) ?y2_32 (by assumption) ?r2_32
                    case y2_32 => (intro W hSW; (try dsimp only at hSW); go_simp; (try with_reducible rfl))
                    (try simp only [Act.put, sA, sZ, sS])
                    refine tkW 64 (i := 33) (v := ?v2_33) rfl rfl (by kernel_rfl) (fun _ _ _ h => h) ?y2_33 (by assumption) ?r2_33
                    case y2_33 => (intro W hSW; (try dsimp only at hSW); go_simp; (try with_reducible rfl))
                    (try simp only [Act.put, sA, sZ, sS])
                    refine tkW 65 (i := 34) (v := ?v2_34) rfl rfl (by kernel_rfl) (fun _ _ _ h => h) ?y2_34 (by assumption) ?r2_34
                    case y2_34 => (intro W hSW; (try dsimp only at hSW); go_simp; (try with_reducible rfl))
                    (try simp only [Act.put, sA, sZ, sS])
                    refine tkW 66 (i := 35) (v := ?v2_35) rfl rfl (by kernel_rfl) (fun _ _ _ h => h) ?y2_35 (by assumption) ?r2_35
                    case y2_35 => (intro W hSW; (try dsimp only at hSW); go_simp; (try with_reducible rfl))
                    (try simp only [Act.put, sA, sZ, sS])
                    refine tkW 67 (i := 36) (v := ?v2_36) rfl rfl (by kernel_rfl) (fun _ _ _ h => h) ?y2_36 (by assumption) ?r2_36
                    case y2_36 => (intro W hSW; (try dsimp only at hSW); go_simp; (try with_reducible rfl))
                    (try simp only [Act.put, sA, sZ, sS])
                    refine tkW 68 (i := 37) (v := ?v2_37) rfl rfl (by kernel_rfl) (fun _ _ _ h => h) ?y2_37 (by assumption) ?r2_37
                    case y2_37 => (intro W hSW; (try dsimp only at hSW); go_simp; (try with_reducible rfl))
                    (try simp only [Act.put, sA, sZ, sS])
                    refine tkW 69 (i := 38) (v := ?v2_38) rfl rfl (by kernel_rfl) (fun _ _ _ h => h) ?y2_38 (by assumption) ?r2_38
                    case y2_38 => (intro W hSW; (try dsimp only at hSW); go_simp; (try with_reducible rfl))
                    (try simp only [Act.put, sA, sZ, sS])
                    refine tkW 70 (i := 39) (v := ?v2_39) rfl rfl (by kernel_rfl) (fun _ _ _ h => h) ?y2_39 (by assumption) ?r2_39
                    case y2_39 => (intro W hSW; (try dsimp only at hSW); go_simp; (try with_reducible rfl))
                    (try simp only [Act.put, sA, sZ, sS])
                    refine tkW 71 (i := 40) (v := ?v2_40) rfl rfl (by kernel_rfl) (fun _ _ _ h => h) ?y2_40 (by assumption) ?r2_40
                    case y2_40 => (intro W hSW; (try dsimp only at hSW); go_simp; (try with_reducible rfl))
                    (try simp only [Act.put, sA, sZ, sS])
                    refine tkW 72 (i := 41) (v := ?v2_41) rfl rfl (by kernel_rfl) (fun _ _ _ h => h) ?y2_41 (by assumption) ?r2_41
                    case y2_41 => (intro W hSW; (try dsimp only at hSW); go_simp; (try with_reducible rfl))
                    (try simp only [Act.put, sA, sZ, sS])
                    refine tkW 73 (i := 42) (v := ?v2_42) rfl rfl (by kernel_rfl) (fun _ _ _ h => h) ?y2_42 (by assumption) ?r2_42
                    case y2_42 => (intro W hSW; (try dsimp only at hSW); go_simp; (try with_reducible rfl))
                    (try simp only [Act.put, sA, sZ, sS])
                    refine tkW 74 (i := 43) (v := ?v2_43) rfl rfl (by kernel_rfl) (fun _ _ _ h => h) ?y2_43 (by assumption) ?r2_43
                    case y2_43 => (intro W hSW; (try dsimp only at hSW); go_simp; (try with_reducible rfl))
                    (try simp only [Act.put, sA, sZ, sS])
                    refine tkW 75 (i := 44) (v := ?v2_44) rfl rfl (by kernel_rfl) (fun _ _ _ h => h) ?y2_44 (by assumption) ?r2_44
                    case y2_44 => (intro W hSW; (try dsimp only at hSW); go_simp; (try with_reducible rfl))
                    (try simp only [Act.put, sA, sZ, sS])
                    refine wpAnyH_done (by kernel_rfl) ?_ _
                    have HLN : Hid ((nm k).length ≤ 2000) := by show _ ≤ _; omega
                    have HNL : Hid ((nm k).length ≤ 64) := by show _ ≤ _; omega
                    go_wp2_with (refine wpList_oneB _ rfl (.tmp 76) (.tmp 79) 22 rfl 3 (.int .i64 0) 1 8 Tryd.underlying22 info_num rfl (by omega) (by omega) (w.heap.size + 1) _ _ _ rfl (HT1.out.us.alloc (.cells #[.int .i64 (sn : Int)] 3)) w1.heap.size 1 [.int .i64 (sn : Int)] rfl (heap_alloc_new w1 _) rfl (by simp [Value.oneCell']) (by have := HLN.out; omega) (by have := HT1.out.cf.x.lt; have := alloc_lt w1 (.cells #[.int .i64 (sn : Int)] 3); omega) ?_; intro v' w2 how hgr hor; obtain ⟨vA, vC, rfl, _, _, _⟩ := ownsRow.slice how; have hP := UsS.push HG0.out HC0.out HT1.out 3 how hgr hor; have HT2 := hide hP; clear how hgr hor hP)
                    clear e0 e1 e2 e3 e4 e5 e6 e7 e8 e9 e10 e11 hl hll l0 l1 l2 p1 p2 p3 HT1 HT n2 n3 n4 n5 hw0 hw1
                    generalize wr.heap.size = lb0 at HT2 ⊢
                    go_loopw [2, 3, 6, 7] (fun _ u i _ W => ∃ t : Nat, t ≤ dests.length ∧ i = .int .i64 t ∧ UsS w W ⟨nodes, owners, drift, reading, margin, bound, rejoin, quota, parts, windows, ports, links⟩ ⟨oA, oC, pA, pC, wA, wC, some ⟨pb, po, none⟩, qC, some ⟨lb, lof, none⟩, lC⟩ lb0 (sn : Int) Ai dests.length ci offset u (nm k ++ ((sn : Int) :: dests.take t)) ∧ Hid (∀ j, j < t → dk ⟨part, kind, 1, size, depth, fresh⟩ (dests.getD j 0))) (fun _ _ i _ _ => dests.length - (intOf i).toNat)
                    case atStart => exact ⟨0, by omega, rfl, by simpa using HT2.out, fun j hj => by omega⟩
                    case round =>
                      obtain ⟨t, ht, rfl, hT, HJ⟩ := hrel
                      clear HT2
                      have hxl : (nm k ++ ((sn : Int) :: dests.take t)).length = (nm k).length + 1 + t := by simp only [List.length_append, List.length_cons, List.length_take]; omega
                      obtain ⟨xs, hxs⟩ : ∃ xs, nm k ++ ((sn : Int) :: dests.take t) = xs := ⟨_, rfl⟩
                      have HXS := hide hxs
                      rw [hxs] at hT hxl
                      clear hxs
                      obtain ⟨uA, uC, rfl, _, _, _⟩ := ownsRow.slice hT.us
                      have HT := hide hT
                      obtain ⟨⟨hb, ⟨hl, e0, e1, e2, e3, e4, e5, e6, e7, e8, e9, e10, e11⟩, hg, hc⟩, ⟨hll, l0, l1, l2⟩, hU, hne⟩ := id hT
                      dsimp only at e0 e1 e2 e3 e4 e5 e6 e7 e8 e9 e10 e11
                      have HPS := hide hc.ports
                      try dsimp only at HPS
                      have HXL := hide hxl
                      clear hT hU hne hg hc hxl
                      by_cases htl : t < dests.length
                      · obtain ⟨ab, ao, hAi, hab, g0⟩ := (HI0.out.of_below hb (Nat.le_refl _)).at htl
                        subst hAi
                        have HNT : Hid (nm k ++ ((sn : Int) :: dests.take (t + 1)) = xs ++ [dests.getD t 0]) := by
                          show _ = _
                          rw [← HXS.out, List.take_succ_eq_append_getElem htl, List.getD_eq_getElem?_getD, List.getElem?_eq_getElem htl]
                          simp
                        obtain ⟨z, hz⟩ : ∃ z, dests.getD t 0 = z := ⟨_, rfl⟩
                        rw [hz] at g0
                        have HZ := hide hz
                        have HF2 : Hid (¬ dk ⟨part, kind, 1, size, depth, fresh⟩ z → ans = false) := fun g => HDN.out t htl (by rw [HZ.out]; exact g)
                        have HN2 : Hid (dk ⟨part, kind, 1, size, depth, fresh⟩ z → ∀ j, j < t + 1 → dk ⟨part, kind, 1, size, depth, fresh⟩ (dests.getD j 0)) := fun g j hj => by
                          rcases Nat.lt_succ_iff_lt_or_eq.1 hj with h5 | rfl
                          · exact HJ.out j h5
                          · rw [HZ.out]; exact g
                        have HD2 := hide (HDk.out ⟨part, kind, 1, size, depth, fresh⟩ z)
                        dsimp only at HD2
                        obtain ⟨q0, q1, q2, q3, q4, q5⟩ := HPS.out.here hsn
                        rw [HPO.out] at q1 q3
                        dsimp only at q1 q3
                        have HTD := hide (HT.out.below (Below.refl _ _).drew)
                        clear hz q0 q2 q4 q5
                        go_upto_region 15 with fail
                        by_cases hzo : ofB z ports.length = true
                        · have HZO := hide hzo
                          have hz2 := hzo
                          simp only [ofB, Bool.and_eq_true, decide_eq_true_eq] at hz2
                          obtain ⟨y1, y2⟩ := hz2
                          obtain ⟨zn, rfl⟩ := Int.eq_ofNat_of_zero_le y1
                          have hzn : zn < ports.length := by omega
                          obtain ⟨zpb, zpo, hA, hpl0, _⟩ := HPS.out.at hzn
                          injection hA with hA
                          injection hA with hA1 hA2
                          subst hA1 hA2
                          have HPL := hide hpl0
                          obtain ⟨z0, z1, z2, z3, z4, z5⟩ := HPS.out.here hzn
                          obtain ⟨⟨zpart, zkind, zdir, zsize, zdepth, zfresh⟩, hzp⟩ : ∃ p, ports.getD zn default = p := ⟨_, rfl⟩
                          rw [hzp] at z1 z2 z3
                          dsimp only at z1 z2 z3
                          have HD3 : Hid (dk ⟨part, kind, 1, size, depth, fresh⟩ (zn : Int) ↔ zdir = 2 ∧ zkind = kind ∧ zsize = size) := by
                            have := HD2.out
                            rw [Int.toNat_natCast, hzp] at this
                            exact ⟨fun g => (this.1 g).2, fun g => this.2 ⟨HZO.out, g⟩⟩
                          clear hzo hzp z0 z4 z5 hpl0
                          by_cases d1 : zdir = 2
                          · subst d1
                            by_cases d2 : zkind = kind
                            · subst d2
                              by_cases d3 : zsize = size
                              · subst d3
                                have HX := hide (HN2.out (HD3.out.2 ⟨rfl, rfl, rfl⟩))
                                have HLN : Hid (xs.length ≤ 17592186044200) := by show _ ≤ _; rw [HXL.out]; have := HDL.out; have := HNL.out; omega
                                as_aux_lemma =>
                                  refine wp_region_held_drew (S := fun w' => w'.cell? ⟨w.heap.size, 0, none⟩ = some (.int .i64 nodes) ∧ w'.cell? ⟨w.heap.size, 1, none⟩ = some (.slice oA owners.length oC) ∧ w'.cell? ⟨w.heap.size, 2, none⟩ = some (.int .i64 drift) ∧ w'.cell? ⟨w.heap.size, 3, none⟩ = some (.int .i64 reading) ∧ w'.cell? ⟨w.heap.size, 4, none⟩ = some (.int .i64 margin) ∧ w'.cell? ⟨w.heap.size, 5, none⟩ = some (.int .i64 bound) ∧ w'.cell? ⟨w.heap.size, 6, none⟩ = some (.int .i64 rejoin) ∧ w'.cell? ⟨w.heap.size, 7, none⟩ = some (.int .i64 quota) ∧ w'.cell? ⟨w.heap.size, 8, none⟩ = some (.slice (pA) parts.length pC) ∧ w'.cell? ⟨w.heap.size, 9, none⟩ = some (.slice wA windows.length wC) ∧ w'.cell? ⟨w.heap.size, 10, none⟩ = some (.slice (some ⟨pb, po, none⟩) ports.length qC) ∧ w'.cell? ⟨w.heap.size, 11, none⟩ = some (.slice (some ⟨lb, lof, none⟩) links.length lC) ∧ w'.cell? ⟨lb0, 0, none⟩ = some (.int .i64 (sn : Int)) ∧ w'.cell? ⟨pb, po + sn * 6 + 1, none⟩ = some (.int .i64 zkind) ∧ w'.cell? ⟨pb, po + sn * 6 + 3, none⟩ = some (.int .i64 zsize) ∧ w'.cell? ⟨pb, po + zn * 6 + 1, none⟩ = some (.int .i64 zkind) ∧ w'.cell? ⟨pb, po + zn * 6 + 2, none⟩ = some (.int .i64 2) ∧ w'.cell? ⟨pb, po + zn * 6 + 3, none⟩ = some (.int .i64 zsize)) (by kernel_rfl) (⟨e0, e1, e2, e3, e4, e5, e6, e7, e8, e9, e10, e11, l0, q1, q3, z1, z2, z3⟩) (fun hHeld => ?_)
                                  refine tkW 93 (i := 0) (v := ?v3_0) rfl rfl (by kernel_rfl) (fun _ _ _ h => h) ?y3_0 (by assumption) ?r3_0
                                  case y3_0 => (intro W hSW; (try dsimp only at hSW); go_simp; (try with_reducible rfl))
                                  (try simp only [Act.put, sA, sZ, sS])
                                  refine tkW 94 (i := 1) (v := ?v3_1) rfl rfl (by kernel_rfl) (fun _ _ _ h => h) ?y3_1 (by assumption) ?r3_1
                                  case y3_1 => (intro W hSW; (try dsimp only at hSW); go_simp; (try with_reducible rfl))
                                  (try simp only [Act.put, sA, sZ, sS])
                                  refine wpAnyH_ready (rs := [2]) (by kernel_rfl) (by simp) ?_
                                  refine AllReadyH.cons rfl (fun K hK => ?_) AllReadyH.nil
                                  rw [if_pos (by rfl)]
                                  go_simp
                                  refine (HIS.out _ _ HTD.out.cf).mono ?_
                                  rintro e w1 ⟨rfl, hb1⟩
                                  have HT1 := hide (HTD.out.below hb1)
                                  have hpl := HPL.out
                                  replace q1 := cell_below hb1 (Nat.le_refl _) hpl q1
                                  replace q3 := cell_below hb1 (Nat.le_refl _) hpl q3
                                  replace z1 := cell_below hb1 (Nat.le_refl _) hpl z1
                                  replace z2 := cell_below hb1 (Nat.le_refl _) hpl z2
                                  replace z3 := cell_below hb1 (Nat.le_refl _) hpl z3
                                  clear hHeld e0 e1 e2 e3 e4 e5 e6 e7 e8 e9 e10 e11 hl hll l0 l1 l2 hb1 hpl
                                  obtain ⟨⟨_, ⟨hl, e0, e1, e2, e3, e4, e5, e6, e7, e8, e9, e10, e11⟩, _, _⟩, ⟨hll, l0, l1, l2⟩, _, _⟩ := HT1.out
                                  dsimp only at e0 e1 e2 e3 e4 e5 e6 e7 e8 e9 e10 e11
                                  rw [HZO.out]
                                  refine hK.out _ _ (⟨e0, e1, e2, e3, e4, e5, e6, e7, e8, e9, e10, e11, l0, q1, q3, z1, z2, z3⟩) (fun hHeld => ?_)
                                  clear hK K
                                  (try simp only [Act.put, sA, sZ, sS])
                                  refine tkW 96 (i := 3) (v := ?v3_3) rfl rfl (by kernel_rfl) (fun _ _ _ h => h) ?y3_3 (by assumption) ?r3_3
                                  case y3_3 => (intro W hSW; (try dsimp only at hSW); go_simp; (try with_reducible rfl))
                                  (try simp only [Act.put, sA, sZ, sS])
                                  refine tkW 97 (i := 4) (v := ?v3_4) rfl rfl (by kernel_rfl) (fun _ _ _ h => h) ?y3_4 (by assumption) ?r3_4
                                  case y3_4 => (intro W hSW; (try dsimp only at hSW); go_simp; (try with_reducible rfl))
                                  (try simp only [Act.put, sA, sZ, sS])
                                  refine tkW 98 (i := 5) (v := ?v3_5) rfl rfl (by kernel_rfl) (fun _ _ _ h => h) ?y3_5 (by assumption) ?r3_5
                                  case y3_5 => (intro W hSW; (try dsimp only at hSW); go_simp; (try with_reducible rfl))
                                  (try simp only [Act.put, sA, sZ, sS])
                                  refine tkW 99 (i := 6) (v := ?v3_6) rfl rfl (by kernel_rfl) (fun _ _ _ h => h) ?y3_6 (by assumption) ?r3_6
                                  case y3_6 => (intro W hSW; (try dsimp only at hSW); go_simp; (try with_reducible rfl))
                                  (try simp only [Act.put, sA, sZ, sS])
                                  refine tkW 100 (i := 7) (v := ?v3_7) rfl rfl (by kernel_rfl) (fun _ _ _ h => h) ?y3_7 (by assumption) ?r3_7
                                  case y3_7 => (intro W hSW; (try dsimp only at hSW); go_simp; (try with_reducible rfl))
                                  (try simp only [Act.put, sA, sZ, sS])
                                  refine tkW 101 (i := 8) (v := ?v3_8) rfl rfl (by kernel_rfl) (fun _ _ _ h => h) ?y3_8 (by assumption) ?r3_8
                                  case y3_8 => (intro W hSW; (try dsimp only at hSW); go_simp; (try with_reducible rfl))
                                  (try simp only [Act.put, sA, sZ, sS])
                                  refine tkW 102 (i := 9) (v := ?v3_9) rfl rfl (by kernel_rfl) (fun _ _ _ h => h) ?y3_9 (by assumption) ?r3_9
                                  case y3_9 => (intro W hSW; (try dsimp only at hSW); go_simp; (try with_reducible rfl))
                                  (try simp only [Act.put, sA, sZ, sS])
                                  refine tkW 103 (i := 10) (v := ?v3_10) rfl rfl (by kernel_rfl) (fun _ _ _ h => h) ?y3_10 (by assumption) ?r3_10
                                  case y3_10 => (intro W hSW; (try dsimp only at hSW); go_simp; (try with_reducible rfl))
                                  (try simp only [Act.put, sA, sZ, sS])
                                  refine tkW 104 (i := 11) (v := ?v3_11) rfl rfl (by kernel_rfl) (fun _ _ _ h => h) ?y3_11 (by assumption) ?r3_11
                                  case y3_11 => (intro W hSW; (try dsimp only at hSW); go_simp; (try with_reducible rfl))
                                  (try simp only [Act.put, sA, sZ, sS])
                                  refine tkW 105 (i := 12) (v := ?v3_12) rfl rfl (by kernel_rfl) (fun _ _ _ h => h) ?y3_12 (by assumption) ?r3_12
                                  case y3_12 => (intro W hSW; (try dsimp only at hSW); go_simp; (try with_reducible rfl))
                                  (try simp only [Act.put, sA, sZ, sS])
                                  refine tkW 106 (i := 13) (v := ?v3_13) rfl rfl (by kernel_rfl) (fun _ _ _ h => h) ?y3_13 (by assumption) ?r3_13
                                  case y3_13 => (intro W hSW; (try dsimp only at hSW); go_simp; (try with_reducible rfl))
                                  (try simp only [Act.put, sA, sZ, sS])
                                  refine tkW 107 (i := 14) (v := ?v3_14) rfl rfl (by kernel_rfl) (fun _ _ _ h => h) ?y3_14 (by assumption) ?r3_14
                                  case y3_14 => (intro W hSW; (try dsimp only at hSW); go_simp; (try with_reducible rfl))
                                  (try simp only [Act.put, sA, sZ, sS])
                                  refine tkW 108 (i := 15) (v := ?v3_15) rfl rfl (by kernel_rfl) (fun _ _ _ h => h) ?y3_15 (by assumption) ?r3_15
                                  case y3_15 => (intro W hSW; (try dsimp only at hSW); go_simp; (try with_reducible rfl))
                                  (try simp only [Act.put, sA, sZ, sS])
                                  refine tkW 109 (i := 16) (v := ?v3_16) rfl rfl (by kernel_rfl) (fun _ _ _ h => h) ?y3_16 (by assumption) ?r3_16
                                  case y3_16 => (intro W hSW; (try dsimp only at hSW); go_simp; (try with_reducible rfl))
                                  (try simp only [Act.put, sA, sZ, sS])
                                  refine tkW 110 (i := 17) (v := ?v3_17) rfl rfl (by kernel_rfl) (fun _ _ _ h => h) ?y3_17 (by assumption) ?r3_17
                                  case y3_17 => (intro W hSW; (try dsimp only at hSW); go_simp; (try with_reducible rfl))
                                  (try simp only [Act.put, sA, sZ, sS])
                                  refine tkW 111 (i := 18) (v := ?v3_18) rfl rfl (by kernel_rfl) (fun _ _ _ h => h) ?y3_18 (by assumption) ?r3_18
                                  case y3_18 => (intro W hSW; (try dsimp only at hSW); go_simp; (try with_reducible rfl))
                                  (try simp only [Act.put, sA, sZ, sS])
                                  refine tkW 112 (i := 19) (v := ?v3_19) rfl rfl (by kernel_rfl) (fun _ _ _ h => h) ?y3_19 (by assumption) ?r3_19
                                  case y3_19 => (intro W hSW; (try dsimp only at hSW); go_simp; (try with_reducible rfl))
                                  (try simp only [Act.put, sA, sZ, sS])
                                  refine tkW 113 (i := 20) (v := ?v3_20) rfl rfl (by kernel_rfl) (fun _ _ _ h => h) ?y3_20 (by assumption) ?r3_20
                                  case y3_20 => (intro W hSW; (try dsimp only at hSW); go_simp; (try with_reducible rfl))
                                  (try simp only [Act.put, sA, sZ, sS])
                                  refine tkW 114 (i := 21) (v := ?v3_21) rfl rfl (by kernel_rfl) (fun _ _ _ h => h) ?y3_21 (by assumption) ?r3_21
                                  case y3_21 => (intro W hSW; (try dsimp only at hSW); go_simp; (try with_reducible rfl))
                                  (try simp only [Act.put, sA, sZ, sS])
                                  refine tkW 115 (i := 22) (v := ?v3_22) rfl rfl (by kernel_rfl) (fun _ _ _ h => h) ?y3_22 (by assumption) ?r3_22
                                  case y3_22 => (intro W hSW; (try dsimp only at hSW); go_simp; (try with_reducible rfl))
                                  (try simp only [Act.put, sA, sZ, sS])
                                  refine tkW 116 (i := 23) (v := ?v3_23) rfl rfl (by kernel_rfl) (fun _ _ _ h => h) ?y3_23 (by assumption) ?r3_23
                                  case y3_23 => (intro W hSW; (try dsimp only at hSW); go_simp; (try with_reducible rfl))
                                  (try simp only [Act.put, sA, sZ, sS])
                                  refine tkW 117 (i := 24) (v := ?v3_24) rfl rfl (by kernel_rfl) (fun _ _ _ h => h) ?y3_24 (by assumption) ?r3_24
                                  case y3_24 => (intro W hSW; (try dsimp only at hSW); go_simp; (try with_reducible rfl))
                                  (try simp only [Act.put, sA, sZ, sS])
                                  refine tkW 118 (i := 25) (v := ?v3_25) rfl rfl (by kernel_rfl) (fun _ _ _ h => h) ?y3_25 (by assumption) ?r3_25
                                  case y3_25 => (intro W hSW; (try dsimp only at hSW); go_simp; (try with_reducible rfl))
                                  (try simp only [Act.put, sA, sZ, sS])
                                  refine tkW 119 (i := 26) (v := ?v3_26) rfl rfl (by kernel_rfl) (fun _ _ _ h => h) ?y3_26 (by assumption) ?r3_26
                                  case y3_26 => (intro W hSW; (try dsimp only at hSW); go_simp; (try with_reducible rfl))
                                  (try simp only [Act.put, sA, sZ, sS])
                                  refine tkW 120 (i := 27) (v := ?v3_27) rfl rfl (by kernel_rfl) (fun _ _ _ h => h) ?y3_27 (by assumption) ?r3_27
                                  case y3_27 => (intro W hSW; (try dsimp only at hSW); go_simp; (try with_reducible rfl))
                                  (try simp only [Act.put, sA, sZ, sS])
                                  refine tkW 121 (i := 28) (v := ?v3_28) rfl rfl (by kernel_rfl) (fun _ _ _ h => h) ?y3_28 (by assumption) ?r3_28
                                  case y3_28 => (intro W hSW; (try dsimp only at hSW); go_simp; (try with_reducible rfl))
                                  (try simp only [Act.put, sA, sZ, sS])
                                  refine tkW 122 (i := 29) (v := ?v3_29) rfl rfl (by kernel_rfl) (fun _ _ _ h => h) ?y3_29 (by assumption) ?r3_29
                                  case y3_29 => (intro W hSW; (try dsimp only at hSW); go_simp; (try with_reducible rfl))
                                  (try simp only [Act.put, sA, sZ, sS])
                                  refine tkW 123 (i := 30) (v := ?v3_30) rfl rfl (by kernel_rfl) (fun _ _ _ h => h) ?y3_30 (by assumption) ?r3_30
                                  case y3_30 => (intro W hSW; (try dsimp only at hSW); go_simp; (try with_reducible rfl))
                                  (try simp only [Act.put, sA, sZ, sS])
                                  refine tkW 124 (i := 31) (v := ?v3_31) rfl rfl (by kernel_rfl) (fun _ _ _ h => h) ?y3_31 (by assumption) ?r3_31
                                  case y3_31 => (intro W hSW; (try dsimp only at hSW); go_simp; (try with_reducible rfl))
                                  (try simp only [Act.put, sA, sZ, sS])
                                  refine tkW 125 (i := 32) (v := ?v3_32) rfl rfl (by kernel_rfl) (fun _ _ _ h => h) ?y3_32 (by assumption) ?r3_32
                                  case y3_32 => (intro W hSW; (try dsimp only at hSW); go_simp; (try with_reducible rfl))
                                  (try simp only [Act.put, sA, sZ, sS])
                                  refine tkW 126 (i := 33) (v := ?v3_33) rfl rfl (by kernel_rfl) (fun _ _ _ h => h) ?y3_33 (by assumption) ?r3_33
                                  case y3_33 => (intro W hSW; (try dsimp only at hSW); go_simp; (try with_reducible rfl))
                                  (try simp only [Act.put, sA, sZ, sS])
                                  refine tkW 127 (i := 34) (v := ?v3_34) rfl rfl (by kernel_rfl) (fun _ _ _ h => h) ?y3_34 (by assumption) ?r3_34
                                  case y3_34 => (intro W hSW; (try dsimp only at hSW); go_simp; (try with_reducible rfl))
                                  (try simp only [Act.put, sA, sZ, sS])
                                  refine tkW 128 (i := 35) (v := ?v3_35) rfl rfl (by kernel_rfl) (fun _ _ _ h => h) ?y3_35 (by assumption) ?r3_35
                                  case y3_35 => (intro W hSW; (try dsimp only at hSW); go_simp; (try with_reducible rfl))
                                  (try simp only [Act.put, sA, sZ, sS])
                                  refine tkW 129 (i := 36) (v := ?v3_36) rfl rfl (by kernel_rfl) (fun _ _ _ h => h) ?y3_36 (by assumption) ?r3_36
                                  case y3_36 => (intro W hSW; (try dsimp only at hSW); go_simp; (try with_reducible rfl))
                                  (try simp only [Act.put, sA, sZ, sS])
                                  refine tkW 130 (i := 37) (v := ?v3_37) rfl rfl (by kernel_rfl) (fun _ _ _ h => h) ?y3_37 (by assumption) ?r3_37
                                  case y3_37 => (intro W hSW; (try dsimp only at hSW); go_simp; (try with_reducible rfl))
                                  (try simp only [Act.put, sA, sZ, sS])
                                  refine tkW 131 (i := 38) (v := ?v3_38) rfl rfl (by kernel_rfl) (fun _ _ _ h => h) ?y3_38 (by assumption) ?r3_38
                                  case y3_38 => (intro W hSW; (try dsimp only at hSW); go_simp; (try with_reducible rfl))
                                  (try simp only [Act.put, sA, sZ, sS])
                                  refine tkW 132 (i := 39) (v := ?v3_39) rfl rfl (by kernel_rfl) (fun _ _ _ h => h) ?y3_39 (by assumption) ?r3_39
                                  case y3_39 => (intro W hSW; (try dsimp only at hSW); go_simp; (try with_reducible rfl))
                                  (try simp only [Act.put, sA, sZ, sS])
                                  refine tkW 133 (i := 40) (v := ?v3_40) rfl rfl (by kernel_rfl) (fun _ _ _ h => h) ?y3_40 (by assumption) ?r3_40
                                  case y3_40 => (intro W hSW; (try dsimp only at hSW); go_simp; (try with_reducible rfl))
                                  (try simp only [Act.put, sA, sZ, sS])
                                  refine tkW 134 (i := 41) (v := ?v3_41) rfl rfl (by kernel_rfl) (fun _ _ _ h => h) ?y3_41 (by assumption) ?r3_41
                                  case y3_41 => (intro W hSW; (try dsimp only at hSW); go_simp; (try with_reducible rfl))
                                  (try simp only [Act.put, sA, sZ, sS])
                                  refine tkW 135 (i := 42) (v := ?v3_42) rfl rfl (by kernel_rfl) (fun _ _ _ h => h) ?y3_42 (by assumption) ?r3_42
                                  case y3_42 => (intro W hSW; (try dsimp only at hSW); go_simp; (try with_reducible rfl))
                                  (try simp only [Act.put, sA, sZ, sS])
                                  refine tkW 136 (i := 43) (v := ?v3_43) rfl rfl (by kernel_rfl) (fun _ _ _ h => h) ?y3_43 (by assumption) ?r3_43
                                  case y3_43 => (intro W hSW; (try dsimp only at hSW); go_simp; (try with_reducible rfl))
                                  (try simp only [Act.put, sA, sZ, sS])
                                  refine tkW 137 (i := 44) (v := ?v3_44) rfl rfl (by kernel_rfl) (fun _ _ _ h => h) ?y3_44 (by assumption) ?r3_44
                                  case y3_44 => (intro W hSW; (try dsimp only at hSW); go_simp; (try with_reducible rfl))
                                  (try simp only [Act.put, sA, sZ, sS])
                                  refine wpAnyH_done (by kernel_rfl) ?_ _
                                  go_wp2_with (refine wpList_oneB _ rfl (.tmp 138) (.tmp 140) 22 rfl 3 (.int .i64 0) 1 8 Tryd.underlying22 info_num rfl (by omega) (by omega) (w.heap.size + 1) _ _ _ rfl (HT1.out.us.alloc (.cells #[.int .i64 (zn : Int)] 3)) w1.heap.size 1 [.int .i64 (zn : Int)] rfl (heap_alloc_new w1 _) rfl (by simp [Value.oneCell']) (by have := HLN.out; omega) (by have := HT1.out.cf.x.lt; have := alloc_lt w1 (.cells #[.int .i64 (zn : Int)] 3); omega) ?_; intro v' w2 how hgr hor; obtain ⟨vA, vC, rfl, _, _, _⟩ := ownsRow.slice how; have hP := UsS.push HG0.out HC0.out HT1.out 3 how hgr hor; have HT2 := hide hP; clear how hgr hor hP)
                                  go_roundw
                                  case rel => exact ⟨t + 1, by omega, by go_num, by rw [HNT.out, HZ.out]; exact HT2.out, HX⟩
                                  case measure => simp [intOf]; omega
                              · have n3 : (zsize != size) = true := by simpa using d3
                                have HX := hide (HF2.out (fun g => d3 (HD3.out.1 g).2.2))
                                as_aux_lemma =>
                                  refine wp_region_held_drew (S := fun w' => w'.cell? ⟨w.heap.size, 0, none⟩ = some (.int .i64 nodes) ∧ w'.cell? ⟨w.heap.size, 1, none⟩ = some (.slice oA owners.length oC) ∧ w'.cell? ⟨w.heap.size, 2, none⟩ = some (.int .i64 drift) ∧ w'.cell? ⟨w.heap.size, 3, none⟩ = some (.int .i64 reading) ∧ w'.cell? ⟨w.heap.size, 4, none⟩ = some (.int .i64 margin) ∧ w'.cell? ⟨w.heap.size, 5, none⟩ = some (.int .i64 bound) ∧ w'.cell? ⟨w.heap.size, 6, none⟩ = some (.int .i64 rejoin) ∧ w'.cell? ⟨w.heap.size, 7, none⟩ = some (.int .i64 quota) ∧ w'.cell? ⟨w.heap.size, 8, none⟩ = some (.slice (pA) parts.length pC) ∧ w'.cell? ⟨w.heap.size, 9, none⟩ = some (.slice wA windows.length wC) ∧ w'.cell? ⟨w.heap.size, 10, none⟩ = some (.slice (some ⟨pb, po, none⟩) ports.length qC) ∧ w'.cell? ⟨w.heap.size, 11, none⟩ = some (.slice (some ⟨lb, lof, none⟩) links.length lC) ∧ w'.cell? ⟨lb0, 0, none⟩ = some (.int .i64 (sn : Int)) ∧ w'.cell? ⟨pb, po + sn * 6 + 1, none⟩ = some (.int .i64 zkind) ∧ w'.cell? ⟨pb, po + sn * 6 + 3, none⟩ = some (.int .i64 size) ∧ w'.cell? ⟨pb, po + zn * 6 + 1, none⟩ = some (.int .i64 zkind) ∧ w'.cell? ⟨pb, po + zn * 6 + 2, none⟩ = some (.int .i64 2) ∧ w'.cell? ⟨pb, po + zn * 6 + 3, none⟩ = some (.int .i64 zsize)) (by kernel_rfl) (⟨e0, e1, e2, e3, e4, e5, e6, e7, e8, e9, e10, e11, l0, q1, q3, z1, z2, z3⟩) (fun hHeld => ?_)
                                  refine tkW 93 (i := 0) (v := ?v4_0) rfl rfl (by kernel_rfl) (fun _ _ _ h => h) ?y4_0 (by assumption) ?r4_0
                                  case y4_0 => (intro W hSW; (try dsimp only at hSW); go_simp; (try with_reducible rfl))
                                  (try simp only [Act.put, sA, sZ, sS])
                                  refine tkW 94 (i := 1) (v := ?v4_1) rfl rfl (by kernel_rfl) (fun _ _ _ h => h) ?y4_1 (by assumption) ?r4_1
                                  case y4_1 => (intro W hSW; (try dsimp only at hSW); go_simp; (try with_reducible rfl))
                                  (try simp only [Act.put, sA, sZ, sS])
                                  refine wpAnyH_ready (rs := [2]) (by kernel_rfl) (by simp) ?_
                                  refine AllReadyH.cons rfl (fun K hK => ?_) AllReadyH.nil
                                  rw [if_pos (by rfl)]
                                  go_simp
                                  refine (HIS.out _ _ HTD.out.cf).mono ?_
                                  rintro e w1 ⟨rfl, hb1⟩
                                  have HT1 := hide (HTD.out.below hb1)
                                  have hpl := HPL.out
                                  replace q1 := cell_below hb1 (Nat.le_refl _) hpl q1
                                  replace q3 := cell_below hb1 (Nat.le_refl _) hpl q3
                                  replace z1 := cell_below hb1 (Nat.le_refl _) hpl z1
                                  replace z2 := cell_below hb1 (Nat.le_refl _) hpl z2
                                  replace z3 := cell_below hb1 (Nat.le_refl _) hpl z3
                                  clear hHeld e0 e1 e2 e3 e4 e5 e6 e7 e8 e9 e10 e11 hl hll l0 l1 l2 hb1 hpl
                                  obtain ⟨⟨_, ⟨hl, e0, e1, e2, e3, e4, e5, e6, e7, e8, e9, e10, e11⟩, _, _⟩, ⟨hll, l0, l1, l2⟩, _, _⟩ := HT1.out
                                  dsimp only at e0 e1 e2 e3 e4 e5 e6 e7 e8 e9 e10 e11
                                  rw [HZO.out]
                                  refine hK.out _ _ (⟨e0, e1, e2, e3, e4, e5, e6, e7, e8, e9, e10, e11, l0, q1, q3, z1, z2, z3⟩) (fun hHeld => ?_)
                                  clear hK K
                                  (try simp only [Act.put, sA, sZ, sS])
                                  refine tkW 96 (i := 3) (v := ?v4_3) rfl rfl (by kernel_rfl) (fun _ _ _ h => h) ?y4_3 (by assumption) ?r4_3
                                  case y4_3 => (intro W hSW; (try dsimp only at hSW); go_simp; (try with_reducible rfl))
                                  (try simp only [Act.put, sA, sZ, sS])
                                  refine tkW 97 (i := 4) (v := ?v4_4) rfl rfl (by kernel_rfl) (fun _ _ _ h => h) ?y4_4 (by assumption) ?r4_4
                                  case y4_4 => (intro W hSW; (try dsimp only at hSW); go_simp; (try with_reducible rfl))
                                  (try simp only [Act.put, sA, sZ, sS])
                                  refine tkW 98 (i := 5) (v := ?v4_5) rfl rfl (by kernel_rfl) (fun _ _ _ h => h) ?y4_5 (by assumption) ?r4_5
                                  case y4_5 => (intro W hSW; (try dsimp only at hSW); go_simp; (try with_reducible rfl))
                                  (try simp only [Act.put, sA, sZ, sS])
                                  refine tkW 99 (i := 6) (v := ?v4_6) rfl rfl (by kernel_rfl) (fun _ _ _ h => h) ?y4_6 (by assumption) ?r4_6
                                  case y4_6 => (intro W hSW; (try dsimp only at hSW); go_simp; (try with_reducible rfl))
                                  (try simp only [Act.put, sA, sZ, sS])
                                  refine tkW 100 (i := 7) (v := ?v4_7) rfl rfl (by kernel_rfl) (fun _ _ _ h => h) ?y4_7 (by assumption) ?r4_7
                                  case y4_7 => (intro W hSW; (try dsimp only at hSW); go_simp; (try with_reducible rfl))
                                  (try simp only [Act.put, sA, sZ, sS])
                                  refine tkW 101 (i := 8) (v := ?v4_8) rfl rfl (by kernel_rfl) (fun _ _ _ h => h) ?y4_8 (by assumption) ?r4_8
                                  case y4_8 => (intro W hSW; (try dsimp only at hSW); go_simp; (try with_reducible rfl))
                                  (try simp only [Act.put, sA, sZ, sS])
                                  refine tkW 102 (i := 9) (v := ?v4_9) rfl rfl (by kernel_rfl) (fun _ _ _ h => h) ?y4_9 (by assumption) ?r4_9
                                  case y4_9 => (intro W hSW; (try dsimp only at hSW); go_simp; (try with_reducible rfl))
                                  (try simp only [Act.put, sA, sZ, sS])
                                  refine tkW 103 (i := 10) (v := ?v4_10) rfl rfl (by kernel_rfl) (fun _ _ _ h => h) ?y4_10 (by assumption) ?r4_10
                                  case y4_10 => (intro W hSW; (try dsimp only at hSW); go_simp; (try with_reducible rfl))
                                  (try simp only [Act.put, sA, sZ, sS])
                                  refine tkW 104 (i := 11) (v := ?v4_11) rfl rfl (by kernel_rfl) (fun _ _ _ h => h) ?y4_11 (by assumption) ?r4_11
                                  case y4_11 => (intro W hSW; (try dsimp only at hSW); go_simp; (try with_reducible rfl))
                                  (try simp only [Act.put, sA, sZ, sS])
                                  refine tkW 105 (i := 12) (v := ?v4_12) rfl rfl (by kernel_rfl) (fun _ _ _ h => h) ?y4_12 (by assumption) ?r4_12
                                  case y4_12 => (intro W hSW; (try dsimp only at hSW); go_simp; (try with_reducible rfl))
                                  (try simp only [Act.put, sA, sZ, sS])
                                  refine tkW 106 (i := 13) (v := ?v4_13) rfl rfl (by kernel_rfl) (fun _ _ _ h => h) ?y4_13 (by assumption) ?r4_13
                                  case y4_13 => (intro W hSW; (try dsimp only at hSW); go_simp; (try with_reducible rfl))
                                  (try simp only [Act.put, sA, sZ, sS])
                                  refine tkW 107 (i := 14) (v := ?v4_14) rfl rfl (by kernel_rfl) (fun _ _ _ h => h) ?y4_14 (by assumption) ?r4_14
                                  case y4_14 => (intro W hSW; (try dsimp only at hSW); go_simp; (try with_reducible rfl))
                                  (try simp only [Act.put, sA, sZ, sS])
                                  refine tkW 108 (i := 15) (v := ?v4_15) rfl rfl (by kernel_rfl) (fun _ _ _ h => h) ?y4_15 (by assumption) ?r4_15
                                  case y4_15 => (intro W hSW; (try dsimp only at hSW); go_simp; (try with_reducible rfl))
                                  (try simp only [Act.put, sA, sZ, sS])
                                  refine tkW 109 (i := 16) (v := ?v4_16) rfl rfl (by kernel_rfl) (fun _ _ _ h => h) ?y4_16 (by assumption) ?r4_16
                                  case y4_16 => (intro W hSW; (try dsimp only at hSW); go_simp; (try with_reducible rfl))
                                  (try simp only [Act.put, sA, sZ, sS])
                                  refine tkW 110 (i := 17) (v := ?v4_17) rfl rfl (by kernel_rfl) (fun _ _ _ h => h) ?y4_17 (by assumption) ?r4_17
                                  case y4_17 => (intro W hSW; (try dsimp only at hSW); go_simp; (try with_reducible rfl))
                                  (try simp only [Act.put, sA, sZ, sS])
                                  refine tkW 111 (i := 18) (v := ?v4_18) rfl rfl (by kernel_rfl) (fun _ _ _ h => h) ?y4_18 (by assumption) ?r4_18
                                  case y4_18 => (intro W hSW; (try dsimp only at hSW); go_simp; (try with_reducible rfl))
                                  (try simp only [Act.put, sA, sZ, sS])
                                  refine tkW 112 (i := 19) (v := ?v4_19) rfl rfl (by kernel_rfl) (fun _ _ _ h => h) ?y4_19 (by assumption) ?r4_19
                                  case y4_19 => (intro W hSW; (try dsimp only at hSW); go_simp; (try with_reducible rfl))
                                  (try simp only [Act.put, sA, sZ, sS])
                                  refine tkW 113 (i := 20) (v := ?v4_20) rfl rfl (by kernel_rfl) (fun _ _ _ h => h) ?y4_20 (by assumption) ?r4_20
                                  case y4_20 => (intro W hSW; (try dsimp only at hSW); go_simp; (try with_reducible rfl))
                                  (try simp only [Act.put, sA, sZ, sS])
                                  refine tkW 114 (i := 21) (v := ?v4_21) rfl rfl (by kernel_rfl) (fun _ _ _ h => h) ?y4_21 (by assumption) ?r4_21
                                  case y4_21 => (intro W hSW; (try dsimp only at hSW); go_simp; (try with_reducible rfl))
                                  (try simp only [Act.put, sA, sZ, sS])
                                  refine tkW 115 (i := 22) (v := ?v4_22) rfl rfl (by kernel_rfl) (fun _ _ _ h => h) ?y4_22 (by assumption) ?r4_22
                                  case y4_22 => (intro W hSW; (try dsimp only at hSW); go_simp; (try with_reducible rfl))
                                  (try simp only [Act.put, sA, sZ, sS])
                                  refine tkW 116 (i := 23) (v := ?v4_23) rfl rfl (by kernel_rfl) (fun _ _ _ h => h) ?y4_23 (by assumption) ?r4_23
                                  case y4_23 => (intro W hSW; (try dsimp only at hSW); go_simp; (try with_reducible rfl))
                                  (try simp only [Act.put, sA, sZ, sS])
                                  refine tkW 117 (i := 24) (v := ?v4_24) rfl rfl (by kernel_rfl) (fun _ _ _ h => h) ?y4_24 (by assumption) ?r4_24
                                  case y4_24 => (intro W hSW; (try dsimp only at hSW); go_simp; (try with_reducible rfl))
                                  (try simp only [Act.put, sA, sZ, sS])
                                  refine tkW 118 (i := 25) (v := ?v4_25) rfl rfl (by kernel_rfl) (fun _ _ _ h => h) ?y4_25 (by assumption) ?r4_25
                                  case y4_25 => (intro W hSW; (try dsimp only at hSW); go_simp; (try with_reducible rfl))
                                  (try simp only [Act.put, sA, sZ, sS])
                                  refine tkW 119 (i := 26) (v := ?v4_26) rfl rfl (by kernel_rfl) (fun _ _ _ h => h) ?y4_26 (by assumption) ?r4_26
                                  case y4_26 => (intro W hSW; (try dsimp only at hSW); go_simp; (try with_reducible rfl))
                                  (try simp only [Act.put, sA, sZ, sS])
                                  refine tkW 120 (i := 27) (v := ?v4_27) rfl rfl (by kernel_rfl) (fun _ _ _ h => h) ?y4_27 (by assumption) ?r4_27
                                  case y4_27 => (intro W hSW; (try dsimp only at hSW); go_simp; (try with_reducible rfl))
                                  (try simp only [Act.put, sA, sZ, sS])
                                  refine tkW 121 (i := 28) (v := ?v4_28) rfl rfl (by kernel_rfl) (fun _ _ _ h => h) ?y4_28 (by assumption) ?r4_28
                                  case y4_28 => (intro W hSW; (try dsimp only at hSW); go_simp; (try with_reducible rfl))
                                  (try simp only [Act.put, sA, sZ, sS])
                                  refine tkW 122 (i := 29) (v := ?v4_29) rfl rfl (by kernel_rfl) (fun _ _ _ h => h) ?y4_29 (by assumption) ?r4_29
                                  case y4_29 => (intro W hSW; (try dsimp only at hSW); go_simp; (try with_reducible rfl))
                                  (try simp only [Act.put, sA, sZ, sS])
                                  refine tkW 123 (i := 30) (v := ?v4_30) rfl rfl (by kernel_rfl) (fun _ _ _ h => h) ?y4_30 (by assumption) ?r4_30
                                  case y4_30 => (intro W hSW; (try dsimp only at hSW); go_simp; (try with_reducible rfl))
                                  (try simp only [Act.put, sA, sZ, sS])
                                  refine tkW 124 (i := 31) (v := ?v4_31) rfl rfl (by kernel_rfl) (fun _ _ _ h => h) ?y4_31 (by assumption) ?r4_31
                                  case y4_31 => (intro W hSW; (try dsimp only at hSW); go_simp; (try with_reducible rfl))
                                  (try simp only [Act.put, sA, sZ, sS])
                                  refine tkW 125 (i := 32) (v := ?v4_32) rfl rfl (by kernel_rfl) (fun _ _ _ h => h) ?y4_32 (by assumption) ?r4_32
                                  case y4_32 => (intro W hSW; (try dsimp only at hSW); go_simp; (try with_reducible rfl))
                                  (try simp only [Act.put, sA, sZ, sS])
                                  refine tkW 126 (i := 33) (v := ?v4_33) rfl rfl (by kernel_rfl) (fun _ _ _ h => h) ?y4_33 (by assumption) ?r4_33
                                  case y4_33 => (intro W hSW; (try dsimp only at hSW); go_simp; (try with_reducible rfl))
                                  (try simp only [Act.put, sA, sZ, sS])
                                  refine tkW 127 (i := 34) (v := ?v4_34) rfl rfl (by kernel_rfl) (fun _ _ _ h => h) ?y4_34 (by assumption) ?r4_34
                                  case y4_34 => (intro W hSW; (try dsimp only at hSW); go_simp; (try with_reducible rfl))
                                  (try simp only [Act.put, sA, sZ, sS])
                                  refine tkW 128 (i := 35) (v := ?v4_35) rfl rfl (by kernel_rfl) (fun _ _ _ h => h) ?y4_35 (by assumption) ?r4_35
                                  case y4_35 => (intro W hSW; (try dsimp only at hSW); go_simp; (try with_reducible rfl))
                                  (try simp only [Act.put, sA, sZ, sS])
                                  refine tkW 129 (i := 36) (v := ?v4_36) rfl rfl (by kernel_rfl) (fun _ _ _ h => h) ?y4_36 (by assumption) ?r4_36
                                  case y4_36 => (intro W hSW; (try dsimp only at hSW); go_simp; (try with_reducible rfl))
                                  (try simp only [Act.put, sA, sZ, sS])
                                  refine tkW 130 (i := 37) (v := ?v4_37) rfl rfl (by kernel_rfl) (fun _ _ _ h => h) ?y4_37 (by assumption) ?r4_37
                                  case y4_37 => (intro W hSW; (try dsimp only at hSW); go_simp; (try with_reducible rfl))
                                  (try simp only [Act.put, sA, sZ, sS])
                                  refine tkW 131 (i := 38) (v := ?v4_38) rfl rfl (by kernel_rfl) (fun _ _ _ h => h) ?y4_38 (by assumption) ?r4_38
                                  case y4_38 => (intro W hSW; (try dsimp only at hSW); go_simp; (try with_reducible rfl))
                                  (try simp only [Act.put, sA, sZ, sS])
                                  refine tkW 132 (i := 39) (v := ?v4_39) rfl rfl (by kernel_rfl) (fun _ _ _ h => h) ?y4_39 (by assumption) ?r4_39
                                  case y4_39 => (intro W hSW; (try dsimp only at hSW); go_simp; (try with_reducible rfl))
                                  (try simp only [Act.put, sA, sZ, sS])
                                  refine tkW 133 (i := 40) (v := ?v4_40) rfl rfl (by kernel_rfl) (fun _ _ _ h => h) ?y4_40 (by assumption) ?r4_40
                                  case y4_40 => (intro W hSW; (try dsimp only at hSW); go_simp; (try with_reducible rfl))
                                  (try simp only [Act.put, sA, sZ, sS])
                                  refine tkW 134 (i := 41) (v := ?v4_41) rfl rfl (by kernel_rfl) (fun _ _ _ h => h) ?y4_41 (by assumption) ?r4_41
                                  case y4_41 => (intro W hSW; (try dsimp only at hSW); go_simp; (try with_reducible rfl))
                                  (try simp only [Act.put, sA, sZ, sS])
                                  refine tkW 135 (i := 42) (v := ?v4_42) rfl rfl (by kernel_rfl) (fun _ _ _ h => h) ?y4_42 (by assumption) ?r4_42
                                  case y4_42 => (intro W hSW; (try dsimp only at hSW); go_simp; (try with_reducible rfl))
                                  (try simp only [Act.put, sA, sZ, sS])
                                  refine tkW 136 (i := 43) (v := ?v4_43) rfl rfl (by kernel_rfl) (fun _ _ _ h => h) ?y4_43 (by assumption) ?r4_43
                                  case y4_43 => (intro W hSW; (try dsimp only at hSW); go_simp; (try with_reducible rfl))
                                  (try simp only [Act.put, sA, sZ, sS])
                                  refine tkW 137 (i := 44) (v := ?v4_44) rfl rfl (by kernel_rfl) (fun _ _ _ h => h) ?y4_44 (by assumption) ?r4_44
                                  case y4_44 => (intro W hSW; (try dsimp only at hSW); go_simp; (try with_reducible rfl))
                                  (try simp only [Act.put, sA, sZ, sS])
                                  refine wpAnyH_done (by kernel_rfl) ?_ _
                                  have HBB := hide HT1.out.cf.bel
                                  go_wp2_with fail
                                  go_ret
                                  exact ⟨by rw [HX.out]; rfl, HBB.out⟩
                            · have n2 : (zkind != kind) = true := by simpa using d2
                              have HX := hide (HF2.out (fun g => d2 (HD3.out.1 g).2.1))
                              as_aux_lemma =>
                                refine wp_region_held_drew (S := fun w' => w'.cell? ⟨w.heap.size, 0, none⟩ = some (.int .i64 nodes) ∧ w'.cell? ⟨w.heap.size, 1, none⟩ = some (.slice oA owners.length oC) ∧ w'.cell? ⟨w.heap.size, 2, none⟩ = some (.int .i64 drift) ∧ w'.cell? ⟨w.heap.size, 3, none⟩ = some (.int .i64 reading) ∧ w'.cell? ⟨w.heap.size, 4, none⟩ = some (.int .i64 margin) ∧ w'.cell? ⟨w.heap.size, 5, none⟩ = some (.int .i64 bound) ∧ w'.cell? ⟨w.heap.size, 6, none⟩ = some (.int .i64 rejoin) ∧ w'.cell? ⟨w.heap.size, 7, none⟩ = some (.int .i64 quota) ∧ w'.cell? ⟨w.heap.size, 8, none⟩ = some (.slice (pA) parts.length pC) ∧ w'.cell? ⟨w.heap.size, 9, none⟩ = some (.slice wA windows.length wC) ∧ w'.cell? ⟨w.heap.size, 10, none⟩ = some (.slice (some ⟨pb, po, none⟩) ports.length qC) ∧ w'.cell? ⟨w.heap.size, 11, none⟩ = some (.slice (some ⟨lb, lof, none⟩) links.length lC) ∧ w'.cell? ⟨lb0, 0, none⟩ = some (.int .i64 (sn : Int)) ∧ w'.cell? ⟨pb, po + sn * 6 + 1, none⟩ = some (.int .i64 kind) ∧ w'.cell? ⟨pb, po + sn * 6 + 3, none⟩ = some (.int .i64 size) ∧ w'.cell? ⟨pb, po + zn * 6 + 1, none⟩ = some (.int .i64 zkind) ∧ w'.cell? ⟨pb, po + zn * 6 + 2, none⟩ = some (.int .i64 2) ∧ w'.cell? ⟨pb, po + zn * 6 + 3, none⟩ = some (.int .i64 zsize)) (by kernel_rfl) (⟨e0, e1, e2, e3, e4, e5, e6, e7, e8, e9, e10, e11, l0, q1, q3, z1, z2, z3⟩) (fun hHeld => ?_)
                                refine tkW 93 (i := 0) (v := ?v5_0) rfl rfl (by kernel_rfl) (fun _ _ _ h => h) ?y5_0 (by assumption) ?r5_0
                                case y5_0 => (intro W hSW; (try dsimp only at hSW); go_simp; (try with_reducible rfl))
                                (try simp only [Act.put, sA, sZ, sS])
                                refine tkW 94 (i := 1) (v := ?v5_1) rfl rfl (by kernel_rfl) (fun _ _ _ h => h) ?y5_1 (by assumption) ?r5_1
                                case y5_1 => (intro W hSW; (try dsimp only at hSW); go_simp; (try with_reducible rfl))
                                (try simp only [Act.put, sA, sZ, sS])
                                refine wpAnyH_ready (rs := [2]) (by kernel_rfl) (by simp) ?_
                                refine AllReadyH.cons rfl (fun K hK => ?_) AllReadyH.nil
                                rw [if_pos (by rfl)]
                                go_simp
                                refine (HIS.out _ _ HTD.out.cf).mono ?_
                                rintro e w1 ⟨rfl, hb1⟩
                                have HT1 := hide (HTD.out.below hb1)
                                have hpl := HPL.out
                                replace q1 := cell_below hb1 (Nat.le_refl _) hpl q1
                                replace q3 := cell_below hb1 (Nat.le_refl _) hpl q3
                                replace z1 := cell_below hb1 (Nat.le_refl _) hpl z1
                                replace z2 := cell_below hb1 (Nat.le_refl _) hpl z2
                                replace z3 := cell_below hb1 (Nat.le_refl _) hpl z3
                                clear hHeld e0 e1 e2 e3 e4 e5 e6 e7 e8 e9 e10 e11 hl hll l0 l1 l2 hb1 hpl
                                obtain ⟨⟨_, ⟨hl, e0, e1, e2, e3, e4, e5, e6, e7, e8, e9, e10, e11⟩, _, _⟩, ⟨hll, l0, l1, l2⟩, _, _⟩ := HT1.out
                                dsimp only at e0 e1 e2 e3 e4 e5 e6 e7 e8 e9 e10 e11
                                rw [HZO.out]
                                refine hK.out _ _ (⟨e0, e1, e2, e3, e4, e5, e6, e7, e8, e9, e10, e11, l0, q1, q3, z1, z2, z3⟩) (fun hHeld => ?_)
                                clear hK K
                                (try simp only [Act.put, sA, sZ, sS])
                                refine tkW 96 (i := 3) (v := ?v5_3) rfl rfl (by kernel_rfl) (fun _ _ _ h => h) ?y5_3 (by assumption) ?r5_3
                                case y5_3 => (intro W hSW; (try dsimp only at hSW); go_simp; (try with_reducible rfl))
                                (try simp only [Act.put, sA, sZ, sS])
                                refine tkW 97 (i := 4) (v := ?v5_4) rfl rfl (by kernel_rfl) (fun _ _ _ h => h) ?y5_4 (by assumption) ?r5_4
                                case y5_4 => (intro W hSW; (try dsimp only at hSW); go_simp; (try with_reducible rfl))
                                (try simp only [Act.put, sA, sZ, sS])
                                refine tkW 98 (i := 5) (v := ?v5_5) rfl rfl (by kernel_rfl) (fun _ _ _ h => h) ?y5_5 (by assumption) ?r5_5
                                case y5_5 => (intro W hSW; (try dsimp only at hSW); go_simp; (try with_reducible rfl))
                                (try simp only [Act.put, sA, sZ, sS])
                                refine tkW 99 (i := 6) (v := ?v5_6) rfl rfl (by kernel_rfl) (fun _ _ _ h => h) ?y5_6 (by assumption) ?r5_6
                                case y5_6 => (intro W hSW; (try dsimp only at hSW); go_simp; (try with_reducible rfl))
                                (try simp only [Act.put, sA, sZ, sS])
                                refine tkW 100 (i := 7) (v := ?v5_7) rfl rfl (by kernel_rfl) (fun _ _ _ h => h) ?y5_7 (by assumption) ?r5_7
                                case y5_7 => (intro W hSW; (try dsimp only at hSW); go_simp; (try with_reducible rfl))
                                (try simp only [Act.put, sA, sZ, sS])
                                refine tkW 101 (i := 8) (v := ?v5_8) rfl rfl (by kernel_rfl) (fun _ _ _ h => h) ?y5_8 (by assumption) ?r5_8
                                case y5_8 => (intro W hSW; (try dsimp only at hSW); go_simp; (try with_reducible rfl))
                                (try simp only [Act.put, sA, sZ, sS])
                                refine tkW 102 (i := 9) (v := ?v5_9) rfl rfl (by kernel_rfl) (fun _ _ _ h => h) ?y5_9 (by assumption) ?r5_9
                                case y5_9 => (intro W hSW; (try dsimp only at hSW); go_simp; (try with_reducible rfl))
                                (try simp only [Act.put, sA, sZ, sS])
                                refine tkW 103 (i := 10) (v := ?v5_10) rfl rfl (by kernel_rfl) (fun _ _ _ h => h) ?y5_10 (by assumption) ?r5_10
                                case y5_10 => (intro W hSW; (try dsimp only at hSW); go_simp; (try with_reducible rfl))
                                (try simp only [Act.put, sA, sZ, sS])
                                refine tkW 104 (i := 11) (v := ?v5_11) rfl rfl (by kernel_rfl) (fun _ _ _ h => h) ?y5_11 (by assumption) ?r5_11
                                case y5_11 => (intro W hSW; (try dsimp only at hSW); go_simp; (try with_reducible rfl))
                                (try simp only [Act.put, sA, sZ, sS])
                                refine tkW 105 (i := 12) (v := ?v5_12) rfl rfl (by kernel_rfl) (fun _ _ _ h => h) ?y5_12 (by assumption) ?r5_12
                                case y5_12 => (intro W hSW; (try dsimp only at hSW); go_simp; (try with_reducible rfl))
                                (try simp only [Act.put, sA, sZ, sS])
                                refine tkW 106 (i := 13) (v := ?v5_13) rfl rfl (by kernel_rfl) (fun _ _ _ h => h) ?y5_13 (by assumption) ?r5_13
                                case y5_13 => (intro W hSW; (try dsimp only at hSW); go_simp; (try with_reducible rfl))
                                (try simp only [Act.put, sA, sZ, sS])
                                refine tkW 107 (i := 14) (v := ?v5_14) rfl rfl (by kernel_rfl) (fun _ _ _ h => h) ?y5_14 (by assumption) ?r5_14
                                case y5_14 => (intro W hSW; (try dsimp only at hSW); go_simp; (try with_reducible rfl))
                                (try simp only [Act.put, sA, sZ, sS])
                                refine tkW 108 (i := 15) (v := ?v5_15) rfl rfl (by kernel_rfl) (fun _ _ _ h => h) ?y5_15 (by assumption) ?r5_15
                                case y5_15 => (intro W hSW; (try dsimp only at hSW); go_simp; (try with_reducible rfl))
                                (try simp only [Act.put, sA, sZ, sS])
                                refine tkW 109 (i := 16) (v := ?v5_16) rfl rfl (by kernel_rfl) (fun _ _ _ h => h) ?y5_16 (by assumption) ?r5_16
                                case y5_16 => (intro W hSW; (try dsimp only at hSW); go_simp; (try with_reducible rfl))
                                (try simp only [Act.put, sA, sZ, sS])
                                refine tkW 110 (i := 17) (v := ?v5_17) rfl rfl (by kernel_rfl) (fun _ _ _ h => h) ?y5_17 (by assumption) ?r5_17
                                case y5_17 => (intro W hSW; (try dsimp only at hSW); go_simp; (try with_reducible rfl))
                                (try simp only [Act.put, sA, sZ, sS])
                                refine tkW 111 (i := 18) (v := ?v5_18) rfl rfl (by kernel_rfl) (fun _ _ _ h => h) ?y5_18 (by assumption) ?r5_18
                                case y5_18 => (intro W hSW; (try dsimp only at hSW); go_simp; (try with_reducible rfl))
                                (try simp only [Act.put, sA, sZ, sS])
                                refine tkW 112 (i := 19) (v := ?v5_19) rfl rfl (by kernel_rfl) (fun _ _ _ h => h) ?y5_19 (by assumption) ?r5_19
                                case y5_19 => (intro W hSW; (try dsimp only at hSW); go_simp; (try with_reducible rfl))
                                (try simp only [Act.put, sA, sZ, sS])
                                refine tkW 113 (i := 20) (v := ?v5_20) rfl rfl (by kernel_rfl) (fun _ _ _ h => h) ?y5_20 (by assumption) ?r5_20
                                case y5_20 => (intro W hSW; (try dsimp only at hSW); go_simp; (try with_reducible rfl))
                                (try simp only [Act.put, sA, sZ, sS])
                                refine tkW 114 (i := 21) (v := ?v5_21) rfl rfl (by kernel_rfl) (fun _ _ _ h => h) ?y5_21 (by assumption) ?r5_21
                                case y5_21 => (intro W hSW; (try dsimp only at hSW); go_simp; (try with_reducible rfl))
                                (try simp only [Act.put, sA, sZ, sS])
                                refine tkW 115 (i := 22) (v := ?v5_22) rfl rfl (by kernel_rfl) (fun _ _ _ h => h) ?y5_22 (by assumption) ?r5_22
                                case y5_22 => (intro W hSW; (try dsimp only at hSW); go_simp; (try with_reducible rfl))
                                (try simp only [Act.put, sA, sZ, sS])
                                refine tkW 116 (i := 23) (v := ?v5_23) rfl rfl (by kernel_rfl) (fun _ _ _ h => h) ?y5_23 (by assumption) ?r5_23
                                case y5_23 => (intro W hSW; (try dsimp only at hSW); go_simp; (try with_reducible rfl))
                                (try simp only [Act.put, sA, sZ, sS])
                                refine tkW 117 (i := 24) (v := ?v5_24) rfl rfl (by kernel_rfl) (fun _ _ _ h => h) ?y5_24 (by assumption) ?r5_24
                                case y5_24 => (intro W hSW; (try dsimp only at hSW); go_simp; (try with_reducible rfl))
                                (try simp only [Act.put, sA, sZ, sS])
                                refine tkW 118 (i := 25) (v := ?v5_25) rfl rfl (by kernel_rfl) (fun _ _ _ h => h) ?y5_25 (by assumption) ?r5_25
                                case y5_25 => (intro W hSW; (try dsimp only at hSW); go_simp; (try with_reducible rfl))
                                (try simp only [Act.put, sA, sZ, sS])
                                refine tkW 119 (i := 26) (v := ?v5_26) rfl rfl (by kernel_rfl) (fun _ _ _ h => h) ?y5_26 (by assumption) ?r5_26
                                case y5_26 => (intro W hSW; (try dsimp only at hSW); go_simp; (try with_reducible rfl))
                                (try simp only [Act.put, sA, sZ, sS])
                                refine tkW 120 (i := 27) (v := ?v5_27) rfl rfl (by kernel_rfl) (fun _ _ _ h => h) ?y5_27 (by assumption) ?r5_27
                                case y5_27 => (intro W hSW; (try dsimp only at hSW); go_simp; (try with_reducible rfl))
                                (try simp only [Act.put, sA, sZ, sS])
                                refine tkW 121 (i := 28) (v := ?v5_28) rfl rfl (by kernel_rfl) (fun _ _ _ h => h) ?y5_28 (by assumption) ?r5_28
                                case y5_28 => (intro W hSW; (try dsimp only at hSW); go_simp; (try with_reducible rfl))
                                (try simp only [Act.put, sA, sZ, sS])
                                refine tkW 122 (i := 29) (v := ?v5_29) rfl rfl (by kernel_rfl) (fun _ _ _ h => h) ?y5_29 (by assumption) ?r5_29
                                case y5_29 => (intro W hSW; (try dsimp only at hSW); go_simp; (try with_reducible rfl))
                                (try simp only [Act.put, sA, sZ, sS])
                                refine tkU 123 (i := 30) rfl rfl (by kernel_rfl) (fun _ _ _ h => h) (by assumption) ?_
                                (try simp only [Act.put, sA, sZ, sS])
                                refine tkU 124 (i := 31) rfl rfl (by kernel_rfl) (fun _ _ _ h => h) (by assumption) ?_
                                (try simp only [Act.put, sA, sZ, sS])
                                refine tkU 125 (i := 32) rfl rfl (by kernel_rfl) (fun _ _ _ h => h) (by assumption) ?_
                                (try simp only [Act.put, sA, sZ, sS])
                                refine tkU 126 (i := 33) rfl rfl (by kernel_rfl) (fun _ _ _ h => h) (by assumption) ?_
                                (try simp only [Act.put, sA, sZ, sS])
                                refine tkU 127 (i := 34) rfl rfl (by kernel_rfl) (fun _ _ _ h => h) (by assumption) ?_
                                (try simp only [Act.put, sA, sZ, sS])
                                refine tkU 128 (i := 35) rfl rfl (by kernel_rfl) (fun _ _ _ h => h) (by assumption) ?_
                                (try simp only [Act.put, sA, sZ, sS])
                                refine tkU 129 (i := 36) rfl rfl (by kernel_rfl) (fun _ _ _ h => h) (by assumption) ?_
                                (try simp only [Act.put, sA, sZ, sS])
                                refine tkU 130 (i := 37) rfl rfl (by kernel_rfl) (fun _ _ _ h => h) (by assumption) ?_
                                (try simp only [Act.put, sA, sZ, sS])
                                refine tkU 131 (i := 38) rfl rfl (by kernel_rfl) (fun _ _ _ h => h) (by assumption) ?_
                                (try simp only [Act.put, sA, sZ, sS])
                                refine tkU 132 (i := 39) rfl rfl (by kernel_rfl) (fun _ _ _ h => h) (by assumption) ?_
                                (try simp only [Act.put, sA, sZ, sS])
                                refine tkU 133 (i := 40) rfl rfl (by kernel_rfl) (fun _ _ _ h => h) (by assumption) ?_
                                (try simp only [Act.put, sA, sZ, sS])
                                refine tkU 134 (i := 41) rfl rfl (by kernel_rfl) (fun _ _ _ h => h) (by assumption) ?_
                                (try simp only [Act.put, sA, sZ, sS])
                                refine tkU 135 (i := 42) rfl rfl (by kernel_rfl) (fun _ _ _ h => h) (by assumption) ?_
                                (try simp only [Act.put, sA, sZ, sS])
                                refine tkU 136 (i := 43) rfl rfl (by kernel_rfl) (fun _ _ _ h => h) (by assumption) ?_
                                (try simp only [Act.put, sA, sZ, sS])
                                refine tkW 137 (i := 44) (v := ?v5_44) rfl rfl (by kernel_rfl) (fun _ _ _ h => h) ?y5_44 (by assumption) ?r5_44
                                case y5_44 => (intro W hSW; (try dsimp only at hSW); go_simp; (try with_reducible rfl))
                                (try simp only [Act.put, sA, sZ, sS])
                                refine wpAnyH_done (by kernel_rfl) ?_ _
                                have HBB := hide HT1.out.cf.bel
                                go_wp2_with fail
                                go_ret
                                exact ⟨by rw [HX.out]; rfl, HBB.out⟩
                          · have n1 : (zdir != 2) = true := by simpa using d1
                            have HX := hide (HF2.out (fun g => d1 (HD3.out.1 g).1))
                            as_aux_lemma =>
                              refine wp_region_held_drew (S := fun w' => w'.cell? ⟨w.heap.size, 0, none⟩ = some (.int .i64 nodes) ∧ w'.cell? ⟨w.heap.size, 1, none⟩ = some (.slice oA owners.length oC) ∧ w'.cell? ⟨w.heap.size, 2, none⟩ = some (.int .i64 drift) ∧ w'.cell? ⟨w.heap.size, 3, none⟩ = some (.int .i64 reading) ∧ w'.cell? ⟨w.heap.size, 4, none⟩ = some (.int .i64 margin) ∧ w'.cell? ⟨w.heap.size, 5, none⟩ = some (.int .i64 bound) ∧ w'.cell? ⟨w.heap.size, 6, none⟩ = some (.int .i64 rejoin) ∧ w'.cell? ⟨w.heap.size, 7, none⟩ = some (.int .i64 quota) ∧ w'.cell? ⟨w.heap.size, 8, none⟩ = some (.slice (pA) parts.length pC) ∧ w'.cell? ⟨w.heap.size, 9, none⟩ = some (.slice wA windows.length wC) ∧ w'.cell? ⟨w.heap.size, 10, none⟩ = some (.slice (some ⟨pb, po, none⟩) ports.length qC) ∧ w'.cell? ⟨w.heap.size, 11, none⟩ = some (.slice (some ⟨lb, lof, none⟩) links.length lC) ∧ w'.cell? ⟨lb0, 0, none⟩ = some (.int .i64 (sn : Int)) ∧ w'.cell? ⟨pb, po + sn * 6 + 1, none⟩ = some (.int .i64 kind) ∧ w'.cell? ⟨pb, po + sn * 6 + 3, none⟩ = some (.int .i64 size) ∧ w'.cell? ⟨pb, po + zn * 6 + 1, none⟩ = some (.int .i64 zkind) ∧ w'.cell? ⟨pb, po + zn * 6 + 2, none⟩ = some (.int .i64 zdir) ∧ w'.cell? ⟨pb, po + zn * 6 + 3, none⟩ = some (.int .i64 zsize)) (by kernel_rfl) (⟨e0, e1, e2, e3, e4, e5, e6, e7, e8, e9, e10, e11, l0, q1, q3, z1, z2, z3⟩) (fun hHeld => ?_)
                              refine tkW 93 (i := 0) (v := ?v6_0) rfl rfl (by kernel_rfl) (fun _ _ _ h => h) ?y6_0 (by assumption) ?r6_0
                              case y6_0 => (intro W hSW; (try dsimp only at hSW); go_simp; (try with_reducible rfl))
                              (try simp only [Act.put, sA, sZ, sS])
                              refine tkW 94 (i := 1) (v := ?v6_1) rfl rfl (by kernel_rfl) (fun _ _ _ h => h) ?y6_1 (by assumption) ?r6_1
                              case y6_1 => (intro W hSW; (try dsimp only at hSW); go_simp; (try with_reducible rfl))
                              (try simp only [Act.put, sA, sZ, sS])
                              refine wpAnyH_ready (rs := [2]) (by kernel_rfl) (by simp) ?_
                              refine AllReadyH.cons rfl (fun K hK => ?_) AllReadyH.nil
                              rw [if_pos (by rfl)]
                              go_simp
                              refine (HIS.out _ _ HTD.out.cf).mono ?_
                              rintro e w1 ⟨rfl, hb1⟩
                              have HT1 := hide (HTD.out.below hb1)
                              have hpl := HPL.out
                              replace q1 := cell_below hb1 (Nat.le_refl _) hpl q1
                              replace q3 := cell_below hb1 (Nat.le_refl _) hpl q3
                              replace z1 := cell_below hb1 (Nat.le_refl _) hpl z1
                              replace z2 := cell_below hb1 (Nat.le_refl _) hpl z2
                              replace z3 := cell_below hb1 (Nat.le_refl _) hpl z3
                              clear hHeld e0 e1 e2 e3 e4 e5 e6 e7 e8 e9 e10 e11 hl hll l0 l1 l2 hb1 hpl
                              obtain ⟨⟨_, ⟨hl, e0, e1, e2, e3, e4, e5, e6, e7, e8, e9, e10, e11⟩, _, _⟩, ⟨hll, l0, l1, l2⟩, _, _⟩ := HT1.out
                              dsimp only at e0 e1 e2 e3 e4 e5 e6 e7 e8 e9 e10 e11
                              rw [HZO.out]
                              refine hK.out _ _ (⟨e0, e1, e2, e3, e4, e5, e6, e7, e8, e9, e10, e11, l0, q1, q3, z1, z2, z3⟩) (fun hHeld => ?_)
                              clear hK K
                              (try simp only [Act.put, sA, sZ, sS])
                              refine tkW 96 (i := 3) (v := ?v6_3) rfl rfl (by kernel_rfl) (fun _ _ _ h => h) ?y6_3 (by assumption) ?r6_3
                              case y6_3 => (intro W hSW; (try dsimp only at hSW); go_simp; (try with_reducible rfl))
                              (try simp only [Act.put, sA, sZ, sS])
                              refine tkW 97 (i := 4) (v := ?v6_4) rfl rfl (by kernel_rfl) (fun _ _ _ h => h) ?y6_4 (by assumption) ?r6_4
                              case y6_4 => (intro W hSW; (try dsimp only at hSW); go_simp; (try with_reducible rfl))
                              (try simp only [Act.put, sA, sZ, sS])
                              refine tkW 98 (i := 5) (v := ?v6_5) rfl rfl (by kernel_rfl) (fun _ _ _ h => h) ?y6_5 (by assumption) ?r6_5
                              case y6_5 => (intro W hSW; (try dsimp only at hSW); go_simp; (try with_reducible rfl))
                              (try simp only [Act.put, sA, sZ, sS])
                              refine tkW 99 (i := 6) (v := ?v6_6) rfl rfl (by kernel_rfl) (fun _ _ _ h => h) ?y6_6 (by assumption) ?r6_6
                              case y6_6 => (intro W hSW; (try dsimp only at hSW); go_simp; (try with_reducible rfl))
                              (try simp only [Act.put, sA, sZ, sS])
                              refine tkW 100 (i := 7) (v := ?v6_7) rfl rfl (by kernel_rfl) (fun _ _ _ h => h) ?y6_7 (by assumption) ?r6_7
                              case y6_7 => (intro W hSW; (try dsimp only at hSW); go_simp; (try with_reducible rfl))
                              (try simp only [Act.put, sA, sZ, sS])
                              refine tkW 101 (i := 8) (v := ?v6_8) rfl rfl (by kernel_rfl) (fun _ _ _ h => h) ?y6_8 (by assumption) ?r6_8
                              case y6_8 => (intro W hSW; (try dsimp only at hSW); go_simp; (try with_reducible rfl))
                              (try simp only [Act.put, sA, sZ, sS])
                              refine tkW 102 (i := 9) (v := ?v6_9) rfl rfl (by kernel_rfl) (fun _ _ _ h => h) ?y6_9 (by assumption) ?r6_9
                              case y6_9 => (intro W hSW; (try dsimp only at hSW); go_simp; (try with_reducible rfl))
                              (try simp only [Act.put, sA, sZ, sS])
                              refine tkW 103 (i := 10) (v := ?v6_10) rfl rfl (by kernel_rfl) (fun _ _ _ h => h) ?y6_10 (by assumption) ?r6_10
                              case y6_10 => (intro W hSW; (try dsimp only at hSW); go_simp; (try with_reducible rfl))
                              (try simp only [Act.put, sA, sZ, sS])
                              refine tkW 104 (i := 11) (v := ?v6_11) rfl rfl (by kernel_rfl) (fun _ _ _ h => h) ?y6_11 (by assumption) ?r6_11
                              case y6_11 => (intro W hSW; (try dsimp only at hSW); go_simp; (try with_reducible rfl))
                              (try simp only [Act.put, sA, sZ, sS])
                              refine tkW 105 (i := 12) (v := ?v6_12) rfl rfl (by kernel_rfl) (fun _ _ _ h => h) ?y6_12 (by assumption) ?r6_12
                              case y6_12 => (intro W hSW; (try dsimp only at hSW); go_simp; (try with_reducible rfl))
                              (try simp only [Act.put, sA, sZ, sS])
                              refine tkW 106 (i := 13) (v := ?v6_13) rfl rfl (by kernel_rfl) (fun _ _ _ h => h) ?y6_13 (by assumption) ?r6_13
                              case y6_13 => (intro W hSW; (try dsimp only at hSW); go_simp; (try with_reducible rfl))
                              (try simp only [Act.put, sA, sZ, sS])
                              refine tkU 107 (i := 14) rfl rfl (by kernel_rfl) (fun _ _ _ h => h) (by assumption) ?_
                              (try simp only [Act.put, sA, sZ, sS])
                              refine tkU 108 (i := 15) rfl rfl (by kernel_rfl) (fun _ _ _ h => h) (by assumption) ?_
                              (try simp only [Act.put, sA, sZ, sS])
                              refine tkU 109 (i := 16) rfl rfl (by kernel_rfl) (fun _ _ _ h => h) (by assumption) ?_
                              (try simp only [Act.put, sA, sZ, sS])
                              refine tkU 110 (i := 17) rfl rfl (by kernel_rfl) (fun _ _ _ h => h) (by assumption) ?_
                              (try simp only [Act.put, sA, sZ, sS])
                              refine tkU 111 (i := 18) rfl rfl (by kernel_rfl) (fun _ _ _ h => h) (by assumption) ?_
                              (try simp only [Act.put, sA, sZ, sS])
                              refine tkU 112 (i := 19) rfl rfl (by kernel_rfl) (fun _ _ _ h => h) (by assumption) ?_
                              (try simp only [Act.put, sA, sZ, sS])
                              refine tkU 113 (i := 20) rfl rfl (by kernel_rfl) (fun _ _ _ h => h) (by assumption) ?_
                              (try simp only [Act.put, sA, sZ, sS])
                              refine tkU 114 (i := 21) rfl rfl (by kernel_rfl) (fun _ _ _ h => h) (by assumption) ?_
                              (try simp only [Act.put, sA, sZ, sS])
                              refine tkU 115 (i := 22) rfl rfl (by kernel_rfl) (fun _ _ _ h => h) (by assumption) ?_
                              (try simp only [Act.put, sA, sZ, sS])
                              refine tkU 116 (i := 23) rfl rfl (by kernel_rfl) (fun _ _ _ h => h) (by assumption) ?_
                              (try simp only [Act.put, sA, sZ, sS])
                              refine tkU 117 (i := 24) rfl rfl (by kernel_rfl) (fun _ _ _ h => h) (by assumption) ?_
                              (try simp only [Act.put, sA, sZ, sS])
                              refine tkU 118 (i := 25) rfl rfl (by kernel_rfl) (fun _ _ _ h => h) (by assumption) ?_
                              (try simp only [Act.put, sA, sZ, sS])
                              refine tkU 119 (i := 26) rfl rfl (by kernel_rfl) (fun _ _ _ h => h) (by assumption) ?_
                              (try simp only [Act.put, sA, sZ, sS])
                              refine tkU 120 (i := 27) rfl rfl (by kernel_rfl) (fun _ _ _ h => h) (by assumption) ?_
                              (try simp only [Act.put, sA, sZ, sS])
                              refine tkW 121 (i := 28) (v := ?v6_28) rfl rfl (by kernel_rfl) (fun _ _ _ h => h) ?y6_28 (by assumption) ?r6_28
                              case y6_28 => (intro W hSW; (try dsimp only at hSW); go_simp; (try with_reducible rfl))
                              (try simp only [Act.put, sA, sZ, sS])
                              refine tkW 122 (i := 29) (v := ?v6_29) rfl rfl (by kernel_rfl) (fun _ _ _ h => h) ?y6_29 (by assumption) ?r6_29
                              case y6_29 => (intro W hSW; (try dsimp only at hSW); go_simp; (try with_reducible rfl))
                              (try simp only [Act.put, sA, sZ, sS])
                              refine tkU 123 (i := 30) rfl rfl (by kernel_rfl) (fun _ _ _ h => h) (by assumption) ?_
                              (try simp only [Act.put, sA, sZ, sS])
                              refine tkU 124 (i := 31) rfl rfl (by kernel_rfl) (fun _ _ _ h => h) (by assumption) ?_
                              (try simp only [Act.put, sA, sZ, sS])
                              refine tkU 125 (i := 32) rfl rfl (by kernel_rfl) (fun _ _ _ h => h) (by assumption) ?_
                              (try simp only [Act.put, sA, sZ, sS])
                              refine tkU 126 (i := 33) rfl rfl (by kernel_rfl) (fun _ _ _ h => h) (by assumption) ?_
                              (try simp only [Act.put, sA, sZ, sS])
                              refine tkU 127 (i := 34) rfl rfl (by kernel_rfl) (fun _ _ _ h => h) (by assumption) ?_
                              (try simp only [Act.put, sA, sZ, sS])
                              refine tkU 128 (i := 35) rfl rfl (by kernel_rfl) (fun _ _ _ h => h) (by assumption) ?_
                              (try simp only [Act.put, sA, sZ, sS])
                              refine tkU 129 (i := 36) rfl rfl (by kernel_rfl) (fun _ _ _ h => h) (by assumption) ?_
                              (try simp only [Act.put, sA, sZ, sS])
                              refine tkU 130 (i := 37) rfl rfl (by kernel_rfl) (fun _ _ _ h => h) (by assumption) ?_
                              (try simp only [Act.put, sA, sZ, sS])
                              refine tkU 131 (i := 38) rfl rfl (by kernel_rfl) (fun _ _ _ h => h) (by assumption) ?_
                              (try simp only [Act.put, sA, sZ, sS])
                              refine tkU 132 (i := 39) rfl rfl (by kernel_rfl) (fun _ _ _ h => h) (by assumption) ?_
                              (try simp only [Act.put, sA, sZ, sS])
                              refine tkU 133 (i := 40) rfl rfl (by kernel_rfl) (fun _ _ _ h => h) (by assumption) ?_
                              (try simp only [Act.put, sA, sZ, sS])
                              refine tkU 134 (i := 41) rfl rfl (by kernel_rfl) (fun _ _ _ h => h) (by assumption) ?_
                              (try simp only [Act.put, sA, sZ, sS])
                              refine tkU 135 (i := 42) rfl rfl (by kernel_rfl) (fun _ _ _ h => h) (by assumption) ?_
                              (try simp only [Act.put, sA, sZ, sS])
                              refine tkU 136 (i := 43) rfl rfl (by kernel_rfl) (fun _ _ _ h => h) (by assumption) ?_
                              (try simp only [Act.put, sA, sZ, sS])
                              refine tkW 137 (i := 44) (v := ?v6_44) rfl rfl (by kernel_rfl) (fun _ _ _ h => h) ?y6_44 (by assumption) ?r6_44
                              case y6_44 => (intro W hSW; (try dsimp only at hSW); go_simp; (try with_reducible rfl))
                              (try simp only [Act.put, sA, sZ, sS])
                              refine wpAnyH_done (by kernel_rfl) ?_ _
                              have HBB := hide HT1.out.cf.bel
                              go_wp2_with fail
                              go_ret
                              exact ⟨by rw [HX.out]; rfl, HBB.out⟩
                        · have HX := hide (HF2.out (fun g => hzo (HD2.out.1 g).1))
                          have HZO : Hid (ofB z ports.length = false) := Bool.not_eq_true _ ▸ hzo
                          obtain ⟨zpb, zpo, hA, hpl0, _⟩ := HPS.out.at hsn
                          injection hA with hA
                          injection hA with hA1 hA2
                          subst hA1 hA2
                          have HPL := hide hpl0
                          clear hzo hpl0
                          as_aux_lemma =>
                            refine wp_region_held_drew (S := fun w' => w'.cell? ⟨w.heap.size, 0, none⟩ = some (.int .i64 nodes) ∧ w'.cell? ⟨w.heap.size, 1, none⟩ = some (.slice oA owners.length oC) ∧ w'.cell? ⟨w.heap.size, 2, none⟩ = some (.int .i64 drift) ∧ w'.cell? ⟨w.heap.size, 3, none⟩ = some (.int .i64 reading) ∧ w'.cell? ⟨w.heap.size, 4, none⟩ = some (.int .i64 margin) ∧ w'.cell? ⟨w.heap.size, 5, none⟩ = some (.int .i64 bound) ∧ w'.cell? ⟨w.heap.size, 6, none⟩ = some (.int .i64 rejoin) ∧ w'.cell? ⟨w.heap.size, 7, none⟩ = some (.int .i64 quota) ∧ w'.cell? ⟨w.heap.size, 8, none⟩ = some (.slice (pA) parts.length pC) ∧ w'.cell? ⟨w.heap.size, 9, none⟩ = some (.slice wA windows.length wC) ∧ w'.cell? ⟨w.heap.size, 10, none⟩ = some (.slice (some ⟨pb, po, none⟩) ports.length qC) ∧ w'.cell? ⟨w.heap.size, 11, none⟩ = some (.slice (some ⟨lb, lof, none⟩) links.length lC) ∧ w'.cell? ⟨lb0, 0, none⟩ = some (.int .i64 (sn : Int)) ∧ w'.cell? ⟨pb, po + sn * 6 + 1, none⟩ = some (.int .i64 kind) ∧ w'.cell? ⟨pb, po + sn * 6 + 3, none⟩ = some (.int .i64 size)) (by kernel_rfl) (⟨e0, e1, e2, e3, e4, e5, e6, e7, e8, e9, e10, e11, l0, q1, q3⟩) (fun hHeld => ?_)
                            refine tkW 93 (i := 0) (v := ?v7_0) rfl rfl (by kernel_rfl) (fun _ _ _ h => h) ?y7_0 (by assumption) ?r7_0
                            case y7_0 => (intro W hSW; (try dsimp only at hSW); go_simp; (try with_reducible rfl))
                            (try simp only [Act.put, sA, sZ, sS])
                            refine tkW 94 (i := 1) (v := ?v7_1) rfl rfl (by kernel_rfl) (fun _ _ _ h => h) ?y7_1 (by assumption) ?r7_1
                            case y7_1 => (intro W hSW; (try dsimp only at hSW); go_simp; (try with_reducible rfl))
                            (try simp only [Act.put, sA, sZ, sS])
                            refine wpAnyH_ready (rs := [2]) (by kernel_rfl) (by simp) ?_
                            refine AllReadyH.cons rfl (fun K hK => ?_) AllReadyH.nil
                            rw [if_pos (by rfl)]
                            go_simp
                            refine (HIS.out _ _ HTD.out.cf).mono ?_
                            rintro e w1 ⟨rfl, hb1⟩
                            have HT1 := hide (HTD.out.below hb1)
                            have hpl := HPL.out
                            replace q1 := cell_below hb1 (Nat.le_refl _) hpl q1
                            replace q3 := cell_below hb1 (Nat.le_refl _) hpl q3
                            clear hHeld e0 e1 e2 e3 e4 e5 e6 e7 e8 e9 e10 e11 hl hll l0 l1 l2 hb1 hpl
                            obtain ⟨⟨_, ⟨hl, e0, e1, e2, e3, e4, e5, e6, e7, e8, e9, e10, e11⟩, _, _⟩, ⟨hll, l0, l1, l2⟩, _, _⟩ := HT1.out
                            dsimp only at e0 e1 e2 e3 e4 e5 e6 e7 e8 e9 e10 e11
                            rw [HZO.out]
                            refine hK.out _ _ (⟨e0, e1, e2, e3, e4, e5, e6, e7, e8, e9, e10, e11, l0, q1, q3⟩) (fun hHeld => ?_)
                            clear hK K
                            (try simp only [Act.put, sA, sZ, sS])
                            refine tkW 96 (i := 3) (v := ?v7_3) rfl rfl (by kernel_rfl) (fun _ _ _ h => h) ?y7_3 (by assumption) ?r7_3
                            case y7_3 => (intro W hSW; (try dsimp only at hSW); go_simp; (try with_reducible rfl))
                            (try simp only [Act.put, sA, sZ, sS])
                            refine tkW 97 (i := 4) (v := ?v7_4) rfl rfl (by kernel_rfl) (fun _ _ _ h => h) ?y7_4 (by assumption) ?r7_4
                            case y7_4 => (intro W hSW; (try dsimp only at hSW); go_simp; (try with_reducible rfl))
                            (try simp only [Act.put, sA, sZ, sS])
                            refine tkU 98 (i := 5) rfl rfl (by kernel_rfl) (fun _ _ _ h => h) (by assumption) ?_
                            (try simp only [Act.put, sA, sZ, sS])
                            refine tkU 99 (i := 6) rfl rfl (by kernel_rfl) (fun _ _ _ h => h) (by assumption) ?_
                            (try simp only [Act.put, sA, sZ, sS])
                            refine tkU 100 (i := 7) rfl rfl (by kernel_rfl) (fun _ _ _ h => h) (by assumption) ?_
                            (try simp only [Act.put, sA, sZ, sS])
                            refine tkU 101 (i := 8) rfl rfl (by kernel_rfl) (fun _ _ _ h => h) (by assumption) ?_
                            (try simp only [Act.put, sA, sZ, sS])
                            refine tkU 102 (i := 9) rfl rfl (by kernel_rfl) (fun _ _ _ h => h) (by assumption) ?_
                            (try simp only [Act.put, sA, sZ, sS])
                            refine tkU 103 (i := 10) rfl rfl (by kernel_rfl) (fun _ _ _ h => h) (by assumption) ?_
                            (try simp only [Act.put, sA, sZ, sS])
                            refine tkU 104 (i := 11) rfl rfl (by kernel_rfl) (fun _ _ _ h => h) (by assumption) ?_
                            (try simp only [Act.put, sA, sZ, sS])
                            refine tkW 105 (i := 12) (v := ?v7_12) rfl rfl (by kernel_rfl) (fun _ _ _ h => h) ?y7_12 (by assumption) ?r7_12
                            case y7_12 => (intro W hSW; (try dsimp only at hSW); go_simp; (try with_reducible rfl))
                            (try simp only [Act.put, sA, sZ, sS])
                            refine tkW 106 (i := 13) (v := ?v7_13) rfl rfl (by kernel_rfl) (fun _ _ _ h => h) ?y7_13 (by assumption) ?r7_13
                            case y7_13 => (intro W hSW; (try dsimp only at hSW); go_simp; (try with_reducible rfl))
                            (try simp only [Act.put, sA, sZ, sS])
                            refine tkU 107 (i := 14) rfl rfl (by kernel_rfl) (fun _ _ _ h => h) (by assumption) ?_
                            (try simp only [Act.put, sA, sZ, sS])
                            refine tkU 108 (i := 15) rfl rfl (by kernel_rfl) (fun _ _ _ h => h) (by assumption) ?_
                            (try simp only [Act.put, sA, sZ, sS])
                            refine tkU 109 (i := 16) rfl rfl (by kernel_rfl) (fun _ _ _ h => h) (by assumption) ?_
                            (try simp only [Act.put, sA, sZ, sS])
                            refine tkU 110 (i := 17) rfl rfl (by kernel_rfl) (fun _ _ _ h => h) (by assumption) ?_
                            (try simp only [Act.put, sA, sZ, sS])
                            refine tkU 111 (i := 18) rfl rfl (by kernel_rfl) (fun _ _ _ h => h) (by assumption) ?_
                            (try simp only [Act.put, sA, sZ, sS])
                            refine tkU 112 (i := 19) rfl rfl (by kernel_rfl) (fun _ _ _ h => h) (by assumption) ?_
                            (try simp only [Act.put, sA, sZ, sS])
                            refine tkU 113 (i := 20) rfl rfl (by kernel_rfl) (fun _ _ _ h => h) (by assumption) ?_
                            (try simp only [Act.put, sA, sZ, sS])
                            refine tkU 114 (i := 21) rfl rfl (by kernel_rfl) (fun _ _ _ h => h) (by assumption) ?_
                            (try simp only [Act.put, sA, sZ, sS])
                            refine tkU 115 (i := 22) rfl rfl (by kernel_rfl) (fun _ _ _ h => h) (by assumption) ?_
                            (try simp only [Act.put, sA, sZ, sS])
                            refine tkU 116 (i := 23) rfl rfl (by kernel_rfl) (fun _ _ _ h => h) (by assumption) ?_
                            (try simp only [Act.put, sA, sZ, sS])
                            refine tkU 117 (i := 24) rfl rfl (by kernel_rfl) (fun _ _ _ h => h) (by assumption) ?_
                            (try simp only [Act.put, sA, sZ, sS])
                            refine tkU 118 (i := 25) rfl rfl (by kernel_rfl) (fun _ _ _ h => h) (by assumption) ?_
                            (try simp only [Act.put, sA, sZ, sS])
                            refine tkU 119 (i := 26) rfl rfl (by kernel_rfl) (fun _ _ _ h => h) (by assumption) ?_
                            (try simp only [Act.put, sA, sZ, sS])
                            refine tkU 120 (i := 27) rfl rfl (by kernel_rfl) (fun _ _ _ h => h) (by assumption) ?_
                            (try simp only [Act.put, sA, sZ, sS])
                            refine tkW 121 (i := 28) (v := ?v7_28) rfl rfl (by kernel_rfl) (fun _ _ _ h => h) ?y7_28 (by assumption) ?r7_28
                            case y7_28 => (intro W hSW; (try dsimp only at hSW); go_simp; (try with_reducible rfl))
                            (try simp only [Act.put, sA, sZ, sS])
                            refine tkW 122 (i := 29) (v := ?v7_29) rfl rfl (by kernel_rfl) (fun _ _ _ h => h) ?y7_29 (by assumption) ?r7_29
                            case y7_29 => (intro W hSW; (try dsimp only at hSW); go_simp; (try with_reducible rfl))
                            (try simp only [Act.put, sA, sZ, sS])
                            refine tkU 123 (i := 30) rfl rfl (by kernel_rfl) (fun _ _ _ h => h) (by assumption) ?_
                            (try simp only [Act.put, sA, sZ, sS])
                            refine tkU 124 (i := 31) rfl rfl (by kernel_rfl) (fun _ _ _ h => h) (by assumption) ?_
                            (try simp only [Act.put, sA, sZ, sS])
                            refine tkU 125 (i := 32) rfl rfl (by kernel_rfl) (fun _ _ _ h => h) (by assumption) ?_
                            (try simp only [Act.put, sA, sZ, sS])
                            refine tkU 126 (i := 33) rfl rfl (by kernel_rfl) (fun _ _ _ h => h) (by assumption) ?_
                            (try simp only [Act.put, sA, sZ, sS])
                            refine tkU 127 (i := 34) rfl rfl (by kernel_rfl) (fun _ _ _ h => h) (by assumption) ?_
                            (try simp only [Act.put, sA, sZ, sS])
                            refine tkU 128 (i := 35) rfl rfl (by kernel_rfl) (fun _ _ _ h => h) (by assumption) ?_
                            (try simp only [Act.put, sA, sZ, sS])
                            refine tkU 129 (i := 36) rfl rfl (by kernel_rfl) (fun _ _ _ h => h) (by assumption) ?_
                            (try simp only [Act.put, sA, sZ, sS])
                            refine tkU 130 (i := 37) rfl rfl (by kernel_rfl) (fun _ _ _ h => h) (by assumption) ?_
                            (try simp only [Act.put, sA, sZ, sS])
                            refine tkU 131 (i := 38) rfl rfl (by kernel_rfl) (fun _ _ _ h => h) (by assumption) ?_
                            (try simp only [Act.put, sA, sZ, sS])
                            refine tkU 132 (i := 39) rfl rfl (by kernel_rfl) (fun _ _ _ h => h) (by assumption) ?_
                            (try simp only [Act.put, sA, sZ, sS])
                            refine tkU 133 (i := 40) rfl rfl (by kernel_rfl) (fun _ _ _ h => h) (by assumption) ?_
                            (try simp only [Act.put, sA, sZ, sS])
                            refine tkU 134 (i := 41) rfl rfl (by kernel_rfl) (fun _ _ _ h => h) (by assumption) ?_
                            (try simp only [Act.put, sA, sZ, sS])
                            refine tkU 135 (i := 42) rfl rfl (by kernel_rfl) (fun _ _ _ h => h) (by assumption) ?_
                            (try simp only [Act.put, sA, sZ, sS])
                            refine tkU 136 (i := 43) rfl rfl (by kernel_rfl) (fun _ _ _ h => h) (by assumption) ?_
                            (try simp only [Act.put, sA, sZ, sS])
                            refine tkW 137 (i := 44) (v := ?v7_44) rfl rfl (by kernel_rfl) (fun _ _ _ h => h) ?y7_44 (by assumption) ?r7_44
                            case y7_44 => (intro W hSW; (try dsimp only at hSW); go_simp; (try with_reducible rfl))
                            (try simp only [Act.put, sA, sZ, sS])
                            refine wpAnyH_done (by kernel_rfl) ?_ _
                            have HBB := hide HT1.out.cf.bel
                            go_wp2_with fail
                            go_ret
                            exact ⟨by rw [HX.out]; rfl, HBB.out⟩
                      · obtain rfl : t = dests.length := by omega
                        have HX := hide (HN.out (HDO.out HJ.out))
                        have HT2 := hide HT.out
                        have HXE : Hid (nm (k + 1) = xs) := by show _ = _; rw [← HXS.out, HNK.out, List.take_length]
                        have HBB := hide HT.out.cf.bel
                        by_cases hmp : xs.length ≤ ports.length
                        · go_wp2_with fail
                          go_roundw
                          case rel => exact ⟨k + 1, by omega, by go_num, HT2.out.cf, by rw [HXE.out]; exact HT2.out.us, by rw [HXE.out]; exact hmp, HX⟩
                          case measure => simp [intOf]; omega
                        · have HX := hide (HOver.out (k + 1) (by rw [HXE.out]; exact hmp))
                          go_wp2_with fail
                          go_ret
                          exact ⟨by rw [HX.out]; rfl, HBB.out⟩
                · have HX := hide (HF.out (fun g => c5 (HK2.out.1 g).2.2.2.2))
                  by_cases c4 : offset ≤ 64
                  · have n4 : decide (64 < offset) = false := by simp; omega
                    have hw0 : IntKind.i64.wrap (offset + 1) = offset + 1 := by rw [IntKind.wrap_i64]; omega
                    have hw1 : IntKind.i64.wrap (offset + 1 + size) = offset + 1 + size := by rw [IntKind.wrap_i64]; omega
                    have n5 : decide (64 < offset + 1 + size) = true := by simp; omega
                    clear c2 c3 c4 c5 hs1 hs2 v1 v2
                    as_aux_lemma =>
                      refine wp_region_held_drew (S := fun w' => w'.cell? ⟨w.heap.size, 0, none⟩ = some (.int .i64 nodes) ∧ w'.cell? ⟨w.heap.size, 1, none⟩ = some (.slice oA owners.length oC) ∧ w'.cell? ⟨w.heap.size, 2, none⟩ = some (.int .i64 drift) ∧ w'.cell? ⟨w.heap.size, 3, none⟩ = some (.int .i64 reading) ∧ w'.cell? ⟨w.heap.size, 4, none⟩ = some (.int .i64 margin) ∧ w'.cell? ⟨w.heap.size, 5, none⟩ = some (.int .i64 bound) ∧ w'.cell? ⟨w.heap.size, 6, none⟩ = some (.int .i64 rejoin) ∧ w'.cell? ⟨w.heap.size, 7, none⟩ = some (.int .i64 quota) ∧ w'.cell? ⟨w.heap.size, 8, none⟩ = some (.slice (pA) parts.length pC) ∧ w'.cell? ⟨w.heap.size, 9, none⟩ = some (.slice wA windows.length wC) ∧ w'.cell? ⟨w.heap.size, 10, none⟩ = some (.slice (some ⟨pb, po, none⟩) ports.length qC) ∧ w'.cell? ⟨w.heap.size, 11, none⟩ = some (.slice (some ⟨lb, lof, none⟩) links.length lC) ∧ w'.cell? ⟨wr.heap.size, 0, none⟩ = some (.int .i64 (sn : Int)) ∧ w'.cell? ⟨wr.heap.size, 1, none⟩ = some (.slice Ai dests.length ci) ∧ w'.cell? ⟨wr.heap.size, 2, none⟩ = some (.int .i64 offset) ∧ w'.cell? ⟨pb, po + sn * 6 + 2, none⟩ = some (.int .i64 1) ∧ w'.cell? ⟨pb, po + sn * 6 + 3, none⟩ = some (.int .i64 size)) (by kernel_rfl) (⟨e0, e1, e2, e3, e4, e5, e6, e7, e8, e9, e10, e11, l0, l1, l2, p2, p3⟩) (fun hHeld => ?_)
                      refine tkW 31 (i := 0) (v := ?v8_0) rfl rfl (by kernel_rfl) (fun _ _ _ h => h) ?y8_0 (by assumption) ?r8_0
                      case y8_0 => (intro W hSW; (try dsimp only at hSW); go_simp; (try with_reducible rfl))
                      (try simp only [Act.put, sA, sZ, sS])
                      refine tkW 32 (i := 1) (v := ?v8_1) rfl rfl (by kernel_rfl) (fun _ _ _ h => h) ?y8_1 (by assumption) ?r8_1
                      case y8_1 => (intro W hSW; (try dsimp only at hSW); go_simp; (try with_reducible rfl))
                      (try simp only [Act.put, sA, sZ, sS])
                      refine tkW 33 (i := 2) (v := ?v8_2) rfl rfl (by kernel_rfl) (fun _ _ _ h => h) ?y8_2 (by assumption) ?r8_2
                      case y8_2 => (intro W hSW; (try dsimp only at hSW); go_simp; (try with_reducible rfl))
                      (try simp only [Act.put, sA, sZ, sS])
                      refine wpAnyH_ready (rs := [3]) (by kernel_rfl) (by simp) ?_
                      refine AllReadyH.cons rfl (fun K hK => ?_) AllReadyH.nil
                      rw [if_pos (by rfl)]
                      go_simp
                      refine (HIS.out _ _ HT.out.cf).mono ?_
                      rintro e w1 ⟨rfl, hb1⟩
                      have HT1 := hide (HT.out.below hb1)
                      have hq1 := Nat.lt_of_lt_of_le hpb hb1.size
                      replace p1 := cell_below hb1 (Nat.le_refl _) hpb p1
                      replace p2 := cell_below hb1 (Nat.le_refl _) hpb p2
                      replace p3 := cell_below hb1 (Nat.le_refl _) hpb p3
                      clear hHeld e0 e1 e2 e3 e4 e5 e6 e7 e8 e9 e10 e11 hl hll l0 l1 l2 hb1
                      obtain ⟨⟨_, ⟨hl, e0, e1, e2, e3, e4, e5, e6, e7, e8, e9, e10, e11⟩, _, _⟩, ⟨hll, l0, l1, l2⟩, _, _⟩ := HT1.out
                      dsimp only at e0 e1 e2 e3 e4 e5 e6 e7 e8 e9 e10 e11
                      rw [HSO.out]
                      refine hK.out _ _ (⟨e0, e1, e2, e3, e4, e5, e6, e7, e8, e9, e10, e11, l0, l1, l2, p2, p3⟩) (fun hHeld => ?_)
                      clear hK K
                      (try simp only [Act.put, sA, sZ, sS])
                      refine tkW 35 (i := 4) (v := ?v8_4) rfl rfl (by kernel_rfl) (fun _ _ _ h => h) ?y8_4 (by assumption) ?r8_4
                      case y8_4 => (intro W hSW; (try dsimp only at hSW); go_simp; (try with_reducible rfl))
                      (try simp only [Act.put, sA, sZ, sS])
                      refine tkW 36 (i := 5) (v := ?v8_5) rfl rfl (by kernel_rfl) (fun _ _ _ h => h) ?y8_5 (by assumption) ?r8_5
                      case y8_5 => (intro W hSW; (try dsimp only at hSW); go_simp; (try with_reducible rfl))
                      (try simp only [Act.put, sA, sZ, sS])
                      refine tkW 37 (i := 6) (v := ?v8_6) rfl rfl (by kernel_rfl) (fun _ _ _ h => h) ?y8_6 (by assumption) ?r8_6
                      case y8_6 => (intro W hSW; (try dsimp only at hSW); go_simp; (try with_reducible rfl))
                      (try simp only [Act.put, sA, sZ, sS])
                      refine tkW 38 (i := 7) (v := ?v8_7) rfl rfl (by kernel_rfl) (fun _ _ _ h => h) ?y8_7 (by assumption) ?r8_7
                      case y8_7 => (intro W hSW; (try dsimp only at hSW); go_simp; (try with_reducible rfl))
                      (try simp only [Act.put, sA, sZ, sS])
                      refine tkW 39 (i := 8) (v := ?v8_8) rfl rfl (by kernel_rfl) (fun _ _ _ h => h) ?y8_8 (by assumption) ?r8_8
                      case y8_8 => (intro W hSW; (try dsimp only at hSW); go_simp; (try with_reducible rfl))
                      (try simp only [Act.put, sA, sZ, sS])
                      refine tkW 40 (i := 9) (v := ?v8_9) rfl rfl (by kernel_rfl) (fun _ _ _ h => h) ?y8_9 (by assumption) ?r8_9
                      case y8_9 => (intro W hSW; (try dsimp only at hSW); go_simp; (try with_reducible rfl))
                      (try simp only [Act.put, sA, sZ, sS])
                      refine tkW 41 (i := 10) (v := ?v8_10) rfl rfl (by kernel_rfl) (fun _ _ _ h => h) ?y8_10 (by assumption) ?r8_10
                      case y8_10 => (intro W hSW; (try dsimp only at hSW); go_simp; (try with_reducible rfl))
                      (try simp only [Act.put, sA, sZ, sS])
                      refine tkW 42 (i := 11) (v := ?v8_11) rfl rfl (by kernel_rfl) (fun _ _ _ h => h) ?y8_11 (by assumption) ?r8_11
                      case y8_11 => (intro W hSW; (try dsimp only at hSW); go_simp; (try with_reducible rfl))
                      (try simp only [Act.put, sA, sZ, sS])
                      refine tkW 43 (i := 12) (v := ?v8_12) rfl rfl (by kernel_rfl) (fun _ _ _ h => h) ?y8_12 (by assumption) ?r8_12
                      case y8_12 => (intro W hSW; (try dsimp only at hSW); go_simp; (try with_reducible rfl))
                      (try simp only [Act.put, sA, sZ, sS])
                      refine tkW 44 (i := 13) (v := ?v8_13) rfl rfl (by kernel_rfl) (fun _ _ _ h => h) ?y8_13 (by assumption) ?r8_13
                      case y8_13 => (intro W hSW; (try dsimp only at hSW); go_simp; (try with_reducible rfl))
                      (try simp only [Act.put, sA, sZ, sS])
                      refine tkW 45 (i := 14) (v := ?v8_14) rfl rfl (by kernel_rfl) (fun _ _ _ h => h) ?y8_14 (by assumption) ?r8_14
                      case y8_14 => (intro W hSW; (try dsimp only at hSW); go_simp; (try with_reducible rfl))
                      (try simp only [Act.put, sA, sZ, sS])
                      refine tkW 46 (i := 15) (v := ?v8_15) rfl rfl (by kernel_rfl) (fun _ _ _ h => h) ?y8_15 (by assumption) ?r8_15
                      case y8_15 => (intro W hSW; (try dsimp only at hSW); go_simp; (try with_reducible rfl))
                      (try simp only [Act.put, sA, sZ, sS])
                      refine tkW 47 (i := 16) (v := ?v8_16) rfl rfl (by kernel_rfl) (fun _ _ _ h => h) ?y8_16 (by assumption) ?r8_16
                      case y8_16 => (intro W hSW; (try dsimp only at hSW); go_simp; (try with_reducible rfl))
                      (try simp only [Act.put, sA, sZ, sS])
                      refine tkW 48 (i := 17) (v := ?v8_17) rfl rfl (by kernel_rfl) (fun _ _ _ h => h) ?y8_17 (by assumption) ?r8_17
                      case y8_17 => (intro W hSW; (try dsimp only at hSW); go_simp; (try with_reducible rfl))
                      (try simp only [Act.put, sA, sZ, sS])
                      refine tkW 49 (i := 18) (v := ?v8_18) rfl rfl (by kernel_rfl) (fun _ _ _ h => h) ?y8_18 (by assumption) ?r8_18
                      case y8_18 => (intro W hSW; (try dsimp only at hSW); go_simp; (try with_reducible rfl))
                      (try simp only [Act.put, sA, sZ, sS])
                      refine tkW 50 (i := 19) (v := ?v8_19) rfl rfl (by kernel_rfl) (fun _ _ _ h => h) ?y8_19 (by assumption) ?r8_19
                      case y8_19 => (intro W hSW; (try dsimp only at hSW); go_simp; (try with_reducible rfl))
                      (try simp only [Act.put, sA, sZ, sS])
                      refine tkW 51 (i := 20) (v := ?v8_20) rfl rfl (by kernel_rfl) (fun _ _ _ h => h) ?y8_20 (by assumption) ?r8_20
                      case y8_20 => (intro W hSW; (try dsimp only at hSW); go_simp; (try with_reducible rfl))
                      (try simp only [Act.put, sA, sZ, sS])
                      refine tkW 52 (i := 21) (v := ?v8_21) rfl rfl (by kernel_rfl) (fun _ _ _ h => h) ?y8_21 (by assumption) ?r8_21
                      case y8_21 => (intro W hSW; (try dsimp only at hSW); go_simp; (try with_reducible rfl))
                      (try simp only [Act.put, sA, sZ, sS])
                      refine tkW 53 (i := 22) (v := ?v8_22) rfl rfl (by kernel_rfl) (fun _ _ _ h => h) ?y8_22 (by assumption) ?r8_22
                      case y8_22 => (intro W hSW; (try dsimp only at hSW); go_simp; (try with_reducible rfl))
                      (try simp only [Act.put, sA, sZ, sS])
                      refine tkW 54 (i := 23) (v := ?v8_23) rfl rfl (by kernel_rfl) (fun _ _ _ h => h) ?y8_23 (by assumption) ?r8_23
                      case y8_23 => (intro W hSW; (try dsimp only at hSW); go_simp; (try with_reducible rfl))
                      (try simp only [Act.put, sA, sZ, sS])
                      refine tkW 55 (i := 24) (v := ?v8_24) rfl rfl (by kernel_rfl) (fun _ _ _ h => h) ?y8_24 (by assumption) ?r8_24
                      case y8_24 => (intro W hSW; (try dsimp only at hSW); go_simp; (try with_reducible rfl))
                      (try simp only [Act.put, sA, sZ, sS])
                      refine tkW 56 (i := 25) (v := ?v8_25) rfl rfl (by kernel_rfl) (fun _ _ _ h => h) ?y8_25 (by assumption) ?r8_25
                      case y8_25 => (intro W hSW; (try dsimp only at hSW); go_simp; (try with_reducible rfl))
                      (try simp only [Act.put, sA, sZ, sS])
                      refine tkW 57 (i := 26) (v := ?v8_26) rfl rfl (by kernel_rfl) (fun _ _ _ h => h) ?y8_26 (by assumption) ?r8_26
                      case y8_26 => (intro W hSW; (try dsimp only at hSW); go_simp; (try with_reducible rfl))
                      (try simp only [Act.put, sA, sZ, sS])
                      refine tkW 58 (i := 27) (v := ?v8_27) rfl rfl (by kernel_rfl) (fun _ _ _ h => h) ?y8_27 (by assumption) ?r8_27
                      case y8_27 => (intro W hSW; (try dsimp only at hSW); go_simp; (try with_reducible rfl))
                      (try simp only [Act.put, sA, sZ, sS])
                      refine tkW 59 (i := 28) (v := ?v8_28) rfl rfl (by kernel_rfl) (fun _ _ _ h => h) ?y8_28 (by assumption) ?r8_28
                      case y8_28 => (intro W hSW; (try dsimp only at hSW); go_simp; (try with_reducible rfl))
                      (try simp only [Act.put, sA, sZ, sS])
                      refine tkW 60 (i := 29) (v := ?v8_29) rfl rfl (by kernel_rfl) (fun _ _ _ h => h) ?y8_29 (by assumption) ?r8_29
                      case y8_29 => (intro W hSW; (try dsimp only at hSW); go_simp; (try with_reducible rfl))
                      (try simp only [Act.put, sA, sZ, sS])
                      refine tkW 61 (i := 30) (v := ?v8_30) rfl rfl (by kernel_rfl) (fun _ _ _ h => h) ?y8_30 (by assumption) ?r8_30
                      case y8_30 => (intro W hSW; (try dsimp only at hSW); go_simp; (try with_reducible rfl))
                      (try simp only [Act.put, sA, sZ, sS])
                      refine tkW 62 (i := 31) (v := ?v8_31) rfl rfl (by kernel_rfl) (fun _ _ _ h => h) ?y8_31 (by assumption) ?r8_31
                      case y8_31 => (intro W hSW; (try dsimp only at hSW); go_simp; (try with_reducible rfl))
                      (try simp only [Act.put, sA, sZ, sS])
                      refine tkW 63 (i := 32) (v := ?v8_32) rfl rfl (by kernel_rfl) (fun _ _ _ h => h) ?y8_32 (by assumption) ?r8_32
                      case y8_32 => (intro W hSW; (try dsimp only at hSW); go_simp; (try with_reducible rfl))
                      (try simp only [Act.put, sA, sZ, sS])
                      refine tkW 64 (i := 33) (v := ?v8_33) rfl rfl (by kernel_rfl) (fun _ _ _ h => h) ?y8_33 (by assumption) ?r8_33
                      case y8_33 => (intro W hSW; (try dsimp only at hSW); go_simp; (try with_reducible rfl))
                      (try simp only [Act.put, sA, sZ, sS])
                      refine tkW 65 (i := 34) (v := ?v8_34) rfl rfl (by kernel_rfl) (fun _ _ _ h => h) ?y8_34 (by assumption) ?r8_34
                      case y8_34 => (intro W hSW; (try dsimp only at hSW); go_simp; (try with_reducible rfl))
                      (try simp only [Act.put, sA, sZ, sS])
                      refine tkW 66 (i := 35) (v := ?v8_35) rfl rfl (by kernel_rfl) (fun _ _ _ h => h) ?y8_35 (by assumption) ?r8_35
                      case y8_35 => (intro W hSW; (try dsimp only at hSW); go_simp; (try with_reducible rfl))
                      (try simp only [Act.put, sA, sZ, sS])
                      refine tkW 67 (i := 36) (v := ?v8_36) rfl rfl (by kernel_rfl) (fun _ _ _ h => h) ?y8_36 (by assumption) ?r8_36
                      case y8_36 => (intro W hSW; (try dsimp only at hSW); go_simp; (try with_reducible rfl))
                      (try simp only [Act.put, sA, sZ, sS])
                      refine tkW 68 (i := 37) (v := ?v8_37) rfl rfl (by kernel_rfl) (fun _ _ _ h => h) ?y8_37 (by assumption) ?r8_37
                      case y8_37 => (intro W hSW; (try dsimp only at hSW); go_simp; (try with_reducible rfl))
                      (try simp only [Act.put, sA, sZ, sS])
                      refine tkW 69 (i := 38) (v := ?v8_38) rfl rfl (by kernel_rfl) (fun _ _ _ h => h) ?y8_38 (by assumption) ?r8_38
                      case y8_38 => (intro W hSW; (try dsimp only at hSW); go_simp; (try with_reducible rfl))
                      (try simp only [Act.put, sA, sZ, sS])
                      refine tkW 70 (i := 39) (v := ?v8_39) rfl rfl (by kernel_rfl) (fun _ _ _ h => h) ?y8_39 (by assumption) ?r8_39
                      case y8_39 => (intro W hSW; (try dsimp only at hSW); go_simp; (try with_reducible rfl))
                      (try simp only [Act.put, sA, sZ, sS])
                      refine tkW 71 (i := 40) (v := ?v8_40) rfl rfl (by kernel_rfl) (fun _ _ _ h => h) ?y8_40 (by assumption) ?r8_40
                      case y8_40 => (intro W hSW; (try dsimp only at hSW); go_simp; (try with_reducible rfl))
                      (try simp only [Act.put, sA, sZ, sS])
                      refine tkW 72 (i := 41) (v := ?v8_41) rfl rfl (by kernel_rfl) (fun _ _ _ h => h) ?y8_41 (by assumption) ?r8_41
                      case y8_41 => (intro W hSW; (try dsimp only at hSW); go_simp; (try with_reducible rfl))
                      (try simp only [Act.put, sA, sZ, sS])
                      refine tkW 73 (i := 42) (v := ?v8_42) rfl rfl (by kernel_rfl) (fun _ _ _ h => h) ?y8_42 (by assumption) ?r8_42
                      case y8_42 => (intro W hSW; (try dsimp only at hSW); go_simp; (try with_reducible rfl))
                      (try simp only [Act.put, sA, sZ, sS])
                      refine tkW 74 (i := 43) (v := ?v8_43) rfl rfl (by kernel_rfl) (fun _ _ _ h => h) ?y8_43 (by assumption) ?r8_43
                      case y8_43 => (intro W hSW; (try dsimp only at hSW); go_simp; (try with_reducible rfl))
                      (try simp only [Act.put, sA, sZ, sS])
                      refine tkW 75 (i := 44) (v := ?v8_44) rfl rfl (by kernel_rfl) (fun _ _ _ h => h) ?y8_44 (by assumption) ?r8_44
                      case y8_44 => (intro W hSW; (try dsimp only at hSW); go_simp; (try with_reducible rfl))
                      (try simp only [Act.put, sA, sZ, sS])
                      refine wpAnyH_done (by kernel_rfl) ?_ _
                      have HBB := hide HT1.out.cf.bel
                      go_wp2_with fail
                      go_ret
                      exact ⟨by rw [HX.out]; rfl, HBB.out⟩
                  · have n4 : decide (64 < offset) = true := by simp; omega
                    clear c2 c3 c4 c5 hs1 hs2 v1 v2
                    as_aux_lemma =>
                      refine wp_region_held_drew (S := fun w' => w'.cell? ⟨w.heap.size, 0, none⟩ = some (.int .i64 nodes) ∧ w'.cell? ⟨w.heap.size, 1, none⟩ = some (.slice oA owners.length oC) ∧ w'.cell? ⟨w.heap.size, 2, none⟩ = some (.int .i64 drift) ∧ w'.cell? ⟨w.heap.size, 3, none⟩ = some (.int .i64 reading) ∧ w'.cell? ⟨w.heap.size, 4, none⟩ = some (.int .i64 margin) ∧ w'.cell? ⟨w.heap.size, 5, none⟩ = some (.int .i64 bound) ∧ w'.cell? ⟨w.heap.size, 6, none⟩ = some (.int .i64 rejoin) ∧ w'.cell? ⟨w.heap.size, 7, none⟩ = some (.int .i64 quota) ∧ w'.cell? ⟨w.heap.size, 8, none⟩ = some (.slice (pA) parts.length pC) ∧ w'.cell? ⟨w.heap.size, 9, none⟩ = some (.slice wA windows.length wC) ∧ w'.cell? ⟨w.heap.size, 10, none⟩ = some (.slice (some ⟨pb, po, none⟩) ports.length qC) ∧ w'.cell? ⟨w.heap.size, 11, none⟩ = some (.slice (some ⟨lb, lof, none⟩) links.length lC) ∧ w'.cell? ⟨wr.heap.size, 0, none⟩ = some (.int .i64 (sn : Int)) ∧ w'.cell? ⟨wr.heap.size, 1, none⟩ = some (.slice Ai dests.length ci) ∧ w'.cell? ⟨wr.heap.size, 2, none⟩ = some (.int .i64 offset) ∧ w'.cell? ⟨pb, po + sn * 6 + 2, none⟩ = some (.int .i64 1) ∧ w'.cell? ⟨pb, po + sn * 6 + 3, none⟩ = some (.int .i64 size)) (by kernel_rfl) (⟨e0, e1, e2, e3, e4, e5, e6, e7, e8, e9, e10, e11, l0, l1, l2, p2, p3⟩) (fun hHeld => ?_)
                      refine tkW 31 (i := 0) (v := ?v9_0) rfl rfl (by kernel_rfl) (fun _ _ _ h => h) ?y9_0 (by assumption) ?r9_0
                      case y9_0 => (intro W hSW; (try dsimp only at hSW); go_simp; (try with_reducible rfl))
                      (try simp only [Act.put, sA, sZ, sS])
                      refine tkW 32 (i := 1) (v := ?v9_1) rfl rfl (by kernel_rfl) (fun _ _ _ h => h) ?y9_1 (by assumption) ?r9_1
                      case y9_1 => (intro W hSW; (try dsimp only at hSW); go_simp; (try with_reducible rfl))
                      (try simp only [Act.put, sA, sZ, sS])
                      refine tkW 33 (i := 2) (v := ?v9_2) rfl rfl (by kernel_rfl) (fun _ _ _ h => h) ?y9_2 (by assumption) ?r9_2
                      case y9_2 => (intro W hSW; (try dsimp only at hSW); go_simp; (try with_reducible rfl))
                      (try simp only [Act.put, sA, sZ, sS])
                      refine wpAnyH_ready (rs := [3]) (by kernel_rfl) (by simp) ?_
                      refine AllReadyH.cons rfl (fun K hK => ?_) AllReadyH.nil
                      rw [if_pos (by rfl)]
                      go_simp
                      refine (HIS.out _ _ HT.out.cf).mono ?_
                      rintro e w1 ⟨rfl, hb1⟩
                      have HT1 := hide (HT.out.below hb1)
                      have hq1 := Nat.lt_of_lt_of_le hpb hb1.size
                      replace p1 := cell_below hb1 (Nat.le_refl _) hpb p1
                      replace p2 := cell_below hb1 (Nat.le_refl _) hpb p2
                      replace p3 := cell_below hb1 (Nat.le_refl _) hpb p3
                      clear hHeld e0 e1 e2 e3 e4 e5 e6 e7 e8 e9 e10 e11 hl hll l0 l1 l2 hb1
                      obtain ⟨⟨_, ⟨hl, e0, e1, e2, e3, e4, e5, e6, e7, e8, e9, e10, e11⟩, _, _⟩, ⟨hll, l0, l1, l2⟩, _, _⟩ := HT1.out
                      dsimp only at e0 e1 e2 e3 e4 e5 e6 e7 e8 e9 e10 e11
                      rw [HSO.out]
                      refine hK.out _ _ (⟨e0, e1, e2, e3, e4, e5, e6, e7, e8, e9, e10, e11, l0, l1, l2, p2, p3⟩) (fun hHeld => ?_)
                      clear hK K
                      (try simp only [Act.put, sA, sZ, sS])
                      refine tkW 35 (i := 4) (v := ?v9_4) rfl rfl (by kernel_rfl) (fun _ _ _ h => h) ?y9_4 (by assumption) ?r9_4
                      case y9_4 => (intro W hSW; (try dsimp only at hSW); go_simp; (try with_reducible rfl))
                      (try simp only [Act.put, sA, sZ, sS])
                      refine tkW 36 (i := 5) (v := ?v9_5) rfl rfl (by kernel_rfl) (fun _ _ _ h => h) ?y9_5 (by assumption) ?r9_5
                      case y9_5 => (intro W hSW; (try dsimp only at hSW); go_simp; (try with_reducible rfl))
                      (try simp only [Act.put, sA, sZ, sS])
                      refine tkW 37 (i := 6) (v := ?v9_6) rfl rfl (by kernel_rfl) (fun _ _ _ h => h) ?y9_6 (by assumption) ?r9_6
                      case y9_6 => (intro W hSW; (try dsimp only at hSW); go_simp; (try with_reducible rfl))
                      (try simp only [Act.put, sA, sZ, sS])
                      refine tkW 38 (i := 7) (v := ?v9_7) rfl rfl (by kernel_rfl) (fun _ _ _ h => h) ?y9_7 (by assumption) ?r9_7
                      case y9_7 => (intro W hSW; (try dsimp only at hSW); go_simp; (try with_reducible rfl))
                      (try simp only [Act.put, sA, sZ, sS])
                      refine tkW 39 (i := 8) (v := ?v9_8) rfl rfl (by kernel_rfl) (fun _ _ _ h => h) ?y9_8 (by assumption) ?r9_8
                      case y9_8 => (intro W hSW; (try dsimp only at hSW); go_simp; (try with_reducible rfl))
                      (try simp only [Act.put, sA, sZ, sS])
                      refine tkW 40 (i := 9) (v := ?v9_9) rfl rfl (by kernel_rfl) (fun _ _ _ h => h) ?y9_9 (by assumption) ?r9_9
                      case y9_9 => (intro W hSW; (try dsimp only at hSW); go_simp; (try with_reducible rfl))
                      (try simp only [Act.put, sA, sZ, sS])
                      refine tkW 41 (i := 10) (v := ?v9_10) rfl rfl (by kernel_rfl) (fun _ _ _ h => h) ?y9_10 (by assumption) ?r9_10
                      case y9_10 => (intro W hSW; (try dsimp only at hSW); go_simp; (try with_reducible rfl))
                      (try simp only [Act.put, sA, sZ, sS])
                      refine tkW 42 (i := 11) (v := ?v9_11) rfl rfl (by kernel_rfl) (fun _ _ _ h => h) ?y9_11 (by assumption) ?r9_11
                      case y9_11 => (intro W hSW; (try dsimp only at hSW); go_simp; (try with_reducible rfl))
                      (try simp only [Act.put, sA, sZ, sS])
                      refine tkW 43 (i := 12) (v := ?v9_12) rfl rfl (by kernel_rfl) (fun _ _ _ h => h) ?y9_12 (by assumption) ?r9_12
                      case y9_12 => (intro W hSW; (try dsimp only at hSW); go_simp; (try with_reducible rfl))
                      (try simp only [Act.put, sA, sZ, sS])
                      refine tkW 44 (i := 13) (v := ?v9_13) rfl rfl (by kernel_rfl) (fun _ _ _ h => h) ?y9_13 (by assumption) ?r9_13
                      case y9_13 => (intro W hSW; (try dsimp only at hSW); go_simp; (try with_reducible rfl))
                      (try simp only [Act.put, sA, sZ, sS])
                      refine tkW 45 (i := 14) (v := ?v9_14) rfl rfl (by kernel_rfl) (fun _ _ _ h => h) ?y9_14 (by assumption) ?r9_14
                      case y9_14 => (intro W hSW; (try dsimp only at hSW); go_simp; (try with_reducible rfl))
                      (try simp only [Act.put, sA, sZ, sS])
                      refine tkW 46 (i := 15) (v := ?v9_15) rfl rfl (by kernel_rfl) (fun _ _ _ h => h) ?y9_15 (by assumption) ?r9_15
                      case y9_15 => (intro W hSW; (try dsimp only at hSW); go_simp; (try with_reducible rfl))
                      (try simp only [Act.put, sA, sZ, sS])
                      refine tkW 47 (i := 16) (v := ?v9_16) rfl rfl (by kernel_rfl) (fun _ _ _ h => h) ?y9_16 (by assumption) ?r9_16
                      case y9_16 => (intro W hSW; (try dsimp only at hSW); go_simp; (try with_reducible rfl))
                      (try simp only [Act.put, sA, sZ, sS])
                      refine tkW 48 (i := 17) (v := ?v9_17) rfl rfl (by kernel_rfl) (fun _ _ _ h => h) ?y9_17 (by assumption) ?r9_17
                      case y9_17 => (intro W hSW; (try dsimp only at hSW); go_simp; (try with_reducible rfl))
                      (try simp only [Act.put, sA, sZ, sS])
                      refine tkW 49 (i := 18) (v := ?v9_18) rfl rfl (by kernel_rfl) (fun _ _ _ h => h) ?y9_18 (by assumption) ?r9_18
                      case y9_18 => (intro W hSW; (try dsimp only at hSW); go_simp; (try with_reducible rfl))
                      (try simp only [Act.put, sA, sZ, sS])
                      refine tkW 50 (i := 19) (v := ?v9_19) rfl rfl (by kernel_rfl) (fun _ _ _ h => h) ?y9_19 (by assumption) ?r9_19
                      case y9_19 => (intro W hSW; (try dsimp only at hSW); go_simp; (try with_reducible rfl))
                      (try simp only [Act.put, sA, sZ, sS])
                      refine tkW 51 (i := 20) (v := ?v9_20) rfl rfl (by kernel_rfl) (fun _ _ _ h => h) ?y9_20 (by assumption) ?r9_20
                      case y9_20 => (intro W hSW; (try dsimp only at hSW); go_simp; (try with_reducible rfl))
                      (try simp only [Act.put, sA, sZ, sS])
                      refine tkW 52 (i := 21) (v := ?v9_21) rfl rfl (by kernel_rfl) (fun _ _ _ h => h) ?y9_21 (by assumption) ?r9_21
                      case y9_21 => (intro W hSW; (try dsimp only at hSW); go_simp; (try with_reducible rfl))
                      (try simp only [Act.put, sA, sZ, sS])
                      refine tkW 53 (i := 22) (v := ?v9_22) rfl rfl (by kernel_rfl) (fun _ _ _ h => h) ?y9_22 (by assumption) ?r9_22
                      case y9_22 => (intro W hSW; (try dsimp only at hSW); go_simp; (try with_reducible rfl))
                      (try simp only [Act.put, sA, sZ, sS])
                      refine tkW 54 (i := 23) (v := ?v9_23) rfl rfl (by kernel_rfl) (fun _ _ _ h => h) ?y9_23 (by assumption) ?r9_23
                      case y9_23 => (intro W hSW; (try dsimp only at hSW); go_simp; (try with_reducible rfl))
                      (try simp only [Act.put, sA, sZ, sS])
                      refine tkW 55 (i := 24) (v := ?v9_24) rfl rfl (by kernel_rfl) (fun _ _ _ h => h) ?y9_24 (by assumption) ?r9_24
                      case y9_24 => (intro W hSW; (try dsimp only at hSW); go_simp; (try with_reducible rfl))
                      (try simp only [Act.put, sA, sZ, sS])
                      refine tkW 56 (i := 25) (v := ?v9_25) rfl rfl (by kernel_rfl) (fun _ _ _ h => h) ?y9_25 (by assumption) ?r9_25
                      case y9_25 => (intro W hSW; (try dsimp only at hSW); go_simp; (try with_reducible rfl))
                      (try simp only [Act.put, sA, sZ, sS])
                      refine tkW 57 (i := 26) (v := ?v9_26) rfl rfl (by kernel_rfl) (fun _ _ _ h => h) ?y9_26 (by assumption) ?r9_26
                      case y9_26 => (intro W hSW; (try dsimp only at hSW); go_simp; (try with_reducible rfl))
                      (try simp only [Act.put, sA, sZ, sS])
                      refine tkW 58 (i := 27) (v := ?v9_27) rfl rfl (by kernel_rfl) (fun _ _ _ h => h) ?y9_27 (by assumption) ?r9_27
                      case y9_27 => (intro W hSW; (try dsimp only at hSW); go_simp; (try with_reducible rfl))
                      (try simp only [Act.put, sA, sZ, sS])
                      refine tkW 59 (i := 28) (v := ?v9_28) rfl rfl (by kernel_rfl) (fun _ _ _ h => h) ?y9_28 (by assumption) ?r9_28
                      case y9_28 => (intro W hSW; (try dsimp only at hSW); go_simp; (try with_reducible rfl))
                      (try simp only [Act.put, sA, sZ, sS])
                      refine tkW 60 (i := 29) (v := ?v9_29) rfl rfl (by kernel_rfl) (fun _ _ _ h => h) ?y9_29 (by assumption) ?r9_29
                      case y9_29 => (intro W hSW; (try dsimp only at hSW); go_simp; (try with_reducible rfl))
                      (try simp only [Act.put, sA, sZ, sS])
                      refine tkW 61 (i := 30) (v := ?v9_30) rfl rfl (by kernel_rfl) (fun _ _ _ h => h) ?y9_30 (by assumption) ?r9_30
                      case y9_30 => (intro W hSW; (try dsimp only at hSW); go_simp; (try with_reducible rfl))
                      (try simp only [Act.put, sA, sZ, sS])
                      refine tkW 62 (i := 31) (v := ?v9_31) rfl rfl (by kernel_rfl) (fun _ _ _ h => h) ?y9_31 (by assumption) ?r9_31
                      case y9_31 => (intro W hSW; (try dsimp only at hSW); go_simp; (try with_reducible rfl))
                      (try simp only [Act.put, sA, sZ, sS])
                      refine tkU 63 (i := 32) rfl rfl (by kernel_rfl) (fun _ _ _ h => h) (by assumption) ?_
                      (try simp only [Act.put, sA, sZ, sS])
                      refine tkU 64 (i := 33) rfl rfl (by kernel_rfl) (fun _ _ _ h => h) (by assumption) ?_
                      (try simp only [Act.put, sA, sZ, sS])
                      refine tkU 65 (i := 34) rfl rfl (by kernel_rfl) (fun _ _ _ h => h) (by assumption) ?_
                      (try simp only [Act.put, sA, sZ, sS])
                      refine tkU 66 (i := 35) rfl rfl (by kernel_rfl) (fun _ _ _ h => h) (by assumption) ?_
                      (try simp only [Act.put, sA, sZ, sS])
                      refine tkU 67 (i := 36) rfl rfl (by kernel_rfl) (fun _ _ _ h => h) (by assumption) ?_
                      (try simp only [Act.put, sA, sZ, sS])
                      refine tkU 68 (i := 37) rfl rfl (by kernel_rfl) (fun _ _ _ h => h) (by assumption) ?_
                      (try simp only [Act.put, sA, sZ, sS])
                      refine tkU 69 (i := 38) rfl rfl (by kernel_rfl) (fun _ _ _ h => h) (by assumption) ?_
                      (try simp only [Act.put, sA, sZ, sS])
                      refine tkU 70 (i := 39) rfl rfl (by kernel_rfl) (fun _ _ _ h => h) (by assumption) ?_
                      (try simp only [Act.put, sA, sZ, sS])
                      refine tkU 71 (i := 40) rfl rfl (by kernel_rfl) (fun _ _ _ h => h) (by assumption) ?_
                      (try simp only [Act.put, sA, sZ, sS])
                      refine tkU 72 (i := 41) rfl rfl (by kernel_rfl) (fun _ _ _ h => h) (by assumption) ?_
                      (try simp only [Act.put, sA, sZ, sS])
                      refine tkU 73 (i := 42) rfl rfl (by kernel_rfl) (fun _ _ _ h => h) (by assumption) ?_
                      (try simp only [Act.put, sA, sZ, sS])
                      refine tkU 74 (i := 43) rfl rfl (by kernel_rfl) (fun _ _ _ h => h) (by assumption) ?_
                      (try simp only [Act.put, sA, sZ, sS])
                      refine tkW 75 (i := 44) (v := ?v9_44) rfl rfl (by kernel_rfl) (fun _ _ _ h => h) ?y9_44 (by assumption) ?r9_44
                      case y9_44 => (intro W hSW; (try dsimp only at hSW); go_simp; (try with_reducible rfl))
                      (try simp only [Act.put, sA, sZ, sS])
                      refine wpAnyH_done (by kernel_rfl) ?_ _
                      have HBB := hide HT1.out.cf.bel
                      go_wp2_with fail
                      go_ret
                      exact ⟨by rw [HX.out]; rfl, HBB.out⟩
              · have HX := hide (HF.out (fun g => c3 (HK2.out.1 g).2.2.2.1))
                have n3 : decide (offset < 0) = true := by simp; omega
                clear c2 c3 hs1 hs2 v1 v2
                as_aux_lemma =>
                  refine wp_region_held_drew (S := fun w' => w'.cell? ⟨w.heap.size, 0, none⟩ = some (.int .i64 nodes) ∧ w'.cell? ⟨w.heap.size, 1, none⟩ = some (.slice oA owners.length oC) ∧ w'.cell? ⟨w.heap.size, 2, none⟩ = some (.int .i64 drift) ∧ w'.cell? ⟨w.heap.size, 3, none⟩ = some (.int .i64 reading) ∧ w'.cell? ⟨w.heap.size, 4, none⟩ = some (.int .i64 margin) ∧ w'.cell? ⟨w.heap.size, 5, none⟩ = some (.int .i64 bound) ∧ w'.cell? ⟨w.heap.size, 6, none⟩ = some (.int .i64 rejoin) ∧ w'.cell? ⟨w.heap.size, 7, none⟩ = some (.int .i64 quota) ∧ w'.cell? ⟨w.heap.size, 8, none⟩ = some (.slice (pA) parts.length pC) ∧ w'.cell? ⟨w.heap.size, 9, none⟩ = some (.slice wA windows.length wC) ∧ w'.cell? ⟨w.heap.size, 10, none⟩ = some (.slice (some ⟨pb, po, none⟩) ports.length qC) ∧ w'.cell? ⟨w.heap.size, 11, none⟩ = some (.slice (some ⟨lb, lof, none⟩) links.length lC) ∧ w'.cell? ⟨wr.heap.size, 0, none⟩ = some (.int .i64 (sn : Int)) ∧ w'.cell? ⟨wr.heap.size, 1, none⟩ = some (.slice Ai dests.length ci) ∧ w'.cell? ⟨wr.heap.size, 2, none⟩ = some (.int .i64 offset) ∧ w'.cell? ⟨pb, po + sn * 6 + 2, none⟩ = some (.int .i64 1) ∧ w'.cell? ⟨pb, po + sn * 6 + 3, none⟩ = some (.int .i64 size)) (by kernel_rfl) (⟨e0, e1, e2, e3, e4, e5, e6, e7, e8, e9, e10, e11, l0, l1, l2, p2, p3⟩) (fun hHeld => ?_)
                  refine tkW 31 (i := 0) (v := ?v10_0) rfl rfl (by kernel_rfl) (fun _ _ _ h => h) ?y10_0 (by assumption) ?r10_0
                  case y10_0 => (intro W hSW; (try dsimp only at hSW); go_simp; (try with_reducible rfl))
                  (try simp only [Act.put, sA, sZ, sS])
                  refine tkW 32 (i := 1) (v := ?v10_1) rfl rfl (by kernel_rfl) (fun _ _ _ h => h) ?y10_1 (by assumption) ?r10_1
                  case y10_1 => (intro W hSW; (try dsimp only at hSW); go_simp; (try with_reducible rfl))
                  (try simp only [Act.put, sA, sZ, sS])
                  refine tkW 33 (i := 2) (v := ?v10_2) rfl rfl (by kernel_rfl) (fun _ _ _ h => h) ?y10_2 (by assumption) ?r10_2
                  case y10_2 => (intro W hSW; (try dsimp only at hSW); go_simp; (try with_reducible rfl))
                  (try simp only [Act.put, sA, sZ, sS])
                  refine wpAnyH_ready (rs := [3]) (by kernel_rfl) (by simp) ?_
                  refine AllReadyH.cons rfl (fun K hK => ?_) AllReadyH.nil
                  rw [if_pos (by rfl)]
                  go_simp
                  refine (HIS.out _ _ HT.out.cf).mono ?_
                  rintro e w1 ⟨rfl, hb1⟩
                  have HT1 := hide (HT.out.below hb1)
                  have hq1 := Nat.lt_of_lt_of_le hpb hb1.size
                  replace p1 := cell_below hb1 (Nat.le_refl _) hpb p1
                  replace p2 := cell_below hb1 (Nat.le_refl _) hpb p2
                  replace p3 := cell_below hb1 (Nat.le_refl _) hpb p3
                  clear hHeld e0 e1 e2 e3 e4 e5 e6 e7 e8 e9 e10 e11 hl hll l0 l1 l2 hb1
                  obtain ⟨⟨_, ⟨hl, e0, e1, e2, e3, e4, e5, e6, e7, e8, e9, e10, e11⟩, _, _⟩, ⟨hll, l0, l1, l2⟩, _, _⟩ := HT1.out
                  dsimp only at e0 e1 e2 e3 e4 e5 e6 e7 e8 e9 e10 e11
                  rw [HSO.out]
                  refine hK.out _ _ (⟨e0, e1, e2, e3, e4, e5, e6, e7, e8, e9, e10, e11, l0, l1, l2, p2, p3⟩) (fun hHeld => ?_)
                  clear hK K
                  (try simp only [Act.put, sA, sZ, sS])
                  refine tkW 35 (i := 4) (v := ?v10_4) rfl rfl (by kernel_rfl) (fun _ _ _ h => h) ?y10_4 (by assumption) ?r10_4
                  case y10_4 => (intro W hSW; (try dsimp only at hSW); go_simp; (try with_reducible rfl))
                  (try simp only [Act.put, sA, sZ, sS])
                  refine tkW 36 (i := 5) (v := ?v10_5) rfl rfl (by kernel_rfl) (fun _ _ _ h => h) ?y10_5 (by assumption) ?r10_5
                  case y10_5 => (intro W hSW; (try dsimp only at hSW); go_simp; (try with_reducible rfl))
                  (try simp only [Act.put, sA, sZ, sS])
                  refine tkW 37 (i := 6) (v := ?v10_6) rfl rfl (by kernel_rfl) (fun _ _ _ h => h) ?y10_6 (by assumption) ?r10_6
                  case y10_6 => (intro W hSW; (try dsimp only at hSW); go_simp; (try with_reducible rfl))
                  (try simp only [Act.put, sA, sZ, sS])
                  refine tkW 38 (i := 7) (v := ?v10_7) rfl rfl (by kernel_rfl) (fun _ _ _ h => h) ?y10_7 (by assumption) ?r10_7
                  case y10_7 => (intro W hSW; (try dsimp only at hSW); go_simp; (try with_reducible rfl))
                  (try simp only [Act.put, sA, sZ, sS])
                  refine tkW 39 (i := 8) (v := ?v10_8) rfl rfl (by kernel_rfl) (fun _ _ _ h => h) ?y10_8 (by assumption) ?r10_8
                  case y10_8 => (intro W hSW; (try dsimp only at hSW); go_simp; (try with_reducible rfl))
                  (try simp only [Act.put, sA, sZ, sS])
                  refine tkW 40 (i := 9) (v := ?v10_9) rfl rfl (by kernel_rfl) (fun _ _ _ h => h) ?y10_9 (by assumption) ?r10_9
                  case y10_9 => (intro W hSW; (try dsimp only at hSW); go_simp; (try with_reducible rfl))
                  (try simp only [Act.put, sA, sZ, sS])
                  refine tkW 41 (i := 10) (v := ?v10_10) rfl rfl (by kernel_rfl) (fun _ _ _ h => h) ?y10_10 (by assumption) ?r10_10
                  case y10_10 => (intro W hSW; (try dsimp only at hSW); go_simp; (try with_reducible rfl))
                  (try simp only [Act.put, sA, sZ, sS])
                  refine tkW 42 (i := 11) (v := ?v10_11) rfl rfl (by kernel_rfl) (fun _ _ _ h => h) ?y10_11 (by assumption) ?r10_11
                  case y10_11 => (intro W hSW; (try dsimp only at hSW); go_simp; (try with_reducible rfl))
                  (try simp only [Act.put, sA, sZ, sS])
                  refine tkW 43 (i := 12) (v := ?v10_12) rfl rfl (by kernel_rfl) (fun _ _ _ h => h) ?y10_12 (by assumption) ?r10_12
                  case y10_12 => (intro W hSW; (try dsimp only at hSW); go_simp; (try with_reducible rfl))
                  (try simp only [Act.put, sA, sZ, sS])
                  refine tkW 44 (i := 13) (v := ?v10_13) rfl rfl (by kernel_rfl) (fun _ _ _ h => h) ?y10_13 (by assumption) ?r10_13
                  case y10_13 => (intro W hSW; (try dsimp only at hSW); go_simp; (try with_reducible rfl))
                  (try simp only [Act.put, sA, sZ, sS])
                  refine tkW 45 (i := 14) (v := ?v10_14) rfl rfl (by kernel_rfl) (fun _ _ _ h => h) ?y10_14 (by assumption) ?r10_14
                  case y10_14 => (intro W hSW; (try dsimp only at hSW); go_simp; (try with_reducible rfl))
                  (try simp only [Act.put, sA, sZ, sS])
                  refine tkW 46 (i := 15) (v := ?v10_15) rfl rfl (by kernel_rfl) (fun _ _ _ h => h) ?y10_15 (by assumption) ?r10_15
                  case y10_15 => (intro W hSW; (try dsimp only at hSW); go_simp; (try with_reducible rfl))
                  (try simp only [Act.put, sA, sZ, sS])
                  refine tkW 47 (i := 16) (v := ?v10_16) rfl rfl (by kernel_rfl) (fun _ _ _ h => h) ?y10_16 (by assumption) ?r10_16
                  case y10_16 => (intro W hSW; (try dsimp only at hSW); go_simp; (try with_reducible rfl))
                  (try simp only [Act.put, sA, sZ, sS])
                  refine tkW 48 (i := 17) (v := ?v10_17) rfl rfl (by kernel_rfl) (fun _ _ _ h => h) ?y10_17 (by assumption) ?r10_17
                  case y10_17 => (intro W hSW; (try dsimp only at hSW); go_simp; (try with_reducible rfl))
                  (try simp only [Act.put, sA, sZ, sS])
                  refine tkW 49 (i := 18) (v := ?v10_18) rfl rfl (by kernel_rfl) (fun _ _ _ h => h) ?y10_18 (by assumption) ?r10_18
                  case y10_18 => (intro W hSW; (try dsimp only at hSW); go_simp; (try with_reducible rfl))
                  (try simp only [Act.put, sA, sZ, sS])
                  refine tkW 50 (i := 19) (v := ?v10_19) rfl rfl (by kernel_rfl) (fun _ _ _ h => h) ?y10_19 (by assumption) ?r10_19
                  case y10_19 => (intro W hSW; (try dsimp only at hSW); go_simp; (try with_reducible rfl))
                  (try simp only [Act.put, sA, sZ, sS])
                  refine tkW 51 (i := 20) (v := ?v10_20) rfl rfl (by kernel_rfl) (fun _ _ _ h => h) ?y10_20 (by assumption) ?r10_20
                  case y10_20 => (intro W hSW; (try dsimp only at hSW); go_simp; (try with_reducible rfl))
                  (try simp only [Act.put, sA, sZ, sS])
                  refine tkW 52 (i := 21) (v := ?v10_21) rfl rfl (by kernel_rfl) (fun _ _ _ h => h) ?y10_21 (by assumption) ?r10_21
                  case y10_21 => (intro W hSW; (try dsimp only at hSW); go_simp; (try with_reducible rfl))
                  (try simp only [Act.put, sA, sZ, sS])
                  refine tkW 53 (i := 22) (v := ?v10_22) rfl rfl (by kernel_rfl) (fun _ _ _ h => h) ?y10_22 (by assumption) ?r10_22
                  case y10_22 => (intro W hSW; (try dsimp only at hSW); go_simp; (try with_reducible rfl))
                  (try simp only [Act.put, sA, sZ, sS])
                  refine tkW 54 (i := 23) (v := ?v10_23) rfl rfl (by kernel_rfl) (fun _ _ _ h => h) ?y10_23 (by assumption) ?r10_23
                  case y10_23 => (intro W hSW; (try dsimp only at hSW); go_simp; (try with_reducible rfl))
                  (try simp only [Act.put, sA, sZ, sS])
                  refine tkW 55 (i := 24) (v := ?v10_24) rfl rfl (by kernel_rfl) (fun _ _ _ h => h) ?y10_24 (by assumption) ?r10_24
                  case y10_24 => (intro W hSW; (try dsimp only at hSW); go_simp; (try with_reducible rfl))
                  (try simp only [Act.put, sA, sZ, sS])
                  refine tkW 56 (i := 25) (v := ?v10_25) rfl rfl (by kernel_rfl) (fun _ _ _ h => h) ?y10_25 (by assumption) ?r10_25
                  case y10_25 => (intro W hSW; (try dsimp only at hSW); go_simp; (try with_reducible rfl))
                  (try simp only [Act.put, sA, sZ, sS])
                  refine tkW 57 (i := 26) (v := ?v10_26) rfl rfl (by kernel_rfl) (fun _ _ _ h => h) ?y10_26 (by assumption) ?r10_26
                  case y10_26 => (intro W hSW; (try dsimp only at hSW); go_simp; (try with_reducible rfl))
                  (try simp only [Act.put, sA, sZ, sS])
                  refine tkU 58 (i := 27) rfl rfl (by kernel_rfl) (fun _ _ _ h => h) (by assumption) ?_
                  (try simp only [Act.put, sA, sZ, sS])
                  refine tkU 59 (i := 28) rfl rfl (by kernel_rfl) (fun _ _ _ h => h) (by assumption) ?_
                  (try simp only [Act.put, sA, sZ, sS])
                  refine tkU 60 (i := 29) rfl rfl (by kernel_rfl) (fun _ _ _ h => h) (by assumption) ?_
                  (try simp only [Act.put, sA, sZ, sS])
                  refine tkW 61 (i := 30) (v := ?v10_30) rfl rfl (by kernel_rfl) (fun _ _ _ h => h) ?y10_30 (by assumption) ?r10_30
                  case y10_30 => (intro W hSW; (try dsimp only at hSW); go_simp; (try with_reducible rfl))
                  (try simp only [Act.put, sA, sZ, sS])
                  refine tkW 62 (i := 31) (v := ?v10_31) rfl rfl (by kernel_rfl) (fun _ _ _ h => h) ?y10_31 (by assumption) ?r10_31
                  case y10_31 => (intro W hSW; (try dsimp only at hSW); go_simp; (try with_reducible rfl))
                  (try simp only [Act.put, sA, sZ, sS])
                  refine tkU 63 (i := 32) rfl rfl (by kernel_rfl) (fun _ _ _ h => h) (by assumption) ?_
                  (try simp only [Act.put, sA, sZ, sS])
                  refine tkU 64 (i := 33) rfl rfl (by kernel_rfl) (fun _ _ _ h => h) (by assumption) ?_
                  (try simp only [Act.put, sA, sZ, sS])
                  refine tkU 65 (i := 34) rfl rfl (by kernel_rfl) (fun _ _ _ h => h) (by assumption) ?_
                  (try simp only [Act.put, sA, sZ, sS])
                  refine tkU 66 (i := 35) rfl rfl (by kernel_rfl) (fun _ _ _ h => h) (by assumption) ?_
                  (try simp only [Act.put, sA, sZ, sS])
                  refine tkU 67 (i := 36) rfl rfl (by kernel_rfl) (fun _ _ _ h => h) (by assumption) ?_
                  (try simp only [Act.put, sA, sZ, sS])
                  refine tkU 68 (i := 37) rfl rfl (by kernel_rfl) (fun _ _ _ h => h) (by assumption) ?_
                  (try simp only [Act.put, sA, sZ, sS])
                  refine tkU 69 (i := 38) rfl rfl (by kernel_rfl) (fun _ _ _ h => h) (by assumption) ?_
                  (try simp only [Act.put, sA, sZ, sS])
                  refine tkU 70 (i := 39) rfl rfl (by kernel_rfl) (fun _ _ _ h => h) (by assumption) ?_
                  (try simp only [Act.put, sA, sZ, sS])
                  refine tkU 71 (i := 40) rfl rfl (by kernel_rfl) (fun _ _ _ h => h) (by assumption) ?_
                  (try simp only [Act.put, sA, sZ, sS])
                  refine tkU 72 (i := 41) rfl rfl (by kernel_rfl) (fun _ _ _ h => h) (by assumption) ?_
                  (try simp only [Act.put, sA, sZ, sS])
                  refine tkU 73 (i := 42) rfl rfl (by kernel_rfl) (fun _ _ _ h => h) (by assumption) ?_
                  (try simp only [Act.put, sA, sZ, sS])
                  refine tkU 74 (i := 43) rfl rfl (by kernel_rfl) (fun _ _ _ h => h) (by assumption) ?_
                  (try simp only [Act.put, sA, sZ, sS])
                  refine tkW 75 (i := 44) (v := ?v10_44) rfl rfl (by kernel_rfl) (fun _ _ _ h => h) ?y10_44 (by assumption) ?r10_44
                  case y10_44 => (intro W hSW; (try dsimp only at hSW); go_simp; (try with_reducible rfl))
                  (try simp only [Act.put, sA, sZ, sS])
                  refine wpAnyH_done (by kernel_rfl) ?_ _
                  have HBB := hide HT1.out.cf.bel
                  go_wp2_with fail
                  go_ret
                  exact ⟨by rw [HX.out]; rfl, HBB.out⟩
          · have HX := hide (HF.out (fun g => c1 (HK2.out.1 g).1))
            have n1 : (dir != 1) = true := by simpa using c1
            clear c1 hs1 hs2 v1 v2
            as_aux_lemma =>
              refine wp_region_held_drew (S := fun w' => w'.cell? ⟨w.heap.size, 0, none⟩ = some (.int .i64 nodes) ∧ w'.cell? ⟨w.heap.size, 1, none⟩ = some (.slice oA owners.length oC) ∧ w'.cell? ⟨w.heap.size, 2, none⟩ = some (.int .i64 drift) ∧ w'.cell? ⟨w.heap.size, 3, none⟩ = some (.int .i64 reading) ∧ w'.cell? ⟨w.heap.size, 4, none⟩ = some (.int .i64 margin) ∧ w'.cell? ⟨w.heap.size, 5, none⟩ = some (.int .i64 bound) ∧ w'.cell? ⟨w.heap.size, 6, none⟩ = some (.int .i64 rejoin) ∧ w'.cell? ⟨w.heap.size, 7, none⟩ = some (.int .i64 quota) ∧ w'.cell? ⟨w.heap.size, 8, none⟩ = some (.slice (pA) parts.length pC) ∧ w'.cell? ⟨w.heap.size, 9, none⟩ = some (.slice wA windows.length wC) ∧ w'.cell? ⟨w.heap.size, 10, none⟩ = some (.slice (some ⟨pb, po, none⟩) ports.length qC) ∧ w'.cell? ⟨w.heap.size, 11, none⟩ = some (.slice (some ⟨lb, lof, none⟩) links.length lC) ∧ w'.cell? ⟨wr.heap.size, 0, none⟩ = some (.int .i64 (sn : Int)) ∧ w'.cell? ⟨wr.heap.size, 1, none⟩ = some (.slice Ai dests.length ci) ∧ w'.cell? ⟨wr.heap.size, 2, none⟩ = some (.int .i64 offset) ∧ w'.cell? ⟨pb, po + sn * 6 + 2, none⟩ = some (.int .i64 dir) ∧ w'.cell? ⟨pb, po + sn * 6 + 3, none⟩ = some (.int .i64 size)) (by kernel_rfl) (⟨e0, e1, e2, e3, e4, e5, e6, e7, e8, e9, e10, e11, l0, l1, l2, p2, p3⟩) (fun hHeld => ?_)
              refine tkW 31 (i := 0) (v := ?v11_0) rfl rfl (by kernel_rfl) (fun _ _ _ h => h) ?y11_0 (by assumption) ?r11_0
              case y11_0 => (intro W hSW; (try dsimp only at hSW); go_simp; (try with_reducible rfl))
              (try simp only [Act.put, sA, sZ, sS])
              refine tkW 32 (i := 1) (v := ?v11_1) rfl rfl (by kernel_rfl) (fun _ _ _ h => h) ?y11_1 (by assumption) ?r11_1
              case y11_1 => (intro W hSW; (try dsimp only at hSW); go_simp; (try with_reducible rfl))
              (try simp only [Act.put, sA, sZ, sS])
              refine tkW 33 (i := 2) (v := ?v11_2) rfl rfl (by kernel_rfl) (fun _ _ _ h => h) ?y11_2 (by assumption) ?r11_2
              case y11_2 => (intro W hSW; (try dsimp only at hSW); go_simp; (try with_reducible rfl))
              (try simp only [Act.put, sA, sZ, sS])
              refine wpAnyH_ready (rs := [3]) (by kernel_rfl) (by simp) ?_
              refine AllReadyH.cons rfl (fun K hK => ?_) AllReadyH.nil
              rw [if_pos (by rfl)]
              go_simp
              refine (HIS.out _ _ HT.out.cf).mono ?_
              rintro e w1 ⟨rfl, hb1⟩
              have HT1 := hide (HT.out.below hb1)
              have hq1 := Nat.lt_of_lt_of_le hpb hb1.size
              replace p1 := cell_below hb1 (Nat.le_refl _) hpb p1
              replace p2 := cell_below hb1 (Nat.le_refl _) hpb p2
              replace p3 := cell_below hb1 (Nat.le_refl _) hpb p3
              clear hHeld e0 e1 e2 e3 e4 e5 e6 e7 e8 e9 e10 e11 hl hll l0 l1 l2 hb1
              obtain ⟨⟨_, ⟨hl, e0, e1, e2, e3, e4, e5, e6, e7, e8, e9, e10, e11⟩, _, _⟩, ⟨hll, l0, l1, l2⟩, _, _⟩ := HT1.out
              dsimp only at e0 e1 e2 e3 e4 e5 e6 e7 e8 e9 e10 e11
              rw [HSO.out]
              refine hK.out _ _ (⟨e0, e1, e2, e3, e4, e5, e6, e7, e8, e9, e10, e11, l0, l1, l2, p2, p3⟩) (fun hHeld => ?_)
              clear hK K
              (try simp only [Act.put, sA, sZ, sS])
              refine tkW 35 (i := 4) (v := ?v11_4) rfl rfl (by kernel_rfl) (fun _ _ _ h => h) ?y11_4 (by assumption) ?r11_4
              case y11_4 => (intro W hSW; (try dsimp only at hSW); go_simp; (try with_reducible rfl))
              (try simp only [Act.put, sA, sZ, sS])
              refine tkW 36 (i := 5) (v := ?v11_5) rfl rfl (by kernel_rfl) (fun _ _ _ h => h) ?y11_5 (by assumption) ?r11_5
              case y11_5 => (intro W hSW; (try dsimp only at hSW); go_simp; (try with_reducible rfl))
              (try simp only [Act.put, sA, sZ, sS])
              refine tkW 37 (i := 6) (v := ?v11_6) rfl rfl (by kernel_rfl) (fun _ _ _ h => h) ?y11_6 (by assumption) ?r11_6
              case y11_6 => (intro W hSW; (try dsimp only at hSW); go_simp; (try with_reducible rfl))
              (try simp only [Act.put, sA, sZ, sS])
              refine tkW 38 (i := 7) (v := ?v11_7) rfl rfl (by kernel_rfl) (fun _ _ _ h => h) ?y11_7 (by assumption) ?r11_7
              case y11_7 => (intro W hSW; (try dsimp only at hSW); go_simp; (try with_reducible rfl))
              (try simp only [Act.put, sA, sZ, sS])
              refine tkW 39 (i := 8) (v := ?v11_8) rfl rfl (by kernel_rfl) (fun _ _ _ h => h) ?y11_8 (by assumption) ?r11_8
              case y11_8 => (intro W hSW; (try dsimp only at hSW); go_simp; (try with_reducible rfl))
              (try simp only [Act.put, sA, sZ, sS])
              refine tkW 40 (i := 9) (v := ?v11_9) rfl rfl (by kernel_rfl) (fun _ _ _ h => h) ?y11_9 (by assumption) ?r11_9
              case y11_9 => (intro W hSW; (try dsimp only at hSW); go_simp; (try with_reducible rfl))
              (try simp only [Act.put, sA, sZ, sS])
              refine tkW 41 (i := 10) (v := ?v11_10) rfl rfl (by kernel_rfl) (fun _ _ _ h => h) ?y11_10 (by assumption) ?r11_10
              case y11_10 => (intro W hSW; (try dsimp only at hSW); go_simp; (try with_reducible rfl))
              (try simp only [Act.put, sA, sZ, sS])
              refine tkW 42 (i := 11) (v := ?v11_11) rfl rfl (by kernel_rfl) (fun _ _ _ h => h) ?y11_11 (by assumption) ?r11_11
              case y11_11 => (intro W hSW; (try dsimp only at hSW); go_simp; (try with_reducible rfl))
              (try simp only [Act.put, sA, sZ, sS])
              refine tkW 43 (i := 12) (v := ?v11_12) rfl rfl (by kernel_rfl) (fun _ _ _ h => h) ?y11_12 (by assumption) ?r11_12
              case y11_12 => (intro W hSW; (try dsimp only at hSW); go_simp; (try with_reducible rfl))
              (try simp only [Act.put, sA, sZ, sS])
              refine tkW 44 (i := 13) (v := ?v11_13) rfl rfl (by kernel_rfl) (fun _ _ _ h => h) ?y11_13 (by assumption) ?r11_13
              case y11_13 => (intro W hSW; (try dsimp only at hSW); go_simp; (try with_reducible rfl))
              (try simp only [Act.put, sA, sZ, sS])
              refine tkW 45 (i := 14) (v := ?v11_14) rfl rfl (by kernel_rfl) (fun _ _ _ h => h) ?y11_14 (by assumption) ?r11_14
              case y11_14 => (intro W hSW; (try dsimp only at hSW); go_simp; (try with_reducible rfl))
              (try simp only [Act.put, sA, sZ, sS])
              refine tkW 46 (i := 15) (v := ?v11_15) rfl rfl (by kernel_rfl) (fun _ _ _ h => h) ?y11_15 (by assumption) ?r11_15
              case y11_15 => (intro W hSW; (try dsimp only at hSW); go_simp; (try with_reducible rfl))
              (try simp only [Act.put, sA, sZ, sS])
              refine tkU 47 (i := 16) rfl rfl (by kernel_rfl) (fun _ _ _ h => h) (by assumption) ?_
              (try simp only [Act.put, sA, sZ, sS])
              refine tkU 48 (i := 17) rfl rfl (by kernel_rfl) (fun _ _ _ h => h) (by assumption) ?_
              (try simp only [Act.put, sA, sZ, sS])
              refine tkU 49 (i := 18) rfl rfl (by kernel_rfl) (fun _ _ _ h => h) (by assumption) ?_
              (try simp only [Act.put, sA, sZ, sS])
              refine tkU 50 (i := 19) rfl rfl (by kernel_rfl) (fun _ _ _ h => h) (by assumption) ?_
              (try simp only [Act.put, sA, sZ, sS])
              refine tkW 51 (i := 20) (v := ?v11_20) rfl rfl (by kernel_rfl) (fun _ _ _ h => h) ?y11_20 (by assumption) ?r11_20
              case y11_20 => (intro W hSW; (try dsimp only at hSW); go_simp; (try with_reducible rfl))
              (try simp only [Act.put, sA, sZ, sS])
              refine tkW 52 (i := 21) (v := ?v11_21) rfl rfl (by kernel_rfl) (fun _ _ _ h => h) ?y11_21 (by assumption) ?r11_21
              case y11_21 => (intro W hSW; (try dsimp only at hSW); go_simp; (try with_reducible rfl))
              (try simp only [Act.put, sA, sZ, sS])
              refine tkU 53 (i := 22) rfl rfl (by kernel_rfl) (fun _ _ _ h => h) (by assumption) ?_
              (try simp only [Act.put, sA, sZ, sS])
              refine tkU 54 (i := 23) rfl rfl (by kernel_rfl) (fun _ _ _ h => h) (by assumption) ?_
              (try simp only [Act.put, sA, sZ, sS])
              refine tkU 55 (i := 24) rfl rfl (by kernel_rfl) (fun _ _ _ h => h) (by assumption) ?_
              (try simp only [Act.put, sA, sZ, sS])
              refine tkW 56 (i := 25) (v := ?v11_25) rfl rfl (by kernel_rfl) (fun _ _ _ h => h) ?y11_25 (by assumption) ?r11_25
              case y11_25 => (intro W hSW; (try dsimp only at hSW); go_simp; (try with_reducible rfl))
              (try simp only [Act.put, sA, sZ, sS])
              refine tkW 57 (i := 26) (v := ?v11_26) rfl rfl (by kernel_rfl) (fun _ _ _ h => h) ?y11_26 (by assumption) ?r11_26
              case y11_26 => (intro W hSW; (try dsimp only at hSW); go_simp; (try with_reducible rfl))
              (try simp only [Act.put, sA, sZ, sS])
              refine tkU 58 (i := 27) rfl rfl (by kernel_rfl) (fun _ _ _ h => h) (by assumption) ?_
              (try simp only [Act.put, sA, sZ, sS])
              refine tkU 59 (i := 28) rfl rfl (by kernel_rfl) (fun _ _ _ h => h) (by assumption) ?_
              (try simp only [Act.put, sA, sZ, sS])
              refine tkU 60 (i := 29) rfl rfl (by kernel_rfl) (fun _ _ _ h => h) (by assumption) ?_
              (try simp only [Act.put, sA, sZ, sS])
              refine tkW 61 (i := 30) (v := ?v11_30) rfl rfl (by kernel_rfl) (fun _ _ _ h => h) ?y11_30 (by assumption) ?r11_30
              case y11_30 => (intro W hSW; (try dsimp only at hSW); go_simp; (try with_reducible rfl))
              (try simp only [Act.put, sA, sZ, sS])
              refine tkW 62 (i := 31) (v := ?v11_31) rfl rfl (by kernel_rfl) (fun _ _ _ h => h) ?y11_31 (by assumption) ?r11_31
              case y11_31 => (intro W hSW; (try dsimp only at hSW); go_simp; (try with_reducible rfl))
              (try simp only [Act.put, sA, sZ, sS])
              refine tkU 63 (i := 32) rfl rfl (by kernel_rfl) (fun _ _ _ h => h) (by assumption) ?_
              (try simp only [Act.put, sA, sZ, sS])
              refine tkU 64 (i := 33) rfl rfl (by kernel_rfl) (fun _ _ _ h => h) (by assumption) ?_
              (try simp only [Act.put, sA, sZ, sS])
              refine tkU 65 (i := 34) rfl rfl (by kernel_rfl) (fun _ _ _ h => h) (by assumption) ?_
              (try simp only [Act.put, sA, sZ, sS])
              refine tkU 66 (i := 35) rfl rfl (by kernel_rfl) (fun _ _ _ h => h) (by assumption) ?_
              (try simp only [Act.put, sA, sZ, sS])
              refine tkU 67 (i := 36) rfl rfl (by kernel_rfl) (fun _ _ _ h => h) (by assumption) ?_
              (try simp only [Act.put, sA, sZ, sS])
              refine tkU 68 (i := 37) rfl rfl (by kernel_rfl) (fun _ _ _ h => h) (by assumption) ?_
              (try simp only [Act.put, sA, sZ, sS])
              refine tkU 69 (i := 38) rfl rfl (by kernel_rfl) (fun _ _ _ h => h) (by assumption) ?_
              (try simp only [Act.put, sA, sZ, sS])
              refine tkU 70 (i := 39) rfl rfl (by kernel_rfl) (fun _ _ _ h => h) (by assumption) ?_
              (try simp only [Act.put, sA, sZ, sS])
              refine tkU 71 (i := 40) rfl rfl (by kernel_rfl) (fun _ _ _ h => h) (by assumption) ?_
              (try simp only [Act.put, sA, sZ, sS])
              refine tkU 72 (i := 41) rfl rfl (by kernel_rfl) (fun _ _ _ h => h) (by assumption) ?_
              (try simp only [Act.put, sA, sZ, sS])
              refine tkU 73 (i := 42) rfl rfl (by kernel_rfl) (fun _ _ _ h => h) (by assumption) ?_
              (try simp only [Act.put, sA, sZ, sS])
              refine tkU 74 (i := 43) rfl rfl (by kernel_rfl) (fun _ _ _ h => h) (by assumption) ?_
              (try simp only [Act.put, sA, sZ, sS])
              refine tkW 75 (i := 44) (v := ?v11_44) rfl rfl (by kernel_rfl) (fun _ _ _ h => h) ?y11_44 (by assumption) ?r11_44
              case y11_44 => (intro W hSW; (try dsimp only at hSW); go_simp; (try with_reducible rfl))
              (try simp only [Act.put, sA, sZ, sS])
              refine wpAnyH_done (by kernel_rfl) ?_ _
              have HBB := hide HT1.out.cf.bel
              go_wp2_with fail
              go_ret
              exact ⟨by rw [HX.out]; rfl, HBB.out⟩
        · have HX := hide (HF.out (fun g => hso (HK.out.1 g).1))
          have HSO : Hid (ofB source ports.length = false) := Bool.not_eq_true _ ▸ hso
          clear hso HPS
          as_aux_lemma =>
            refine wp_region_held_drew (S := fun w' => w'.cell? ⟨w.heap.size, 0, none⟩ = some (.int .i64 nodes) ∧ w'.cell? ⟨w.heap.size, 1, none⟩ = some (.slice oA owners.length oC) ∧ w'.cell? ⟨w.heap.size, 2, none⟩ = some (.int .i64 drift) ∧ w'.cell? ⟨w.heap.size, 3, none⟩ = some (.int .i64 reading) ∧ w'.cell? ⟨w.heap.size, 4, none⟩ = some (.int .i64 margin) ∧ w'.cell? ⟨w.heap.size, 5, none⟩ = some (.int .i64 bound) ∧ w'.cell? ⟨w.heap.size, 6, none⟩ = some (.int .i64 rejoin) ∧ w'.cell? ⟨w.heap.size, 7, none⟩ = some (.int .i64 quota) ∧ w'.cell? ⟨w.heap.size, 8, none⟩ = some (.slice (pA) parts.length pC) ∧ w'.cell? ⟨w.heap.size, 9, none⟩ = some (.slice wA windows.length wC) ∧ w'.cell? ⟨w.heap.size, 10, none⟩ = some (.slice (qA) ports.length qC) ∧ w'.cell? ⟨w.heap.size, 11, none⟩ = some (.slice (some ⟨lb, lof, none⟩) links.length lC) ∧ w'.cell? ⟨wr.heap.size, 0, none⟩ = some (.int .i64 source) ∧ w'.cell? ⟨wr.heap.size, 1, none⟩ = some (.slice Ai dests.length ci) ∧ w'.cell? ⟨wr.heap.size, 2, none⟩ = some (.int .i64 offset)) (by kernel_rfl) (⟨e0, e1, e2, e3, e4, e5, e6, e7, e8, e9, e10, e11, l0, l1, l2⟩) (fun hHeld => ?_)
            refine tkW 31 (i := 0) (v := ?v12_0) rfl rfl (by kernel_rfl) (fun _ _ _ h => h) ?y12_0 (by assumption) ?r12_0
            case y12_0 => (intro W hSW; (try dsimp only at hSW); go_simp; (try with_reducible rfl))
            (try simp only [Act.put, sA, sZ, sS])
            refine tkW 32 (i := 1) (v := ?v12_1) rfl rfl (by kernel_rfl) (fun _ _ _ h => h) ?y12_1 (by assumption) ?r12_1
            case y12_1 => (intro W hSW; (try dsimp only at hSW); go_simp; (try with_reducible rfl))
            (try simp only [Act.put, sA, sZ, sS])
            refine tkW 33 (i := 2) (v := ?v12_2) rfl rfl (by kernel_rfl) (fun _ _ _ h => h) ?y12_2 (by assumption) ?r12_2
            case y12_2 => (intro W hSW; (try dsimp only at hSW); go_simp; (try with_reducible rfl))
            (try simp only [Act.put, sA, sZ, sS])
            refine wpAnyH_ready (rs := [3]) (by kernel_rfl) (by simp) ?_
            refine AllReadyH.cons rfl (fun K hK => ?_) AllReadyH.nil
            rw [if_pos (by rfl)]
            go_simp
            refine (HIS.out _ _ HT.out.cf).mono ?_
            rintro e w1 ⟨rfl, hb1⟩
            have HT1 := hide (HT.out.below hb1)
            clear hHeld e0 e1 e2 e3 e4 e5 e6 e7 e8 e9 e10 e11 hl hll l0 l1 l2 hb1
            obtain ⟨⟨_, ⟨hl, e0, e1, e2, e3, e4, e5, e6, e7, e8, e9, e10, e11⟩, _, _⟩, ⟨hll, l0, l1, l2⟩, _, _⟩ := HT1.out
            dsimp only at e0 e1 e2 e3 e4 e5 e6 e7 e8 e9 e10 e11
            rw [HSO.out]
            refine hK.out _ _ (⟨e0, e1, e2, e3, e4, e5, e6, e7, e8, e9, e10, e11, l0, l1, l2⟩) (fun hHeld => ?_)
            clear hK K
            (try simp only [Act.put, sA, sZ, sS])
            refine tkW 35 (i := 4) (v := ?v12_4) rfl rfl (by kernel_rfl) (fun _ _ _ h => h) ?y12_4 (by assumption) ?r12_4
            case y12_4 => (intro W hSW; (try dsimp only at hSW); go_simp; (try with_reducible rfl))
            (try simp only [Act.put, sA, sZ, sS])
            refine tkW 36 (i := 5) (v := ?v12_5) rfl rfl (by kernel_rfl) (fun _ _ _ h => h) ?y12_5 (by assumption) ?r12_5
            case y12_5 => (intro W hSW; (try dsimp only at hSW); go_simp; (try with_reducible rfl))
            (try simp only [Act.put, sA, sZ, sS])
            refine tkU 37 (i := 6) rfl rfl (by kernel_rfl) (fun _ _ _ h => h) (by assumption) ?_
            (try simp only [Act.put, sA, sZ, sS])
            refine tkU 38 (i := 7) rfl rfl (by kernel_rfl) (fun _ _ _ h => h) (by assumption) ?_
            (try simp only [Act.put, sA, sZ, sS])
            refine tkU 39 (i := 8) rfl rfl (by kernel_rfl) (fun _ _ _ h => h) (by assumption) ?_
            (try simp only [Act.put, sA, sZ, sS])
            refine tkU 40 (i := 9) rfl rfl (by kernel_rfl) (fun _ _ _ h => h) (by assumption) ?_
            (try simp only [Act.put, sA, sZ, sS])
            refine tkU 41 (i := 10) rfl rfl (by kernel_rfl) (fun _ _ _ h => h) (by assumption) ?_
            (try simp only [Act.put, sA, sZ, sS])
            refine tkU 42 (i := 11) rfl rfl (by kernel_rfl) (fun _ _ _ h => h) (by assumption) ?_
            (try simp only [Act.put, sA, sZ, sS])
            refine tkU 43 (i := 12) rfl rfl (by kernel_rfl) (fun _ _ _ h => h) (by assumption) ?_
            (try simp only [Act.put, sA, sZ, sS])
            refine tkU 44 (i := 13) rfl rfl (by kernel_rfl) (fun _ _ _ h => h) (by assumption) ?_
            (try simp only [Act.put, sA, sZ, sS])
            refine tkW 45 (i := 14) (v := ?v12_14) rfl rfl (by kernel_rfl) (fun _ _ _ h => h) ?y12_14 (by assumption) ?r12_14
            case y12_14 => (intro W hSW; (try dsimp only at hSW); go_simp; (try with_reducible rfl))
            (try simp only [Act.put, sA, sZ, sS])
            refine tkW 46 (i := 15) (v := ?v12_15) rfl rfl (by kernel_rfl) (fun _ _ _ h => h) ?y12_15 (by assumption) ?r12_15
            case y12_15 => (intro W hSW; (try dsimp only at hSW); go_simp; (try with_reducible rfl))
            (try simp only [Act.put, sA, sZ, sS])
            refine tkU 47 (i := 16) rfl rfl (by kernel_rfl) (fun _ _ _ h => h) (by assumption) ?_
            (try simp only [Act.put, sA, sZ, sS])
            refine tkU 48 (i := 17) rfl rfl (by kernel_rfl) (fun _ _ _ h => h) (by assumption) ?_
            (try simp only [Act.put, sA, sZ, sS])
            refine tkU 49 (i := 18) rfl rfl (by kernel_rfl) (fun _ _ _ h => h) (by assumption) ?_
            (try simp only [Act.put, sA, sZ, sS])
            refine tkU 50 (i := 19) rfl rfl (by kernel_rfl) (fun _ _ _ h => h) (by assumption) ?_
            (try simp only [Act.put, sA, sZ, sS])
            refine tkW 51 (i := 20) (v := ?v12_20) rfl rfl (by kernel_rfl) (fun _ _ _ h => h) ?y12_20 (by assumption) ?r12_20
            case y12_20 => (intro W hSW; (try dsimp only at hSW); go_simp; (try with_reducible rfl))
            (try simp only [Act.put, sA, sZ, sS])
            refine tkW 52 (i := 21) (v := ?v12_21) rfl rfl (by kernel_rfl) (fun _ _ _ h => h) ?y12_21 (by assumption) ?r12_21
            case y12_21 => (intro W hSW; (try dsimp only at hSW); go_simp; (try with_reducible rfl))
            (try simp only [Act.put, sA, sZ, sS])
            refine tkU 53 (i := 22) rfl rfl (by kernel_rfl) (fun _ _ _ h => h) (by assumption) ?_
            (try simp only [Act.put, sA, sZ, sS])
            refine tkU 54 (i := 23) rfl rfl (by kernel_rfl) (fun _ _ _ h => h) (by assumption) ?_
            (try simp only [Act.put, sA, sZ, sS])
            refine tkU 55 (i := 24) rfl rfl (by kernel_rfl) (fun _ _ _ h => h) (by assumption) ?_
            (try simp only [Act.put, sA, sZ, sS])
            refine tkW 56 (i := 25) (v := ?v12_25) rfl rfl (by kernel_rfl) (fun _ _ _ h => h) ?y12_25 (by assumption) ?r12_25
            case y12_25 => (intro W hSW; (try dsimp only at hSW); go_simp; (try with_reducible rfl))
            (try simp only [Act.put, sA, sZ, sS])
            refine tkW 57 (i := 26) (v := ?v12_26) rfl rfl (by kernel_rfl) (fun _ _ _ h => h) ?y12_26 (by assumption) ?r12_26
            case y12_26 => (intro W hSW; (try dsimp only at hSW); go_simp; (try with_reducible rfl))
            (try simp only [Act.put, sA, sZ, sS])
            refine tkU 58 (i := 27) rfl rfl (by kernel_rfl) (fun _ _ _ h => h) (by assumption) ?_
            (try simp only [Act.put, sA, sZ, sS])
            refine tkU 59 (i := 28) rfl rfl (by kernel_rfl) (fun _ _ _ h => h) (by assumption) ?_
            (try simp only [Act.put, sA, sZ, sS])
            refine tkU 60 (i := 29) rfl rfl (by kernel_rfl) (fun _ _ _ h => h) (by assumption) ?_
            (try simp only [Act.put, sA, sZ, sS])
            refine tkW 61 (i := 30) (v := ?v12_30) rfl rfl (by kernel_rfl) (fun _ _ _ h => h) ?y12_30 (by assumption) ?r12_30
            case y12_30 => (intro W hSW; (try dsimp only at hSW); go_simp; (try with_reducible rfl))
            (try simp only [Act.put, sA, sZ, sS])
            refine tkW 62 (i := 31) (v := ?v12_31) rfl rfl (by kernel_rfl) (fun _ _ _ h => h) ?y12_31 (by assumption) ?r12_31
            case y12_31 => (intro W hSW; (try dsimp only at hSW); go_simp; (try with_reducible rfl))
            (try simp only [Act.put, sA, sZ, sS])
            refine tkU 63 (i := 32) rfl rfl (by kernel_rfl) (fun _ _ _ h => h) (by assumption) ?_
            (try simp only [Act.put, sA, sZ, sS])
            refine tkU 64 (i := 33) rfl rfl (by kernel_rfl) (fun _ _ _ h => h) (by assumption) ?_
            (try simp only [Act.put, sA, sZ, sS])
            refine tkU 65 (i := 34) rfl rfl (by kernel_rfl) (fun _ _ _ h => h) (by assumption) ?_
            (try simp only [Act.put, sA, sZ, sS])
            refine tkU 66 (i := 35) rfl rfl (by kernel_rfl) (fun _ _ _ h => h) (by assumption) ?_
            (try simp only [Act.put, sA, sZ, sS])
            refine tkU 67 (i := 36) rfl rfl (by kernel_rfl) (fun _ _ _ h => h) (by assumption) ?_
            (try simp only [Act.put, sA, sZ, sS])
            refine tkU 68 (i := 37) rfl rfl (by kernel_rfl) (fun _ _ _ h => h) (by assumption) ?_
            (try simp only [Act.put, sA, sZ, sS])
            refine tkU 69 (i := 38) rfl rfl (by kernel_rfl) (fun _ _ _ h => h) (by assumption) ?_
            (try simp only [Act.put, sA, sZ, sS])
            refine tkU 70 (i := 39) rfl rfl (by kernel_rfl) (fun _ _ _ h => h) (by assumption) ?_
            (try simp only [Act.put, sA, sZ, sS])
            refine tkU 71 (i := 40) rfl rfl (by kernel_rfl) (fun _ _ _ h => h) (by assumption) ?_
            (try simp only [Act.put, sA, sZ, sS])
            refine tkU 72 (i := 41) rfl rfl (by kernel_rfl) (fun _ _ _ h => h) (by assumption) ?_
            (try simp only [Act.put, sA, sZ, sS])
            refine tkU 73 (i := 42) rfl rfl (by kernel_rfl) (fun _ _ _ h => h) (by assumption) ?_
            (try simp only [Act.put, sA, sZ, sS])
            refine tkU 74 (i := 43) rfl rfl (by kernel_rfl) (fun _ _ _ h => h) (by assumption) ?_
            (try simp only [Act.put, sA, sZ, sS])
            refine tkW 75 (i := 44) (v := ?v12_44) rfl rfl (by kernel_rfl) (fun _ _ _ h => h) ?y12_44 (by assumption) ?r12_44
            case y12_44 => (intro W hSW; (try dsimp only at hSW); go_simp; (try with_reducible rfl))
            (try simp only [Act.put, sA, sZ, sS])
            refine wpAnyH_done (by kernel_rfl) ?_ _
            have HBB := hide HT1.out.cf.bel
            go_wp2_with fail
            go_ret
            exact ⟨by rw [HX.out]; rfl, HBB.out⟩
      · obtain rfl : k = links.length := by omega
        have HT := hide hT
        have HALL := hide H.out
        obtain ⟨hb, ⟨hl, e0, e1, e2, e3, e4, e5, e6, e7, e8, e9, e10, e11⟩, hg, hc⟩ := id hT
        dsimp only at e0 e1 e2 e3 e4 e5 e6 e7 e8 e9 e10 e11
        have hnl : (nm links.length).length ≤ 9223372036854775807 := by omega
        have HINT : Hid (Ints wr uA (nm links.length)) := UsS.ints hU fun z hz => by
          have := HIN.out _ (Nat.le_refl _) H.out z hz
          simp only [ofB, Bool.and_eq_true, decide_eq_true_eq] at this
          unfold I64
          omega
        clear hT hU hg hc hu1 hu2 hu3
        go_wp2_with fail
        go_loop [2, 8] (fun _ i => ∃ n : Nat, n ≤ ports.length ∧ i = .int .i64 n ∧ Hid (∀ j : Nat, j < n → (nm links.length).count (j : Int) ≤ 1)) (fun _ i => ports.length - (intOf i).toNat)
        case atStart => exact ⟨0, by omega, rfl, fun j hj => by omega⟩
        case round =>
          obtain ⟨n, hn, rfl, HN⟩ := hrel
          by_cases hnp : n < ports.length
          · have hcl : (nm links.length).count (n : Int) ≤ (nm links.length).length := List.count_le_length
            have HC1 : Hid ((nm links.length).count (n : Int) ≤ 1 → ∀ j : Nat, j < n + 1 → (nm links.length).count (j : Int) ≤ 1) := fun g j hj => by
              rcases Nat.lt_succ_iff_lt_or_eq.1 hj with h5 | rfl
              · exact HN.out j h5
              · exact g
            have HC2 := hide (HCnt.out n hnp)
            have HR := hide (rcount_any (nm links.length) uA uC (n : Int) wr HINT.out hnl)
            have HBB := hide HT.out.bel
            obtain ⟨x, hx⟩ : ∃ x, (nm links.length).count (n : Int) = x := ⟨_, rfl⟩
            rw [hx] at hcl HC1 HC2 HR
            clear hx
            by_cases hx1 : x ≤ 1
            · have HX := hide (HC1.out hx1)
              go_wp2_with (go_at_call 136; refine HR.out.mono ?_; rintro e w1 ⟨rfl, rfl⟩)
              go_round
              case rel => exact ⟨n + 1, by omega, by go_num, HX⟩
              case measure => simp [intOf]; omega
            · have HX := hide (HC2.out hx1)
              go_wp2_with (go_at_call 136; refine HR.out.mono ?_; rintro e w1 ⟨rfl, rfl⟩)
              go_ret
              exact ⟨by rw [HX.out]; rfl, HBB.out⟩
          · obtain rfl : n = ports.length := by omega
            have HCA := hide HN.out
            go_wp2_with fail
            go_loopw [2, 9, 10, 11, 12, 13, 14] (fun _ i _ _ _ _ _ W => ∃ k : Nat, k ≤ links.length ∧ i = .int .i64 k ∧ CfS w W ⟨nodes, owners, drift, reading, margin, bound, rejoin, quota, parts, windows, ports, links⟩ ⟨oA, oC, pA, pC, wA, wC, qA, qC, lA, lC⟩ ∧ Hid (∀ i j, j < i → i < k → nd (links.getD i default) = nd (links.getD j default) → meetB (links.getD i default).offset (en (links.getD i default)) (links.getD j default).offset (en (links.getD j default)) = false)) (fun _ i _ _ _ _ _ _ => links.length - (intOf i).toNat)
            case atStart => exact ⟨0, by omega, rfl, HT.out, fun i j _ hj => by omega⟩
            case round =>
              obtain ⟨k, hk, rfl, hT, H⟩ := hrel
              clear HT hb hl e0 e1 e2 e3 e4 e5 e6 e7 e8 e9 e10 e11 HINT hnl
              obtain ⟨hb, ⟨hl, e0, e1, e2, e3, e4, e5, e6, e7, e8, e9, e10, e11⟩, hg, hc⟩ := id hT
              dsimp only at e0 e1 e2 e3 e4 e5 e6 e7 e8 e9 e10 e11
              have HT := hide hT
              clear hT hg hc
              by_cases hlt : k < links.length
              · go_wp2_with fail
                go_loopw [2, 10, 11, 12, 13, 14] (fun _ i _ _ _ _ W => ∃ j : Nat, j ≤ k ∧ i = .int .i64 j ∧ CfS w W ⟨nodes, owners, drift, reading, margin, bound, rejoin, quota, parts, windows, ports, links⟩ ⟨oA, oC, pA, pC, wA, wC, qA, qC, lA, lC⟩ ∧ Hid (∀ t, t < j → nd (links.getD k default) = nd (links.getD t default) → meetB (links.getD k default).offset (en (links.getD k default)) (links.getD t default).offset (en (links.getD t default)) = false)) (fun _ i _ _ _ _ _ => k - (intOf i).toNat)
                case atStart => exact ⟨0, by omega, rfl, HT.out, fun t ht => by omega⟩
                case round =>
                  obtain ⟨j, hj, rfl, hT, HJ⟩ := hrel
                  clear HT hb hl e0 e1 e2 e3 e4 e5 e6 e7 e8 e9 e10 e11
                  have HT := hide hT
                  obtain ⟨hb, ⟨hl, e0, e1, e2, e3, e4, e5, e6, e7, e8, e9, e10, e11⟩, hg, hc⟩ := id hT
                  dsimp only at e0 e1 e2 e3 e4 e5 e6 e7 e8 e9 e10 e11
                  by_cases hlt2 : j < k
                  · have ok1 := (HOk.out _).1 (HALL.out k hlt)
                    have ok2 := (HOk.out _).1 (HALL.out j (by omega))
                    have HND1 := hide (HNd.out (links.getD k default))
                    have HND2 := hide (HNd.out (links.getD j default))
                    have HEN1 := hide (HEn.out (links.getD k default))
                    have HEN2 := hide (HEn.out (links.getD j default))
                    obtain ⟨lb, lof, A1, ci1, hA, hlb, f0, f1, f2, _, _, _, _, _⟩ := hc.links.at hlt
                    obtain ⟨lb', lof', A2, ci2, hA', hlb', g0, g1, g2, _, _, _, _, _⟩ := hc.links.at (show j < links.length by omega)
                    dsimp only at hA hA'
                    rw [hA] at hA'
                    injection hA' with hA'
                    injection hA' with hA1 hA2
                    subst hA1 hA2 hA
                    have HM0 := hide (HMeet.out k j hlt2 hlt)
                    have HJ2 : Hid ((nd (links.getD k default) = nd (links.getD j default) → meetB (links.getD k default).offset (en (links.getD k default)) (links.getD j default).offset (en (links.getD j default)) = false) → ∀ t, t < j + 1 → nd (links.getD k default) = nd (links.getD t default) → meetB (links.getD k default).offset (en (links.getD k default)) (links.getD t default).offset (en (links.getD t default)) = false) := fun q t ht => by
                      rcases Nat.lt_succ_iff_lt_or_eq.1 ht with h5 | rfl
                      · exact HJ.out t h5
                      · exact q
                    obtain ⟨l1, hp⟩ : ∃ p, links.getD k default = p := ⟨_, rfl⟩
                    obtain ⟨l2, hq⟩ : ∃ p, links.getD j default = p := ⟨_, rfl⟩
                    rw [hp] at f0 f1 f2 ok1 HND1 HEN1
                    rw [hq] at g0 g1 g2 ok2 HND2 HEN2
                    have HP := hide hp
                    have HQ := hide hq
                    have HM1 : Hid (nd l1 = nd l2 → meetB l1.offset (en l1) l2.offset (en l2) = true → ans = false) := by have := HM0.out; rw [hp, hq] at this; exact this
                    have HJ3 : Hid ((nd l1 = nd l2 → meetB l1.offset (en l1) l2.offset (en l2) = false) → ∀ t, t < j + 1 → nd (links.getD k default) = nd (links.getD t default) → meetB (links.getD k default).offset (en (links.getD k default)) (links.getD t default).offset (en (links.getD t default)) = false) := fun a => HJ2.out (by rw [hp, hq]; exact a)
                    clear hp hq HM0 HJ2 HJ
                    obtain ⟨s1, ds1, o1⟩ := l1
                    obtain ⟨s2, ds2, o2⟩ := l2
                    dsimp only at f0 f1 f2 g0 g1 g2 ok1 ok2 HND1 HND2 HEN1 HEN2 HM1 HJ3
                    obtain ⟨a1, _, _, _, a2, a3⟩ := ok1
                    obtain ⟨b1, _, _, _, b2, b3⟩ := ok2
                    simp only [ofB, Bool.and_eq_true, decide_eq_true_eq] at a1 b1
                    obtain ⟨sn1, rfl⟩ := Int.eq_ofNat_of_zero_le a1.1
                    obtain ⟨sn2, rfl⟩ := Int.eq_ofNat_of_zero_le b1.1
                    have hs1 : sn1 < ports.length := by omega
                    have hs2 : sn2 < ports.length := by omega
                    have HT2 := hide ((hT.below ((Below.refl wr.heap.size wr).alloc (Nat.le_refl _) (.cells #[.int .i64 (sn1 : Int), .slice A1 ds1.length ci1, .int .i64 o1] 53))).below ((Below.refl (wr.alloc (.cells #[.int .i64 (sn1 : Int), .slice A1 ds1.length ci1, .int .i64 o1] 53)).heap.size (wr.alloc (.cells #[.int .i64 (sn1 : Int), .slice A1 ds1.length ci1, .int .i64 o1] 53))).alloc (Nat.le_refl _) (.cells #[.int .i64 (sn2 : Int), .slice A2 ds2.length ci2, .int .i64 o2] 53)))
                    have HK1 := hide ((lk_new wr (sn1 : Int) A1 ds1.length ci1 o1 53).below ((Below.refl (wr.alloc (.cells #[.int .i64 (sn1 : Int), .slice A1 ds1.length ci1, .int .i64 o1] 53)).heap.size (wr.alloc (.cells #[.int .i64 (sn1 : Int), .slice A1 ds1.length ci1, .int .i64 o1] 53))).alloc (Nat.le_refl _) (.cells #[.int .i64 (sn2 : Int), .slice A2 ds2.length ci2, .int .i64 o2] 53)) (Nat.le_refl _))
                    have HK2 := hide (lk_new (wr.alloc (.cells #[.int .i64 (sn1 : Int), .slice A1 ds1.length ci1, .int .i64 o1] 53)) (sn2 : Int) A2 ds2.length ci2 o2 53)
                    rw [show (wr.alloc (.cells #[.int .i64 (sn1 : Int), .slice A1 ds1.length ci1, .int .i64 o1] 53)).heap.size = wr.heap.size + 1 from Array.size_push _] at HK2
                    clear hT hg hc
                    go_upto_region 33 with fail
                    clear e0 e1 e2 e3 e4 e5 e6 e7 e8 e9 e10 e11 hl hb f0 f1 f2 g0 g1 g2 hlb hlb'
                    generalize ((wr.alloc (.cells #[.int .i64 (sn1 : Int), .slice A1 ds1.length ci1, .int .i64 o1] 53)).alloc (.cells #[.int .i64 (sn2 : Int), .slice A2 ds2.length ci2, .int .i64 o2] 53)) = W2 at HT2 HK1 HK2 ⊢
                    generalize wr.heap.size = lb0 at HK1 HK2 ⊢
                    clear HT
                    obtain ⟨hb, ⟨hl, e0, e1, e2, e3, e4, e5, e6, e7, e8, e9, e10, e11⟩, hg, hc⟩ := id HT2.out
                    dsimp only at e0 e1 e2 e3 e4 e5 e6 e7 e8 e9 e10 e11
                    obtain ⟨hk1, k10, k11, k12⟩ := HK1.out
                    obtain ⟨hk2, k20, k21, k22⟩ := HK2.out
                    obtain ⟨pb, po, hA, hpb, x0, x1, x2, x3, x4, x5⟩ := hc.ports.at hs1
                    dsimp only at hA
                    subst hA
                    obtain ⟨y0, y1, y2, y3, y4, y5⟩ := Ports.here (b := pb) (off := po) hc.ports hs2
                    have pk1 := HPort.out sn1 hs1
                    have pk2 := HPort.out sn2 hs2
                    rw [Int.toNat_natCast] at a3 b3 HND1 HND2 HEN1 HEN2
                    dsimp only at x0 x1 x2 x3 x4 x5 y0 y1 y2 y3 y4 y5
                    obtain ⟨p1, hp⟩ : ∃ p, ports.getD sn1 default = p := ⟨_, rfl⟩
                    obtain ⟨p2, hq⟩ : ∃ p, ports.getD sn2 default = p := ⟨_, rfl⟩
                    rw [hp] at x0 x1 x2 x3 x4 x5 pk1 a3 HND1 HEN1
                    rw [hq] at y0 y1 y2 y3 y4 y5 pk2 b3 HND2 HEN2
                    clear hp hq
                    obtain ⟨part1, kind1, dir1, size1, depth1, fresh1⟩ := p1
                    obtain ⟨part2, kind2, dir2, size2, depth2, fresh2⟩ := p2
                    dsimp only at x0 x1 x2 x3 x4 x5 y0 y1 y2 y3 y4 y5 pk1 pk2 a3 b3 HND1 HND2 HEN1 HEN2
                    obtain ⟨m1, m2, m3⟩ := pk1
                    obtain ⟨m4, m5, m6⟩ := pk2
                    simp only [ofB, Bool.and_eq_true, decide_eq_true_eq] at m1 m4
                    obtain ⟨pn1, rfl⟩ := Int.eq_ofNat_of_zero_le m1.1
                    obtain ⟨pn2, rfl⟩ := Int.eq_ofNat_of_zero_le m4.1
                    have hp1 : pn1 < parts.length := by omega
                    have hp2 : pn2 < parts.length := by omega
                    have HTD := hide (((HT2.out.below ((Below.refl W2.heap.size W2).alloc (Nat.le_refl _) (.cells #[.int .i64 (pn1 : Int), .int .i64 kind1, .int .i64 dir1, .int .i64 size1, .int .i64 depth1, .int .i64 fresh1] 49))).below ((Below.refl (W2.alloc (.cells #[.int .i64 (pn1 : Int), .int .i64 kind1, .int .i64 dir1, .int .i64 size1, .int .i64 depth1, .int .i64 fresh1] 49)).heap.size (W2.alloc (.cells #[.int .i64 (pn1 : Int), .int .i64 kind1, .int .i64 dir1, .int .i64 size1, .int .i64 depth1, .int .i64 fresh1] 49))).alloc (Nat.le_refl _) (.cells #[.int .i64 (pn2 : Int), .int .i64 kind2, .int .i64 dir2, .int .i64 size2, .int .i64 depth2, .int .i64 fresh2] 49))).below ((Below.refl ((W2.alloc (.cells #[.int .i64 (pn1 : Int), .int .i64 kind1, .int .i64 dir1, .int .i64 size1, .int .i64 depth1, .int .i64 fresh1] 49)).alloc (.cells #[.int .i64 (pn2 : Int), .int .i64 kind2, .int .i64 dir2, .int .i64 size2, .int .i64 depth2, .int .i64 fresh2] 49)).heap.size ((W2.alloc (.cells #[.int .i64 (pn1 : Int), .int .i64 kind1, .int .i64 dir1, .int .i64 size1, .int .i64 depth1, .int .i64 fresh1] 49)).alloc (.cells #[.int .i64 (pn2 : Int), .int .i64 kind2, .int .i64 dir2, .int .i64 size2, .int .i64 depth2, .int .i64 fresh2] 49))).drew))
                    have HK1D := hide (((HK1.out.below ((Below.refl W2.heap.size W2).alloc (Nat.le_refl _) (.cells #[.int .i64 (pn1 : Int), .int .i64 kind1, .int .i64 dir1, .int .i64 size1, .int .i64 depth1, .int .i64 fresh1] 49)) (Nat.le_refl _)).below ((Below.refl (W2.alloc (.cells #[.int .i64 (pn1 : Int), .int .i64 kind1, .int .i64 dir1, .int .i64 size1, .int .i64 depth1, .int .i64 fresh1] 49)).heap.size (W2.alloc (.cells #[.int .i64 (pn1 : Int), .int .i64 kind1, .int .i64 dir1, .int .i64 size1, .int .i64 depth1, .int .i64 fresh1] 49))).alloc (Nat.le_refl _) (.cells #[.int .i64 (pn2 : Int), .int .i64 kind2, .int .i64 dir2, .int .i64 size2, .int .i64 depth2, .int .i64 fresh2] 49)) (Nat.le_refl _)).below ((Below.refl ((W2.alloc (.cells #[.int .i64 (pn1 : Int), .int .i64 kind1, .int .i64 dir1, .int .i64 size1, .int .i64 depth1, .int .i64 fresh1] 49)).alloc (.cells #[.int .i64 (pn2 : Int), .int .i64 kind2, .int .i64 dir2, .int .i64 size2, .int .i64 depth2, .int .i64 fresh2] 49)).heap.size ((W2.alloc (.cells #[.int .i64 (pn1 : Int), .int .i64 kind1, .int .i64 dir1, .int .i64 size1, .int .i64 depth1, .int .i64 fresh1] 49)).alloc (.cells #[.int .i64 (pn2 : Int), .int .i64 kind2, .int .i64 dir2, .int .i64 size2, .int .i64 depth2, .int .i64 fresh2] 49))).drew) (Nat.le_refl _))
                    have HK2D := hide (((HK2.out.below ((Below.refl W2.heap.size W2).alloc (Nat.le_refl _) (.cells #[.int .i64 (pn1 : Int), .int .i64 kind1, .int .i64 dir1, .int .i64 size1, .int .i64 depth1, .int .i64 fresh1] 49)) (Nat.le_refl _)).below ((Below.refl (W2.alloc (.cells #[.int .i64 (pn1 : Int), .int .i64 kind1, .int .i64 dir1, .int .i64 size1, .int .i64 depth1, .int .i64 fresh1] 49)).heap.size (W2.alloc (.cells #[.int .i64 (pn1 : Int), .int .i64 kind1, .int .i64 dir1, .int .i64 size1, .int .i64 depth1, .int .i64 fresh1] 49))).alloc (Nat.le_refl _) (.cells #[.int .i64 (pn2 : Int), .int .i64 kind2, .int .i64 dir2, .int .i64 size2, .int .i64 depth2, .int .i64 fresh2] 49)) (Nat.le_refl _)).below ((Below.refl ((W2.alloc (.cells #[.int .i64 (pn1 : Int), .int .i64 kind1, .int .i64 dir1, .int .i64 size1, .int .i64 depth1, .int .i64 fresh1] 49)).alloc (.cells #[.int .i64 (pn2 : Int), .int .i64 kind2, .int .i64 dir2, .int .i64 size2, .int .i64 depth2, .int .i64 fresh2] 49)).heap.size ((W2.alloc (.cells #[.int .i64 (pn1 : Int), .int .i64 kind1, .int .i64 dir1, .int .i64 size1, .int .i64 depth1, .int .i64 fresh1] 49)).alloc (.cells #[.int .i64 (pn2 : Int), .int .i64 kind2, .int .i64 dir2, .int .i64 size2, .int .i64 depth2, .int .i64 fresh2] 49))).drew) (Nat.le_refl _))
                    have HP1D := hide (((po_new W2 ⟨(pn1 : Int), kind1, dir1, size1, depth1, fresh1⟩ 49).below ((Below.refl (W2.alloc (.cells #[.int .i64 (pn1 : Int), .int .i64 kind1, .int .i64 dir1, .int .i64 size1, .int .i64 depth1, .int .i64 fresh1] 49)).heap.size (W2.alloc (.cells #[.int .i64 (pn1 : Int), .int .i64 kind1, .int .i64 dir1, .int .i64 size1, .int .i64 depth1, .int .i64 fresh1] 49))).alloc (Nat.le_refl _) (.cells #[.int .i64 (pn2 : Int), .int .i64 kind2, .int .i64 dir2, .int .i64 size2, .int .i64 depth2, .int .i64 fresh2] 49)) (Nat.le_refl _)).below ((Below.refl ((W2.alloc (.cells #[.int .i64 (pn1 : Int), .int .i64 kind1, .int .i64 dir1, .int .i64 size1, .int .i64 depth1, .int .i64 fresh1] 49)).alloc (.cells #[.int .i64 (pn2 : Int), .int .i64 kind2, .int .i64 dir2, .int .i64 size2, .int .i64 depth2, .int .i64 fresh2] 49)).heap.size ((W2.alloc (.cells #[.int .i64 (pn1 : Int), .int .i64 kind1, .int .i64 dir1, .int .i64 size1, .int .i64 depth1, .int .i64 fresh1] 49)).alloc (.cells #[.int .i64 (pn2 : Int), .int .i64 kind2, .int .i64 dir2, .int .i64 size2, .int .i64 depth2, .int .i64 fresh2] 49))).drew) (Nat.le_refl _))
                    have HP2D := hide ((po_new (W2.alloc (.cells #[.int .i64 (pn1 : Int), .int .i64 kind1, .int .i64 dir1, .int .i64 size1, .int .i64 depth1, .int .i64 fresh1] 49)) ⟨(pn2 : Int), kind2, dir2, size2, depth2, fresh2⟩ 49).below ((Below.refl ((W2.alloc (.cells #[.int .i64 (pn1 : Int), .int .i64 kind1, .int .i64 dir1, .int .i64 size1, .int .i64 depth1, .int .i64 fresh1] 49)).alloc (.cells #[.int .i64 (pn2 : Int), .int .i64 kind2, .int .i64 dir2, .int .i64 size2, .int .i64 depth2, .int .i64 fresh2] 49)).heap.size ((W2.alloc (.cells #[.int .i64 (pn1 : Int), .int .i64 kind1, .int .i64 dir1, .int .i64 size1, .int .i64 depth1, .int .i64 fresh1] 49)).alloc (.cells #[.int .i64 (pn2 : Int), .int .i64 kind2, .int .i64 dir2, .int .i64 size2, .int .i64 depth2, .int .i64 fresh2] 49))).drew) (Nat.le_refl _))
                    rw [show (W2.alloc (.cells #[.int .i64 (pn1 : Int), .int .i64 kind1, .int .i64 dir1, .int .i64 size1, .int .i64 depth1, .int .i64 fresh1] 49)).heap.size = W2.heap.size + 1 from Array.size_push _] at HP2D
                    obtain ⟨qb, qo, hA, hqb, t0, _, _⟩ := HTD.out.cf.parts.at (show pn1 < parts.length by omega)
                    obtain ⟨qb', qo', hA', hqb', u0, _, _⟩ := HTD.out.cf.parts.at (show pn2 < parts.length by omega)
                    dsimp only at hA hA' t0 u0
                    rw [hA] at hA'
                    injection hA' with hA'
                    injection hA' with hA1 hA2
                    subst hA1 hA2 hA
                    rw [Int.toNat_natCast] at HND1 HND2
                    obtain ⟨n1, hp⟩ : ∃ p, (parts.getD pn1 default).node = p := ⟨_, rfl⟩
                    obtain ⟨n2, hq⟩ : ∃ p, (parts.getD pn2 default).node = p := ⟨_, rfl⟩
                    rw [hp] at t0 HND1
                    rw [hq] at u0 HND2
                    clear hp hq
                    have HM2 : Hid (n1 = n2 → meetB o1 (o1 + 1 + size1) o2 (o2 + 1 + size2) = true → ans = false) := by have := HM1.out; rw [HND1.out, HND2.out, HEN1.out, HEN2.out] at this; exact this
                    have HJ4 : Hid ((n1 = n2 → meetB o1 (o1 + 1 + size1) o2 (o2 + 1 + size2) = false) → ∀ t, t < j + 1 → nd (links.getD k default) = nd (links.getD t default) → meetB (links.getD k default).offset (en (links.getD k default)) (links.getD t default).offset (en (links.getD t default)) = false) := by have := HJ3.out; rw [HND1.out, HND2.out, HEN1.out, HEN2.out] at this; exact this
                    have hw0 : IntKind.i64.wrap (o1 + 1) = o1 + 1 := by rw [IntKind.wrap_i64]; omega
                    have hw1 : IntKind.i64.wrap (o1 + 1 + size1) = o1 + 1 + size1 := by rw [IntKind.wrap_i64]; omega
                    have hw2 : IntKind.i64.wrap (o2 + 1) = o2 + 1 := by rw [IntKind.wrap_i64]; omega
                    have hw3 : IntKind.i64.wrap (o2 + 1 + size2) = o2 + 1 + size2 := by rw [IntKind.wrap_i64]; omega
                    have HI1 : Hid (I64 o1 ∧ I64 (o1 + 1 + size1)) := by unfold I64; exact ⟨by omega, by omega⟩
                    clear HM1 HJ3 HND1 HND2 HEN1 HEN2 a1 a2 a3 b1 b2 b3 m1 m2 m3 m4 m5 m6 hg hc
                    have HT3 := hide HTD.out
                    go_upto_region 35 with fail
                    clear e0 e1 e2 e3 e4 e5 e6 e7 e8 e9 e10 e11 hl hb k10 k11 k12 k20 k21 k22 hk1 hk2 x0 x1 x2 x3 x4 x5 y0 y1 y2 y3 y4 y5
                    obtain ⟨_, ⟨hl, e0, e1, e2, e3, e4, e5, e6, e7, e8, e9, e10, e11⟩, _, _⟩ := HTD.out
                    clear hl e0 e1 e2 e3 e4 e5 e6 e7 e9 e10 e11
                    obtain ⟨_, _, _, k12⟩ := HK1D.out
                    obtain ⟨_, _, _, k22⟩ := HK2D.out
                    obtain ⟨_, x0, _, _, x3, _, _⟩ := HP1D.out
                    obtain ⟨_, y0, _, _, y3, _, _⟩ := HP2D.out
                    dsimp only at e8 x0 x3 y0 y3
                    have HBB := hide HTD.out.bel
                    by_cases hn : n1 = n2
                    · subst hn
                      obtain ⟨m, hm⟩ : ∃ m, meetB o1 (o1 + 1 + size1) o2 (o2 + 1 + size2) = m := ⟨_, rfl⟩
                      rw [hm] at HM2 HJ4
                      have HMM := hide hm
                      clear hm
                      cases m
                      · have HX := hide (HJ4.out (fun _ => rfl))
                        as_aux_lemma =>
                          refine wp_region_held_drew (S := fun w' => w'.cell? ⟨w.heap.size, 8, none⟩ = some (.slice (some ⟨qb, qo, none⟩) parts.length pC) ∧ w'.cell? ⟨lb0, 2, none⟩ = some (.int .i64 o1) ∧ w'.cell? ⟨lb0 + 1, 2, none⟩ = some (.int .i64 o2) ∧ w'.cell? ⟨W2.heap.size, 0, none⟩ = some (.int .i64 (pn1 : Int)) ∧ w'.cell? ⟨W2.heap.size, 3, none⟩ = some (.int .i64 size1) ∧ w'.cell? ⟨W2.heap.size + 1, 0, none⟩ = some (.int .i64 (pn2 : Int)) ∧ w'.cell? ⟨W2.heap.size + 1, 3, none⟩ = some (.int .i64 size2) ∧ w'.cell? ⟨qb, qo + pn1 * 3, none⟩ = some (.int .i64 n1) ∧ w'.cell? ⟨qb, qo + pn2 * 3, none⟩ = some (.int .i64 n1)) (by kernel_rfl) (⟨e8, k12, k22, x0, x3, y0, y3, t0, u0⟩) (fun hHeld => ?_)
                          refine tkW 193 (i := 0) (v := ?v13_0) rfl rfl (by kernel_rfl) (fun _ _ _ h => h) ?y13_0 (by assumption) ?r13_0
                          case y13_0 => (intro W hSW; (try dsimp only at hSW); go_simp; (try with_reducible rfl))
                          (try simp only [Act.put, sA, sZ, sS])
                          refine tkW 194 (i := 1) (v := ?v13_1) rfl rfl (by kernel_rfl) (fun _ _ _ h => h) ?y13_1 (by assumption) ?r13_1
                          case y13_1 => (intro W hSW; (try dsimp only at hSW); go_simp; (try with_reducible rfl))
                          (try simp only [Act.put, sA, sZ, sS])
                          refine tkW 195 (i := 2) (v := ?v13_2) rfl rfl (by kernel_rfl) (fun _ _ _ h => h) ?y13_2 (by assumption) ?r13_2
                          case y13_2 => (intro W hSW; (try dsimp only at hSW); go_simp; (try with_reducible rfl))
                          (try simp only [Act.put, sA, sZ, sS])
                          refine tkW 196 (i := 3) (v := ?v13_3) rfl rfl (by kernel_rfl) (fun _ _ _ h => h) ?y13_3 (by assumption) ?r13_3
                          case y13_3 => (intro W hSW; (try dsimp only at hSW); go_simp; (try with_reducible rfl))
                          (try simp only [Act.put, sA, sZ, sS])
                          refine tkW 197 (i := 4) (v := ?v13_4) rfl rfl (by kernel_rfl) (fun _ _ _ h => h) ?y13_4 (by assumption) ?r13_4
                          case y13_4 => (intro W hSW; (try dsimp only at hSW); go_simp; (try with_reducible rfl))
                          (try simp only [Act.put, sA, sZ, sS])
                          refine tkW 198 (i := 5) (v := ?v13_5) rfl rfl (by kernel_rfl) (fun _ _ _ h => h) ?y13_5 (by assumption) ?r13_5
                          case y13_5 => (intro W hSW; (try dsimp only at hSW); go_simp; (try with_reducible rfl))
                          (try simp only [Act.put, sA, sZ, sS])
                          refine tkW 199 (i := 6) (v := ?v13_6) rfl rfl (by kernel_rfl) (fun _ _ _ h => h) ?y13_6 (by assumption) ?r13_6
                          case y13_6 => (intro W hSW; (try dsimp only at hSW); go_simp; (try with_reducible rfl))
                          (try simp only [Act.put, sA, sZ, sS])
                          refine tkW 200 (i := 7) (v := ?v13_7) rfl rfl (by kernel_rfl) (fun _ _ _ h => h) ?y13_7 (by assumption) ?r13_7
                          case y13_7 => (intro W hSW; (try dsimp only at hSW); go_simp; (try with_reducible rfl))
                          (try simp only [Act.put, sA, sZ, sS])
                          refine tkW 201 (i := 8) (v := ?v13_8) rfl rfl (by kernel_rfl) (fun _ _ _ h => h) ?y13_8 (by assumption) ?r13_8
                          case y13_8 => (intro W hSW; (try dsimp only at hSW); go_simp; (try with_reducible rfl))
                          (try simp only [Act.put, sA, sZ, sS])
                          refine tkW 202 (i := 9) (v := ?v13_9) rfl rfl (by kernel_rfl) (fun _ _ _ h => h) ?y13_9 (by assumption) ?r13_9
                          case y13_9 => (intro W hSW; (try dsimp only at hSW); go_simp; (try with_reducible rfl))
                          (try simp only [Act.put, sA, sZ, sS])
                          refine tkW 203 (i := 10) (v := ?v13_10) rfl rfl (by kernel_rfl) (fun _ _ _ h => h) ?y13_10 (by assumption) ?r13_10
                          case y13_10 => (intro W hSW; (try dsimp only at hSW); go_simp; (try with_reducible rfl))
                          (try simp only [Act.put, sA, sZ, sS])
                          refine tkW 204 (i := 11) (v := ?v13_11) rfl rfl (by kernel_rfl) (fun _ _ _ h => h) ?y13_11 (by assumption) ?r13_11
                          case y13_11 => (intro W hSW; (try dsimp only at hSW); go_simp; (try with_reducible rfl))
                          (try simp only [Act.put, sA, sZ, sS])
                          refine tkW 205 (i := 12) (v := ?v13_12) rfl rfl (by kernel_rfl) (fun _ _ _ h => h) ?y13_12 (by assumption) ?r13_12
                          case y13_12 => (intro W hSW; (try dsimp only at hSW); go_simp; (try with_reducible rfl))
                          (try simp only [Act.put, sA, sZ, sS])
                          refine tkW 206 (i := 13) (v := ?v13_13) rfl rfl (by kernel_rfl) (fun _ _ _ h => h) ?y13_13 (by assumption) ?r13_13
                          case y13_13 => (intro W hSW; (try dsimp only at hSW); go_simp; (try with_reducible rfl))
                          (try simp only [Act.put, sA, sZ, sS])
                          refine tkW 207 (i := 14) (v := ?v13_14) rfl rfl (by kernel_rfl) (fun _ _ _ h => h) ?y13_14 (by assumption) ?r13_14
                          case y13_14 => (intro W hSW; (try dsimp only at hSW); go_simp; (try with_reducible rfl))
                          (try simp only [Act.put, sA, sZ, sS])
                          refine tkW 208 (i := 15) (v := ?v13_15) rfl rfl (by kernel_rfl) (fun _ _ _ h => h) ?y13_15 (by assumption) ?r13_15
                          case y13_15 => (intro W hSW; (try dsimp only at hSW); go_simp; (try with_reducible rfl))
                          (try simp only [Act.put, sA, sZ, sS])
                          refine tkW 209 (i := 16) (v := ?v13_16) rfl rfl (by kernel_rfl) (fun _ _ _ h => h) ?y13_16 (by assumption) ?r13_16
                          case y13_16 => (intro W hSW; (try dsimp only at hSW); go_simp; (try with_reducible rfl))
                          (try simp only [Act.put, sA, sZ, sS])
                          refine tkW 210 (i := 17) (v := ?v13_17) rfl rfl (by kernel_rfl) (fun _ _ _ h => h) ?y13_17 (by assumption) ?r13_17
                          case y13_17 => (intro W hSW; (try dsimp only at hSW); go_simp; (try with_reducible rfl))
                          (try simp only [Act.put, sA, sZ, sS])
                          refine tkW 211 (i := 18) (v := ?v13_18) rfl rfl (by kernel_rfl) (fun _ _ _ h => h) ?y13_18 (by assumption) ?r13_18
                          case y13_18 => (intro W hSW; (try dsimp only at hSW); go_simp; (try with_reducible rfl))
                          (try simp only [Act.put, sA, sZ, sS])
                          refine tkW 212 (i := 19) (v := ?v13_19) rfl rfl (by kernel_rfl) (fun _ _ _ h => h) ?y13_19 (by assumption) ?r13_19
                          case y13_19 => (intro W hSW; (try dsimp only at hSW); go_simp; (try with_reducible rfl))
                          (try simp only [Act.put, sA, sZ, sS])
                          refine tkW 213 (i := 20) (v := ?v13_20) rfl rfl (by kernel_rfl) (fun _ _ _ h => h) ?y13_20 (by assumption) ?r13_20
                          case y13_20 => (intro W hSW; (try dsimp only at hSW); go_simp; (try with_reducible rfl))
                          (try simp only [Act.put, sA, sZ, sS])
                          refine tkW 214 (i := 21) (v := ?v13_21) rfl rfl (by kernel_rfl) (fun _ _ _ h => h) ?y13_21 (by assumption) ?r13_21
                          case y13_21 => (intro W hSW; (try dsimp only at hSW); go_simp; (try with_reducible rfl))
                          (try simp only [Act.put, sA, sZ, sS])
                          refine tkW 215 (i := 22) (v := ?v13_22) rfl rfl (by kernel_rfl) (fun _ _ _ h => h) ?y13_22 (by assumption) ?r13_22
                          case y13_22 => (intro W hSW; (try dsimp only at hSW); go_simp; (try with_reducible rfl))
                          (try simp only [Act.put, sA, sZ, sS])
                          refine tkW 216 (i := 23) (v := ?v13_23) rfl rfl (by kernel_rfl) (fun _ _ _ h => h) ?y13_23 (by assumption) ?r13_23
                          case y13_23 => (intro W hSW; (try dsimp only at hSW); go_simp; (try with_reducible rfl))
                          (try simp only [Act.put, sA, sZ, sS])
                          refine tkW 217 (i := 24) (v := ?v13_24) rfl rfl (by kernel_rfl) (fun _ _ _ h => h) ?y13_24 (by assumption) ?r13_24
                          case y13_24 => (intro W hSW; (try dsimp only at hSW); go_simp; (try with_reducible rfl))
                          (try simp only [Act.put, sA, sZ, sS])
                          refine tkW 218 (i := 25) (v := ?v13_25) rfl rfl (by kernel_rfl) (fun _ _ _ h => h) ?y13_25 (by assumption) ?r13_25
                          case y13_25 => (intro W hSW; (try dsimp only at hSW); go_simp; (try with_reducible rfl))
                          (try simp only [Act.put, sA, sZ, sS])
                          refine tkW 219 (i := 26) (v := ?v13_26) rfl rfl (by kernel_rfl) (fun _ _ _ h => h) ?y13_26 (by assumption) ?r13_26
                          case y13_26 => (intro W hSW; (try dsimp only at hSW); go_simp; (try with_reducible rfl))
                          (try simp only [Act.put, sA, sZ, sS])
                          refine tkW 220 (i := 27) (v := ?v13_27) rfl rfl (by kernel_rfl) (fun _ _ _ h => h) ?y13_27 (by assumption) ?r13_27
                          case y13_27 => (intro W hSW; (try dsimp only at hSW); go_simp; (try with_reducible rfl))
                          (try simp only [Act.put, sA, sZ, sS])
                          refine tkW 221 (i := 28) (v := ?v13_28) rfl rfl (by kernel_rfl) (fun _ _ _ h => h) ?y13_28 (by assumption) ?r13_28
                          case y13_28 => (intro W hSW; (try dsimp only at hSW); go_simp; (try with_reducible rfl))
                          (try simp only [Act.put, sA, sZ, sS])
                          refine tkW 222 (i := 29) (v := ?v13_29) rfl rfl (by kernel_rfl) (fun _ _ _ h => h) ?y13_29 (by assumption) ?r13_29
                          case y13_29 => (intro W hSW; (try dsimp only at hSW); go_simp; (try with_reducible rfl))
                          (try simp only [Act.put, sA, sZ, sS])
                          refine tkW 223 (i := 30) (v := ?v13_30) rfl rfl (by kernel_rfl) (fun _ _ _ h => h) ?y13_30 (by assumption) ?r13_30
                          case y13_30 => (intro W hSW; (try dsimp only at hSW); go_simp; (try with_reducible rfl))
                          (try simp only [Act.put, sA, sZ, sS])
                          refine tkW 224 (i := 31) (v := ?v13_31) rfl rfl (by kernel_rfl) (fun _ _ _ h => h) ?y13_31 (by assumption) ?r13_31
                          case y13_31 => (intro W hSW; (try dsimp only at hSW); go_simp; (try with_reducible rfl))
                          (try simp only [Act.put, sA, sZ, sS])
                          refine wpAnyH_ready (rs := [32]) (by kernel_rfl) (by simp) ?_
                          refine AllReadyH.cons rfl (fun K hK => ?_) AllReadyH.nil
                          rw [if_pos (by rfl)]
                          go_simp
                          refine (rmeet_any o1 (o1 + 1 + size1) o2 (o2 + 1 + size2) _ HI1.out.1 HI1.out.2).mono ?_
                          rintro e w1 ⟨rfl, rfl⟩
                          rw [HMM.out]
                          refine hK.out _ _ (hHeld) (fun hHeld => ?_)
                          clear hK K
                          (try simp only [Act.put, sA, sZ, sS])
                          refine tkW 226 (i := 33) (v := ?v13_33) rfl rfl (by kernel_rfl) (fun _ _ _ h => h) ?y13_33 (by assumption) ?r13_33
                          case y13_33 => (intro W hSW; (try dsimp only at hSW); go_simp; (try with_reducible rfl))
                          (try simp only [Act.put, sA, sZ, sS])
                          refine wpAnyH_done (by kernel_rfl) ?_ _
                          go_wp2_with fail
                          go_roundw
                          case rel => exact ⟨j + 1, by omega, by go_num, HT3.out, HX⟩
                          case measure => simp [intOf]; omega
                      · have HX := hide (HM2.out rfl rfl)
                        as_aux_lemma =>
                          refine wp_region_held_drew (S := fun w' => w'.cell? ⟨w.heap.size, 8, none⟩ = some (.slice (some ⟨qb, qo, none⟩) parts.length pC) ∧ w'.cell? ⟨lb0, 2, none⟩ = some (.int .i64 o1) ∧ w'.cell? ⟨lb0 + 1, 2, none⟩ = some (.int .i64 o2) ∧ w'.cell? ⟨W2.heap.size, 0, none⟩ = some (.int .i64 (pn1 : Int)) ∧ w'.cell? ⟨W2.heap.size, 3, none⟩ = some (.int .i64 size1) ∧ w'.cell? ⟨W2.heap.size + 1, 0, none⟩ = some (.int .i64 (pn2 : Int)) ∧ w'.cell? ⟨W2.heap.size + 1, 3, none⟩ = some (.int .i64 size2) ∧ w'.cell? ⟨qb, qo + pn1 * 3, none⟩ = some (.int .i64 n1) ∧ w'.cell? ⟨qb, qo + pn2 * 3, none⟩ = some (.int .i64 n1)) (by kernel_rfl) (⟨e8, k12, k22, x0, x3, y0, y3, t0, u0⟩) (fun hHeld => ?_)
                          refine tkW 193 (i := 0) (v := ?v14_0) rfl rfl (by kernel_rfl) (fun _ _ _ h => h) ?y14_0 (by assumption) ?r14_0
                          case y14_0 => (intro W hSW; (try dsimp only at hSW); go_simp; (try with_reducible rfl))
                          (try simp only [Act.put, sA, sZ, sS])
                          refine tkW 194 (i := 1) (v := ?v14_1) rfl rfl (by kernel_rfl) (fun _ _ _ h => h) ?y14_1 (by assumption) ?r14_1
                          case y14_1 => (intro W hSW; (try dsimp only at hSW); go_simp; (try with_reducible rfl))
                          (try simp only [Act.put, sA, sZ, sS])
                          refine tkW 195 (i := 2) (v := ?v14_2) rfl rfl (by kernel_rfl) (fun _ _ _ h => h) ?y14_2 (by assumption) ?r14_2
                          case y14_2 => (intro W hSW; (try dsimp only at hSW); go_simp; (try with_reducible rfl))
                          (try simp only [Act.put, sA, sZ, sS])
                          refine tkW 196 (i := 3) (v := ?v14_3) rfl rfl (by kernel_rfl) (fun _ _ _ h => h) ?y14_3 (by assumption) ?r14_3
                          case y14_3 => (intro W hSW; (try dsimp only at hSW); go_simp; (try with_reducible rfl))
                          (try simp only [Act.put, sA, sZ, sS])
                          refine tkW 197 (i := 4) (v := ?v14_4) rfl rfl (by kernel_rfl) (fun _ _ _ h => h) ?y14_4 (by assumption) ?r14_4
                          case y14_4 => (intro W hSW; (try dsimp only at hSW); go_simp; (try with_reducible rfl))
                          (try simp only [Act.put, sA, sZ, sS])
                          refine tkW 198 (i := 5) (v := ?v14_5) rfl rfl (by kernel_rfl) (fun _ _ _ h => h) ?y14_5 (by assumption) ?r14_5
                          case y14_5 => (intro W hSW; (try dsimp only at hSW); go_simp; (try with_reducible rfl))
                          (try simp only [Act.put, sA, sZ, sS])
                          refine tkW 199 (i := 6) (v := ?v14_6) rfl rfl (by kernel_rfl) (fun _ _ _ h => h) ?y14_6 (by assumption) ?r14_6
                          case y14_6 => (intro W hSW; (try dsimp only at hSW); go_simp; (try with_reducible rfl))
                          (try simp only [Act.put, sA, sZ, sS])
                          refine tkW 200 (i := 7) (v := ?v14_7) rfl rfl (by kernel_rfl) (fun _ _ _ h => h) ?y14_7 (by assumption) ?r14_7
                          case y14_7 => (intro W hSW; (try dsimp only at hSW); go_simp; (try with_reducible rfl))
                          (try simp only [Act.put, sA, sZ, sS])
                          refine tkW 201 (i := 8) (v := ?v14_8) rfl rfl (by kernel_rfl) (fun _ _ _ h => h) ?y14_8 (by assumption) ?r14_8
                          case y14_8 => (intro W hSW; (try dsimp only at hSW); go_simp; (try with_reducible rfl))
                          (try simp only [Act.put, sA, sZ, sS])
                          refine tkW 202 (i := 9) (v := ?v14_9) rfl rfl (by kernel_rfl) (fun _ _ _ h => h) ?y14_9 (by assumption) ?r14_9
                          case y14_9 => (intro W hSW; (try dsimp only at hSW); go_simp; (try with_reducible rfl))
                          (try simp only [Act.put, sA, sZ, sS])
                          refine tkW 203 (i := 10) (v := ?v14_10) rfl rfl (by kernel_rfl) (fun _ _ _ h => h) ?y14_10 (by assumption) ?r14_10
                          case y14_10 => (intro W hSW; (try dsimp only at hSW); go_simp; (try with_reducible rfl))
                          (try simp only [Act.put, sA, sZ, sS])
                          refine tkW 204 (i := 11) (v := ?v14_11) rfl rfl (by kernel_rfl) (fun _ _ _ h => h) ?y14_11 (by assumption) ?r14_11
                          case y14_11 => (intro W hSW; (try dsimp only at hSW); go_simp; (try with_reducible rfl))
                          (try simp only [Act.put, sA, sZ, sS])
                          refine tkW 205 (i := 12) (v := ?v14_12) rfl rfl (by kernel_rfl) (fun _ _ _ h => h) ?y14_12 (by assumption) ?r14_12
                          case y14_12 => (intro W hSW; (try dsimp only at hSW); go_simp; (try with_reducible rfl))
                          (try simp only [Act.put, sA, sZ, sS])
                          refine tkW 206 (i := 13) (v := ?v14_13) rfl rfl (by kernel_rfl) (fun _ _ _ h => h) ?y14_13 (by assumption) ?r14_13
                          case y14_13 => (intro W hSW; (try dsimp only at hSW); go_simp; (try with_reducible rfl))
                          (try simp only [Act.put, sA, sZ, sS])
                          refine tkW 207 (i := 14) (v := ?v14_14) rfl rfl (by kernel_rfl) (fun _ _ _ h => h) ?y14_14 (by assumption) ?r14_14
                          case y14_14 => (intro W hSW; (try dsimp only at hSW); go_simp; (try with_reducible rfl))
                          (try simp only [Act.put, sA, sZ, sS])
                          refine tkW 208 (i := 15) (v := ?v14_15) rfl rfl (by kernel_rfl) (fun _ _ _ h => h) ?y14_15 (by assumption) ?r14_15
                          case y14_15 => (intro W hSW; (try dsimp only at hSW); go_simp; (try with_reducible rfl))
                          (try simp only [Act.put, sA, sZ, sS])
                          refine tkW 209 (i := 16) (v := ?v14_16) rfl rfl (by kernel_rfl) (fun _ _ _ h => h) ?y14_16 (by assumption) ?r14_16
                          case y14_16 => (intro W hSW; (try dsimp only at hSW); go_simp; (try with_reducible rfl))
                          (try simp only [Act.put, sA, sZ, sS])
                          refine tkW 210 (i := 17) (v := ?v14_17) rfl rfl (by kernel_rfl) (fun _ _ _ h => h) ?y14_17 (by assumption) ?r14_17
                          case y14_17 => (intro W hSW; (try dsimp only at hSW); go_simp; (try with_reducible rfl))
                          (try simp only [Act.put, sA, sZ, sS])
                          refine tkW 211 (i := 18) (v := ?v14_18) rfl rfl (by kernel_rfl) (fun _ _ _ h => h) ?y14_18 (by assumption) ?r14_18
                          case y14_18 => (intro W hSW; (try dsimp only at hSW); go_simp; (try with_reducible rfl))
                          (try simp only [Act.put, sA, sZ, sS])
                          refine tkW 212 (i := 19) (v := ?v14_19) rfl rfl (by kernel_rfl) (fun _ _ _ h => h) ?y14_19 (by assumption) ?r14_19
                          case y14_19 => (intro W hSW; (try dsimp only at hSW); go_simp; (try with_reducible rfl))
                          (try simp only [Act.put, sA, sZ, sS])
                          refine tkW 213 (i := 20) (v := ?v14_20) rfl rfl (by kernel_rfl) (fun _ _ _ h => h) ?y14_20 (by assumption) ?r14_20
                          case y14_20 => (intro W hSW; (try dsimp only at hSW); go_simp; (try with_reducible rfl))
                          (try simp only [Act.put, sA, sZ, sS])
                          refine tkW 214 (i := 21) (v := ?v14_21) rfl rfl (by kernel_rfl) (fun _ _ _ h => h) ?y14_21 (by assumption) ?r14_21
                          case y14_21 => (intro W hSW; (try dsimp only at hSW); go_simp; (try with_reducible rfl))
                          (try simp only [Act.put, sA, sZ, sS])
                          refine tkW 215 (i := 22) (v := ?v14_22) rfl rfl (by kernel_rfl) (fun _ _ _ h => h) ?y14_22 (by assumption) ?r14_22
                          case y14_22 => (intro W hSW; (try dsimp only at hSW); go_simp; (try with_reducible rfl))
                          (try simp only [Act.put, sA, sZ, sS])
                          refine tkW 216 (i := 23) (v := ?v14_23) rfl rfl (by kernel_rfl) (fun _ _ _ h => h) ?y14_23 (by assumption) ?r14_23
                          case y14_23 => (intro W hSW; (try dsimp only at hSW); go_simp; (try with_reducible rfl))
                          (try simp only [Act.put, sA, sZ, sS])
                          refine tkW 217 (i := 24) (v := ?v14_24) rfl rfl (by kernel_rfl) (fun _ _ _ h => h) ?y14_24 (by assumption) ?r14_24
                          case y14_24 => (intro W hSW; (try dsimp only at hSW); go_simp; (try with_reducible rfl))
                          (try simp only [Act.put, sA, sZ, sS])
                          refine tkW 218 (i := 25) (v := ?v14_25) rfl rfl (by kernel_rfl) (fun _ _ _ h => h) ?y14_25 (by assumption) ?r14_25
                          case y14_25 => (intro W hSW; (try dsimp only at hSW); go_simp; (try with_reducible rfl))
                          (try simp only [Act.put, sA, sZ, sS])
                          refine tkW 219 (i := 26) (v := ?v14_26) rfl rfl (by kernel_rfl) (fun _ _ _ h => h) ?y14_26 (by assumption) ?r14_26
                          case y14_26 => (intro W hSW; (try dsimp only at hSW); go_simp; (try with_reducible rfl))
                          (try simp only [Act.put, sA, sZ, sS])
                          refine tkW 220 (i := 27) (v := ?v14_27) rfl rfl (by kernel_rfl) (fun _ _ _ h => h) ?y14_27 (by assumption) ?r14_27
                          case y14_27 => (intro W hSW; (try dsimp only at hSW); go_simp; (try with_reducible rfl))
                          (try simp only [Act.put, sA, sZ, sS])
                          refine tkW 221 (i := 28) (v := ?v14_28) rfl rfl (by kernel_rfl) (fun _ _ _ h => h) ?y14_28 (by assumption) ?r14_28
                          case y14_28 => (intro W hSW; (try dsimp only at hSW); go_simp; (try with_reducible rfl))
                          (try simp only [Act.put, sA, sZ, sS])
                          refine tkW 222 (i := 29) (v := ?v14_29) rfl rfl (by kernel_rfl) (fun _ _ _ h => h) ?y14_29 (by assumption) ?r14_29
                          case y14_29 => (intro W hSW; (try dsimp only at hSW); go_simp; (try with_reducible rfl))
                          (try simp only [Act.put, sA, sZ, sS])
                          refine tkW 223 (i := 30) (v := ?v14_30) rfl rfl (by kernel_rfl) (fun _ _ _ h => h) ?y14_30 (by assumption) ?r14_30
                          case y14_30 => (intro W hSW; (try dsimp only at hSW); go_simp; (try with_reducible rfl))
                          (try simp only [Act.put, sA, sZ, sS])
                          refine tkW 224 (i := 31) (v := ?v14_31) rfl rfl (by kernel_rfl) (fun _ _ _ h => h) ?y14_31 (by assumption) ?r14_31
                          case y14_31 => (intro W hSW; (try dsimp only at hSW); go_simp; (try with_reducible rfl))
                          (try simp only [Act.put, sA, sZ, sS])
                          refine wpAnyH_ready (rs := [32]) (by kernel_rfl) (by simp) ?_
                          refine AllReadyH.cons rfl (fun K hK => ?_) AllReadyH.nil
                          rw [if_pos (by rfl)]
                          go_simp
                          refine (rmeet_any o1 (o1 + 1 + size1) o2 (o2 + 1 + size2) _ HI1.out.1 HI1.out.2).mono ?_
                          rintro e w1 ⟨rfl, rfl⟩
                          rw [HMM.out]
                          refine hK.out _ _ (hHeld) (fun hHeld => ?_)
                          clear hK K
                          (try simp only [Act.put, sA, sZ, sS])
                          refine tkW 226 (i := 33) (v := ?v14_33) rfl rfl (by kernel_rfl) (fun _ _ _ h => h) ?y14_33 (by assumption) ?r14_33
                          case y14_33 => (intro W hSW; (try dsimp only at hSW); go_simp; (try with_reducible rfl))
                          (try simp only [Act.put, sA, sZ, sS])
                          refine wpAnyH_done (by kernel_rfl) ?_ _
                          go_wp2_with fail
                          go_ret
                          exact ⟨by rw [HX.out]; rfl, HBB.out⟩
                    · have hn' : (n1 == n2) = false := by simpa using hn
                      have HX := hide (HJ4.out (fun q => absurd q hn))
                      clear hn
                      as_aux_lemma =>
                        refine wp_region_held_drew (S := fun w' => w'.cell? ⟨w.heap.size, 8, none⟩ = some (.slice (some ⟨qb, qo, none⟩) parts.length pC) ∧ w'.cell? ⟨lb0, 2, none⟩ = some (.int .i64 o1) ∧ w'.cell? ⟨lb0 + 1, 2, none⟩ = some (.int .i64 o2) ∧ w'.cell? ⟨W2.heap.size, 0, none⟩ = some (.int .i64 (pn1 : Int)) ∧ w'.cell? ⟨W2.heap.size, 3, none⟩ = some (.int .i64 size1) ∧ w'.cell? ⟨W2.heap.size + 1, 0, none⟩ = some (.int .i64 (pn2 : Int)) ∧ w'.cell? ⟨W2.heap.size + 1, 3, none⟩ = some (.int .i64 size2) ∧ w'.cell? ⟨qb, qo + pn1 * 3, none⟩ = some (.int .i64 n1) ∧ w'.cell? ⟨qb, qo + pn2 * 3, none⟩ = some (.int .i64 n2)) (by kernel_rfl) (⟨e8, k12, k22, x0, x3, y0, y3, t0, u0⟩) (fun hHeld => ?_)
                        refine tkW 193 (i := 0) (v := ?v15_0) rfl rfl (by kernel_rfl) (fun _ _ _ h => h) ?y15_0 (by assumption) ?r15_0
                        case y15_0 => (intro W hSW; (try dsimp only at hSW); go_simp; (try with_reducible rfl))
                        (try simp only [Act.put, sA, sZ, sS])
                        refine tkW 194 (i := 1) (v := ?v15_1) rfl rfl (by kernel_rfl) (fun _ _ _ h => h) ?y15_1 (by assumption) ?r15_1
                        case y15_1 => (intro W hSW; (try dsimp only at hSW); go_simp; (try with_reducible rfl))
                        (try simp only [Act.put, sA, sZ, sS])
                        refine tkW 195 (i := 2) (v := ?v15_2) rfl rfl (by kernel_rfl) (fun _ _ _ h => h) ?y15_2 (by assumption) ?r15_2
                        case y15_2 => (intro W hSW; (try dsimp only at hSW); go_simp; (try with_reducible rfl))
                        (try simp only [Act.put, sA, sZ, sS])
                        refine tkW 196 (i := 3) (v := ?v15_3) rfl rfl (by kernel_rfl) (fun _ _ _ h => h) ?y15_3 (by assumption) ?r15_3
                        case y15_3 => (intro W hSW; (try dsimp only at hSW); go_simp; (try with_reducible rfl))
                        (try simp only [Act.put, sA, sZ, sS])
                        refine tkW 197 (i := 4) (v := ?v15_4) rfl rfl (by kernel_rfl) (fun _ _ _ h => h) ?y15_4 (by assumption) ?r15_4
                        case y15_4 => (intro W hSW; (try dsimp only at hSW); go_simp; (try with_reducible rfl))
                        (try simp only [Act.put, sA, sZ, sS])
                        refine tkW 198 (i := 5) (v := ?v15_5) rfl rfl (by kernel_rfl) (fun _ _ _ h => h) ?y15_5 (by assumption) ?r15_5
                        case y15_5 => (intro W hSW; (try dsimp only at hSW); go_simp; (try with_reducible rfl))
                        (try simp only [Act.put, sA, sZ, sS])
                        refine tkW 199 (i := 6) (v := ?v15_6) rfl rfl (by kernel_rfl) (fun _ _ _ h => h) ?y15_6 (by assumption) ?r15_6
                        case y15_6 => (intro W hSW; (try dsimp only at hSW); go_simp; (try with_reducible rfl))
                        (try simp only [Act.put, sA, sZ, sS])
                        refine tkW 200 (i := 7) (v := ?v15_7) rfl rfl (by kernel_rfl) (fun _ _ _ h => h) ?y15_7 (by assumption) ?r15_7
                        case y15_7 => (intro W hSW; (try dsimp only at hSW); go_simp; (try with_reducible rfl))
                        (try simp only [Act.put, sA, sZ, sS])
                        refine tkW 201 (i := 8) (v := ?v15_8) rfl rfl (by kernel_rfl) (fun _ _ _ h => h) ?y15_8 (by assumption) ?r15_8
                        case y15_8 => (intro W hSW; (try dsimp only at hSW); go_simp; (try with_reducible rfl))
                        (try simp only [Act.put, sA, sZ, sS])
                        refine tkW 202 (i := 9) (v := ?v15_9) rfl rfl (by kernel_rfl) (fun _ _ _ h => h) ?y15_9 (by assumption) ?r15_9
                        case y15_9 => (intro W hSW; (try dsimp only at hSW); go_simp; (try with_reducible rfl))
                        (try simp only [Act.put, sA, sZ, sS])
                        refine tkW 203 (i := 10) (v := ?v15_10) rfl rfl (by kernel_rfl) (fun _ _ _ h => h) ?y15_10 (by assumption) ?r15_10
                        case y15_10 => (intro W hSW; (try dsimp only at hSW); go_simp; (try with_reducible rfl))
                        (try simp only [Act.put, sA, sZ, sS])
                        refine tkW 204 (i := 11) (v := ?v15_11) rfl rfl (by kernel_rfl) (fun _ _ _ h => h) ?y15_11 (by assumption) ?r15_11
                        case y15_11 => (intro W hSW; (try dsimp only at hSW); go_simp; (try with_reducible rfl))
                        (try simp only [Act.put, sA, sZ, sS])
                        refine tkW 205 (i := 12) (v := ?v15_12) rfl rfl (by kernel_rfl) (fun _ _ _ h => h) ?y15_12 (by assumption) ?r15_12
                        case y15_12 => (intro W hSW; (try dsimp only at hSW); go_simp; (try with_reducible rfl))
                        (try simp only [Act.put, sA, sZ, sS])
                        refine tkW 206 (i := 13) (v := ?v15_13) rfl rfl (by kernel_rfl) (fun _ _ _ h => h) ?y15_13 (by assumption) ?r15_13
                        case y15_13 => (intro W hSW; (try dsimp only at hSW); go_simp; (try with_reducible rfl))
                        (try simp only [Act.put, sA, sZ, sS])
                        refine tkW 207 (i := 14) (v := ?v15_14) rfl rfl (by kernel_rfl) (fun _ _ _ h => h) ?y15_14 (by assumption) ?r15_14
                        case y15_14 => (intro W hSW; (try dsimp only at hSW); go_simp; (try with_reducible rfl))
                        (try simp only [Act.put, sA, sZ, sS])
                        refine tkW 208 (i := 15) (v := ?v15_15) rfl rfl (by kernel_rfl) (fun _ _ _ h => h) ?y15_15 (by assumption) ?r15_15
                        case y15_15 => (intro W hSW; (try dsimp only at hSW); go_simp; (try with_reducible rfl))
                        (try simp only [Act.put, sA, sZ, sS])
                        refine tkU 209 (i := 16) rfl rfl (by kernel_rfl) (fun _ _ _ h => h) (by assumption) ?_
                        (try simp only [Act.put, sA, sZ, sS])
                        refine tkU 210 (i := 17) rfl rfl (by kernel_rfl) (fun _ _ _ h => h) (by assumption) ?_
                        (try simp only [Act.put, sA, sZ, sS])
                        refine tkU 211 (i := 18) rfl rfl (by kernel_rfl) (fun _ _ _ h => h) (by assumption) ?_
                        (try simp only [Act.put, sA, sZ, sS])
                        refine tkU 212 (i := 19) rfl rfl (by kernel_rfl) (fun _ _ _ h => h) (by assumption) ?_
                        (try simp only [Act.put, sA, sZ, sS])
                        refine tkU 213 (i := 20) rfl rfl (by kernel_rfl) (fun _ _ _ h => h) (by assumption) ?_
                        (try simp only [Act.put, sA, sZ, sS])
                        refine tkU 214 (i := 21) rfl rfl (by kernel_rfl) (fun _ _ _ h => h) (by assumption) ?_
                        (try simp only [Act.put, sA, sZ, sS])
                        refine tkU 215 (i := 22) rfl rfl (by kernel_rfl) (fun _ _ _ h => h) (by assumption) ?_
                        (try simp only [Act.put, sA, sZ, sS])
                        refine tkU 216 (i := 23) rfl rfl (by kernel_rfl) (fun _ _ _ h => h) (by assumption) ?_
                        (try simp only [Act.put, sA, sZ, sS])
                        refine tkU 217 (i := 24) rfl rfl (by kernel_rfl) (fun _ _ _ h => h) (by assumption) ?_
                        (try simp only [Act.put, sA, sZ, sS])
                        refine tkU 218 (i := 25) rfl rfl (by kernel_rfl) (fun _ _ _ h => h) (by assumption) ?_
                        (try simp only [Act.put, sA, sZ, sS])
                        refine tkU 219 (i := 26) rfl rfl (by kernel_rfl) (fun _ _ _ h => h) (by assumption) ?_
                        (try simp only [Act.put, sA, sZ, sS])
                        refine tkU 220 (i := 27) rfl rfl (by kernel_rfl) (fun _ _ _ h => h) (by assumption) ?_
                        (try simp only [Act.put, sA, sZ, sS])
                        refine tkU 221 (i := 28) rfl rfl (by kernel_rfl) (fun _ _ _ h => h) (by assumption) ?_
                        (try simp only [Act.put, sA, sZ, sS])
                        refine tkU 222 (i := 29) rfl rfl (by kernel_rfl) (fun _ _ _ h => h) (by assumption) ?_
                        (try simp only [Act.put, sA, sZ, sS])
                        refine tkU 223 (i := 30) rfl rfl (by kernel_rfl) (fun _ _ _ h => h) (by assumption) ?_
                        (try simp only [Act.put, sA, sZ, sS])
                        refine tkU 224 (i := 31) rfl rfl (by kernel_rfl) (fun _ _ _ h => h) (by assumption) ?_
                        (try simp only [Act.put, sA, sZ, sS])
                        refine tkU 225 (i := 32) rfl rfl (by kernel_rfl) (fun _ _ _ h => h) (by assumption) ?_
                        (try simp only [Act.put, sA, sZ, sS])
                        refine tkW 226 (i := 33) (v := ?v15_33) rfl rfl (by kernel_rfl) (fun _ _ _ h => h) ?y15_33 (by assumption) ?r15_33
                        case y15_33 => (intro W hSW; (try dsimp only at hSW); go_simp; (try with_reducible rfl))
                        (try simp only [Act.put, sA, sZ, sS])
                        refine wpAnyH_done (by kernel_rfl) ?_ _
                        go_wp2_with fail
                        go_roundw
                        case rel => exact ⟨j + 1, by omega, by go_num, HT3.out, HX⟩
                        case measure => simp [intOf]; omega
                  · obtain rfl : j = k := by omega
                    have HX : Hid (∀ a b, b < a → a < j + 1 → nd (links.getD a default) = nd (links.getD b default) → meetB (links.getD a default).offset (en (links.getD a default)) (links.getD b default).offset (en (links.getD b default)) = false) := fun a b hab ha => by
                      rcases Nat.lt_succ_iff_lt_or_eq.1 ha with h5 | rfl
                      · exact H.out a b hab h5
                      · exact HJ.out b hab
                    clear hT hg hc
                    go_wp2_with fail
                    go_roundw
                    case rel => exact ⟨j + 1, by omega, by go_num, HT.out, HX⟩
                    case measure => simp [intOf]; omega
              · obtain rfl : k = links.length := by omega
                have HX := hide (HYes.out HLEN.out HALL.out HCA.out (fun i k h1 h2 => H.out i k h1 h2))
                have HBB := hide HT.out.bel
                go_wp2_with fail
                go_ret
                exact ⟨by rw [HX.out]; rfl, HBB.out⟩
  · have H := hide (HLong.out hlen)
    have hlen2 : ¬ ((links.length : Nat) : Int) ≤ 64 := by omega
    go_wp2_with fail
    go_ret
    exact ⟨by rw [H.out]; rfl, hb⟩
end Go.Proofs.YtbeggdahbhfhpaaDoor
