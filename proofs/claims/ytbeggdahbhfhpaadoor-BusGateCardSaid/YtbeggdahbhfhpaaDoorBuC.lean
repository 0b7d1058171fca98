/-
  The bus: what each node receives of what passes.
-/
import Derived.Test.YtbeggdahbhfhpaaDoorBuB
import Derived.Test.YtbeggdahbhfhpaaDoorSliC
import Derived.Deep.DeepCutAuto
namespace Go.Proofs.YtbeggdahbhfhpaaDoor
open Go.RowKit Go.Deep
set_option linter.unusedVariables false
set_option linter.unusedSimpArgs false

structure CpD where
  kind : Int
  pos : Int
  mask : Nat
instance : Inhabited CpD := ⟨⟨0, 0, 0⟩⟩
def CpAt (W : World) (A : Option Addr) (C : List CpD) : Prop :=
  (∀ z ∈ C, (Lit.int .i64 z.pos).wf = true ∧ z.mask < 4294967296) ∧ Lies W A C.length 3 fun i b o => W.cell? ⟨b, o, none⟩ = some (.int .i64 (C.getD i default).kind) ∧ W.cell? ⟨b, o + 1, none⟩ = some (.int .i64 (C.getD i default).pos) ∧ W.cell? ⟨b, o + 2, none⟩ = some (.int .u32 ((C.getD i default).mask : Int))
theorem CpAt.below {w w' : World} {A : Option Addr} {C : List CpD} {B : Nat} (h : CpAt w A C) (hb : Below B w w') (hB : w.heap.size ≤ B) : CpAt w' A C :=
  ⟨h.1, h.2.of_below hb hB fun i b o _ hlt ⟨a, b', c⟩ => ⟨cell_below hb hB hlt a, cell_below hb hB hlt b', cell_below hb hB hlt c⟩⟩
theorem CpAt.at {w : World} {A : Option Addr} {C : List CpD} (h : CpAt w A C) {i : Nat} (hi : i < C.length) : ∃ b o, A = some ⟨b, o, none⟩ ∧ b < w.heap.size ∧ (w.cell? ⟨b, o + i * 3, none⟩ = some (.int .i64 (C.getD i default).kind) ∧ w.cell? ⟨b, o + i * 3 + 1, none⟩ = some (.int .i64 (C.getD i default).pos) ∧ w.cell? ⟨b, o + i * 3 + 2, none⟩ = some (.int .u32 ((C.getD i default).mask : Int))) ∧ (Lit.int .i64 (C.getD i default).pos).wf = true ∧ (C.getD i default).mask < 4294967296 := by
  rcases h.2 with h0 | ⟨b, o, e, hlt, hc⟩
  · omega
  · exact ⟨b, o, e, hlt, hc i hi, h.1 _ (by rw [List.getD_eq_getElem?_getD, List.getElem?_eq_getElem hi]; exact List.getElem_mem hi)⟩
/-- what a node receives; none: nothing -/
def recvB (l : List Nat) (owner : Int) (C : List CpD) (node : Nat) : Option (List Nat) :=
  if (node : Int) ≠ owner ∧ node < C.length then (if (C.getD node default).kind = 1 then none else if (C.getD node default).kind = 2 then some (corr l (C.getD node default).pos (C.getD node default).mask) else some l) else some l
def RecV (W : World) (base : Nat) (v : Value) : Option (List Nat) → Prop
  | none => v = .slice none 0 0
  | some l => ∃ q c, v = .slice (some ⟨q, 0, none⟩) l.length c ∧ base ≤ q ∧ OwnS W q q l.length c l
theorem RecV.below {W W' : World} {base : Nat} {v : Value} {r : Option (List Nat)} (h : RecV W base v r) (hb : Below W.heap.size W W') : RecV W' base v r := by
  rcases r with _ | l
  · exact h
  · obtain ⟨q, c, e, h1, h2⟩ := h
    exact ⟨q, c, e, h1, h2.later hb h2.blk⟩

theorem brow_far (w : World) {g k : Nat} (cs : Array Value) (h : k ≠ g) : (w.setRow g cs).heap[k]? = w.heap[k]? := by
  show (w.heap.modify g _)[k]? = _
  rw [Array.getElem?_modify, if_neg (fun e => h e.symm)]
theorem bbelow_row {B : Nat} {w W : World} {g : Nat} (h : Below B w W) (hg : B ≤ g) (cs : Array Value) : Below B w (W.setRow g cs) :=
  ⟨h.os, h.tape, h.output, by show _ ≤ (W.heap.modify g _).size; rw [Array.size_modify]; exact h.size, fun k hk => (brow_far W cs (by omega)).trans (h.block k hk)⟩
theorem bcellOf {w : World} {b : Nat} {cs : Array Value} {e : TypeId} {fz : Nat × Nat} (h : w.heap[b]? = some (.cells cs e fz)) (k : Nat) : w.cell? ⟨b, k, none⟩ = cs[k]? := by simp [World.cell?, h]
set_option maxRecDepth 100000 in
set_option maxHeartbeats 2000000 in
theorem recv_at (l : List Nat) (ad : Addr) (cl : Nat) (owner : Int) (C : List CpD) (A : Option Addr) (cc : Nat) (o1 o2 o3 : Nat) (node : Nat) (w : World) (hl : l.length ≤ 1000000) (hB : Bytes w (some ad) l) (hC : CpAt w A C)
    (h1 : w.cell? ⟨o1, 0, none⟩ = some (.int .i64 owner)) (h2 : w.cell? ⟨o2, 0, none⟩ = some (.slice A C.length cc)) (h3 : w.cell? ⟨o3, 0, none⟩ = some (.slice (some ad) l.length cl)) (l1 : o1 < w.heap.size) (l2 : o2 < w.heap.size) (l3 : o3 < w.heap.size) :
    Calls Tryd.prog 100 #[.int .i64 (node : Int), .pointer (some ⟨o1, 0, none⟩), .pointer (some ⟨o2, 0, none⟩), .pointer (some ⟨o3, 0, none⟩)] w fun e w' => ∃ v, e = .returned v ∧ RecV w' w.heap.size v (recvB l owner C node) ∧ Below w.heap.size w w' := by
  have hb1 := bal w (.cells #[.int .i64 0, .int .i64 0, .int .u32 0] 206)
  have HZ := hide hb1.size
  have HOl := hide (fun W (hb : Below w.heap.size w W) => ownList_at l (some ad) l.length cl W rfl hl (hB.of_below hb (Nat.le_refl _)))
  have HCo := hide (fun W (hb : Below w.heap.size w W) z mask (hz : (Lit.int .i64 z).wf = true) (hmask : mask < 4294967296) => corr_own l l.length ad cl z mask W rfl hl (hB.of_below hb (Nat.le_refl _)) hz hmask)
  have HOl2 := hide (fun l' (h : l'.length ≤ 1000000) (g c : Nat) W (hO : Bytes W (some ⟨g, 0, none⟩) l') => ownList_at l' (some ⟨g, 0, none⟩) l'.length c W rfl h hO)
  have HCell := hide (fun W (hb : Below w.heap.size w W) => And.intro (cell_below hb (Nat.le_refl _) l1 h1) (And.intro (cell_below hb (Nat.le_refl _) l2 h2) (cell_below hb (Nat.le_refl _) l3 h3)))
  have HCp := hide (fun W (hb : Below w.heap.size w W) => hC.below hb (Nat.le_refl _))
  have HREC : Hid (recvB l owner C node = if (node : Int) ≠ owner ∧ node < C.length then (if (C.getD node default).kind = 1 then none else if (C.getD node default).kind = 2 then some (corr l (C.getD node default).pos (C.getD node default).mask) else some l) else some l) := rfl
  have HRow := hide (heap_alloc_new w (.cells #[.int .i64 0, .int .i64 0, .int .u32 0] 206))
  have HOne : Hid ((#[.int .i64 0, .int .i64 0, .int .u32 0] : Array Value).all (·.oneCell') = true) := by show _ = _; simp [Value.oneCell']
  have HOneC : Hid (∀ a b c, (#[.int .i64 a, .int .i64 b, .int .u32 c] : Array Value).all (·.oneCell') = true) := fun _ _ _ => by simp [Value.oneCell']
  have HB2 := hide (bbelow_row hb1 (Nat.le_refl _) #[.int .i64 0, .int .i64 0, .int .u32 0])
  have HZ2 := hide (setRow_heap _ _ _ #[.int .i64 0, .int .i64 0, .int .u32 0] _ _ HRow.out)
  clear hb1 hB hC h1 h2 h3 l1 l2 l3
  go_enter Tryd.func100, Tryd.ntmps100
  go_upto_region 2 with (refine wpList_store_row rfl 206 (.tmp 6) (.tmp 7) rfl _ #[.int .i64 0, .int .i64 0, .int .u32 0] rfl rfl _ _ HRow.out (by kernel_rfl) rfl HOne.out ?_)
  generalize (w.alloc (.cells #[.int .i64 0, .int .i64 0, .int .u32 0] 206)).setRow w.heap.size #[.int .i64 0, .int .i64 0, .int .u32 0] = w2 at HB2 HZ2 ⊢
  generalize hz : w.heap.size = z at HZ2 ⊢
  have HZe := hide hz
  clear hz HRow HOne
  obtain ⟨c1, c2, c3⟩ := HCell.out _ HB2.out
  have k0 : w2.cell? ⟨z, 0, none⟩ = some (.int .i64 0) := (bcellOf HZ2.out 0).trans rfl
  have HBX := hide HB2.out
  by_cases hno : (node : Int) = owner
  · have hnb : ((node : Int) != owner) = false := by simpa using hno
    have HREC : Hid (recvB l owner C node = some l) := by show _ = _; rw [HREC.out, if_neg (fun h => h.1 hno)]
    clear hno
    go_wp2_with fail
    refine (HOl.out _ HBX.out).mono ?_
    rintro e w5 ⟨q, cq, rfl, hq, hb5⟩
    have HF := hide (And.intro (HBX.out.trans (hb5.mono HBX.out.size)) (And.intro (Nat.le_trans HBX.out.size hq.base) (hq.from (Nat.le_refl _))))
    clear hq hb5
    go_wp2
    go_ret
    refine ⟨_, rfl, ?_, HF.out.1⟩
    rw [HREC.out]
    exact ⟨q, cq, rfl, HF.out.2.1, HF.out.2.2⟩
  · have hnb : ((node : Int) != owner) = true := by simpa using hno
    by_cases hlt : node < C.length
    · obtain ⟨b, o, rfl, hbl, ⟨x0, x1, x2⟩, hwf, hmk⟩ := (HCp.out _ HB2.out).at hlt
      have hdl : decide ((node : Int) < ((C.length : Nat) : Int)) = true := decide_eq_true (by omega)
      have HREC1 : Hid (recvB l owner C node = if (C.getD node default).kind = 1 then none else if (C.getD node default).kind = 2 then some (corr l (C.getD node default).pos (C.getD node default).mask) else some l) := by show _ = _; rw [HREC.out, if_pos ⟨hno, hlt⟩]
      have HCo2 := hide (fun W hb => HCo.out W hb (C.getD node default).pos (C.getD node default).mask hwf hmk)
      generalize (C.getD node default).kind = kd at x0 HREC1
      generalize (C.getD node default).pos = po at x1 HREC1 HCo2
      generalize (C.getD node default).mask = mk at x2 HREC1 HCo2
      have HB3 : Hid (Below w.heap.size w (w2.setRow z #[.int .i64 kd, .int .i64 po, .int .u32 (mk : Int)])) := bbelow_row HB2.out (Nat.le_of_eq HZe.out) _
      have HZ3 := hide (setRow_heap _ _ _ #[.int .i64 kd, .int .i64 po, .int .u32 (mk : Int)] _ _ HZ2.out)
      clear hno hwf hmk hbl HREC k0 HBX HB2
      go_upto_region 4 with (refine wpList_store_row rfl 206 (.tmp 6) (.tmp 20) rfl _ #[.int .i64 kd, .int .i64 po, .int .u32 (mk : Int)] rfl rfl _ _ HZ2.out (by kernel_rfl) rfl (HOneC.out _ _ _) ?_)
      clear c1 c2 c3 x0 x1 x2 HZ2
      generalize w2.setRow z #[.int .i64 kd, .int .i64 po, .int .u32 (mk : Int)] = w3 at HB3 HZ3 ⊢
      have HBX := hide HB3.out
      obtain ⟨c1, c2, c3⟩ := HCell.out _ HB3.out
      have k0 : w3.cell? ⟨z, 0, none⟩ = some (.int .i64 kd) := (bcellOf HZ3.out 0).trans rfl
      have k1 : w3.cell? ⟨z, 1, none⟩ = some (.int .i64 po) := (bcellOf HZ3.out 1).trans rfl
      have k2 : w3.cell? ⟨z, 2, none⟩ = some (.int .u32 (mk : Int)) := (bcellOf HZ3.out 2).trans rfl
      by_cases hk1 : kd = 1
      · subst hk1
        have HREC : Hid (recvB l owner C node = none) := by show _ = _; rw [HREC1.out, if_pos rfl]
        go_wp2
        go_ret
        refine ⟨_, rfl, ?_, HBX.out⟩
        rw [HREC.out]
        rfl
      · have hkb1 : (kd == 1) = false := beq_eq_false_iff_ne.2 hk1
        by_cases hk2 : kd = 2
        · subst hk2
          have HREC : Hid (recvB l owner C node = some (corr l po mk)) := by show _ = _; rw [HREC1.out, if_neg (by omega), if_pos rfl]
          have hcl : (corr l po mk).length = l.length := corr_len l po mk
          have HLc := hide hcl
          clear hcl
          go_wp2_with fail
          refine (HCo2.out _ HBX.out).mono ?_
          rintro e w4 ⟨g4, c4, rfl, hO4, hb4⟩
          have HB4 := hide (HBX.out.trans (hb4.mono HBX.out.size))
          have hOL := HOl2.out _ (by rw [HLc.out]; exact hl) g4 c4 w4 hO4.bytes
          rw [HLc.out] at hOL
          have HOL := hide hOL
          clear hb4 hO4 hOL c1 c2 c3 k0 k1 k2
          go_wp2_with fail
          refine HOL.out.mono ?_
          rintro e w5 ⟨q, cq, rfl, hq, hb5⟩
          have HF := hide (And.intro (HB4.out.trans (hb5.mono HB4.out.size)) (And.intro (Nat.le_trans HB4.out.size hq.base) (hq.from (Nat.le_refl _))))
          clear hq hb5
          go_wp2
          go_ret
          refine ⟨_, rfl, ?_, HF.out.1⟩
          rw [HREC.out]
          refine ⟨q, cq, by rw [HLc.out]; rfl, HF.out.2.1, ?_⟩
          rw [HLc.out]
          exact HF.out.2.2
        · have hkb2 : (kd == 2) = false := beq_eq_false_iff_ne.2 hk2
          have HREC : Hid (recvB l owner C node = some l) := by show _ = _; rw [HREC1.out, if_neg hk1, if_neg hk2]
          clear hk1 hk2 k1 k2
          go_wp2_with fail
          refine (HOl.out _ HBX.out).mono ?_
          rintro e w5 ⟨q, cq, rfl, hq, hb5⟩
          have HF := hide (And.intro (HBX.out.trans (hb5.mono HBX.out.size)) (And.intro (Nat.le_trans HBX.out.size hq.base) (hq.from (Nat.le_refl _))))
          clear hq hb5
          go_wp2
          go_ret
          refine ⟨_, rfl, ?_, HF.out.1⟩
          rw [HREC.out]
          exact ⟨q, cq, rfl, HF.out.2.1, HF.out.2.2⟩
    · have HREC : Hid (recvB l owner C node = some l) := by show _ = _; rw [HREC.out, if_neg (fun h => hlt h.2)]
      have hdl : decide ((node : Int) < ((C.length : Nat) : Int)) = false := decide_eq_false (by omega)
      clear hno
      go_wp2_with fail
      refine (HOl.out _ HBX.out).mono ?_
      rintro e w5 ⟨q, cq, rfl, hq, hb5⟩
      have HF := hide (And.intro (HBX.out.trans (hb5.mono HBX.out.size)) (And.intro (Nat.le_trans HBX.out.size hq.base) (hq.from (Nat.le_refl _))))
      clear hq hb5
      go_wp2
      go_ret
      refine ⟨_, rfl, ?_, HF.out.1⟩
      rw [HREC.out]
      exact ⟨q, cq, rfl, HF.out.2.1, HF.out.2.2⟩
end Go.Proofs.YtbeggdahbhfhpaaDoor
