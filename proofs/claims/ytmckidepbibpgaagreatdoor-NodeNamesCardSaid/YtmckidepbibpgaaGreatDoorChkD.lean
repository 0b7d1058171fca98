/-
  What the program asks of windows, and of ports.
-/
import Derived.Test.YtmckidepbibpgaaGreatDoorChkC
namespace Go.Proofs.YtmckidepbibpgaaGreatDoor
open Go.RowKit Go.Deep
set_option linter.unusedVariables false

/-- is it the number of something? -/
def ofB (n : Int) (k : Nat) : Bool := decide (0 ≤ n) && decide (n < (k : Int))

theorem of_parts (n : Int) (k : Nat) (A : Option Addr) (m : Nat) (w : World) :
    Calls Tryz.prog 225 #[.slice A k m, .int .i64 n] w fun e w' => e = .returned (.bool (ofB n k)) ∧ w = w' := by
  go_enter Tryz.func225, Tryz.ntmps225
  by_cases h1 : 0 ≤ n
  · by_cases h2 : n < (k : Int)
    · have H : Hid (ofB n k = true) := by show _ = _; simp [ofB, h1, h2]
      go_wp2
      go_ret
      exact ⟨by rw [H.out]; rfl, rfl⟩
    · have H : Hid (ofB n k = false) := by show _ = _; simp [ofB, h2]
      go_wp2
      go_ret
      exact ⟨by rw [H.out]; rfl, rfl⟩
  · have H : Hid (ofB n k = false) := by show _ = _; simp [ofB, h1]
    go_wp2
    go_ret
    exact ⟨by rw [H.out]; rfl, rfl⟩
theorem of_ports (n : Int) (k : Nat) (A : Option Addr) (m : Nat) (w : World) :
    Calls Tryz.prog 269 #[.slice A k m, .int .i64 n] w fun e w' => e = .returned (.bool (ofB n k)) ∧ w = w' := by
  go_enter Tryz.func269, Tryz.ntmps269
  by_cases h1 : 0 ≤ n
  · by_cases h2 : n < (k : Int)
    · have H : Hid (ofB n k = true) := by show _ = _; simp [ofB, h1, h2]
      go_wp2
      go_ret
      exact ⟨by rw [H.out]; rfl, rfl⟩
    · have H : Hid (ofB n k = false) := by show _ = _; simp [ofB, h2]
      go_wp2
      go_ret
      exact ⟨by rw [H.out]; rfl, rfl⟩
  · have H : Hid (ofB n k = false) := by show _ = _; simp [ofB, h1]
    go_wp2
    go_ret
    exact ⟨by rw [H.out]; rfl, rfl⟩
theorem of_spans (n : Int) (k : Nat) (A : Option Addr) (m : Nat) (w : World) :
    Calls Tryz.prog 223 #[.slice A k m, .int .i64 n] w fun e w' => e = .returned (.bool (ofB n k)) ∧ w = w' := by
  go_enter Tryz.func223, Tryz.ntmps223
  by_cases h1 : 0 ≤ n
  · by_cases h2 : n < (k : Int)
    · have H : Hid (ofB n k = true) := by show _ = _; simp [ofB, h1, h2]
      go_wp2
      go_ret
      exact ⟨by rw [H.out]; rfl, rfl⟩
    · have H : Hid (ofB n k = false) := by show _ = _; simp [ofB, h2]
      go_wp2
      go_ret
      exact ⟨by rw [H.out]; rfl, rfl⟩
  · have H : Hid (ofB n k = false) := by show _ = _; simp [ofB, h1]
    go_wp2
    go_ret
    exact ⟨by rw [H.out]; rfl, rfl⟩

theorem Ports.at {w : World} {A : Option Addr} {l : List Po} (h : Ports w A l) {k : Nat} (hk : k < l.length) :
    ∃ b off, A = some ⟨b, off, none⟩ ∧ b < w.heap.size ∧ (w.cell? ⟨b, off + k * 6, none⟩ = some (.int .i64 (l.getD k default).part) ∧ w.cell? ⟨b, off + k * 6 + 1, none⟩ = some (.int .i64 (l.getD k default).kind) ∧ w.cell? ⟨b, off + k * 6 + 2, none⟩ = some (.int .i64 (l.getD k default).dir) ∧
      w.cell? ⟨b, off + k * 6 + 3, none⟩ = some (.int .i64 (l.getD k default).size) ∧ w.cell? ⟨b, off + k * 6 + 4, none⟩ = some (.int .i64 (l.getD k default).depth) ∧ w.cell? ⟨b, off + k * 6 + 5, none⟩ = some (.int .i64 (l.getD k default).fresh)) := by
  rcases h.2 with h0 | ⟨b, off, rfl, hlt, hc⟩
  · omega
  · exact ⟨b, off, rfl, hlt, hc k hk⟩
theorem Parts.at {w : World} {A : Option Addr} {l : List Pt} (h : Parts w A l) {k : Nat} (hk : k < l.length) :
    ∃ b off, A = some ⟨b, off, none⟩ ∧ b < w.heap.size ∧ w.cell? ⟨b, off + k * 3, none⟩ = some (.int .i64 (l.getD k default).node) ∧ w.cell? ⟨b, off + k * 3 + 1, none⟩ = some (.int .i64 (l.getD k default).lo) ∧ w.cell? ⟨b, off + k * 3 + 2, none⟩ = some (.int .i64 (l.getD k default).hi) := by
  rcases h.2 with h0 | ⟨b, off, rfl, hlt, hc⟩
  · omega
  · exact ⟨b, off, rfl, hlt, hc k hk⟩

/-- the row on ports -/
def PortsK (c : Conf) : Prop := c.ports.length ≤ 64 ∧ ∀ k, k < c.ports.length → ofB (c.ports.getD k default).part c.parts.length = true ∧ PortB (c.ports.getD k default) = true
instance (c : Conf) : Decidable (PortsK c) := by unfold PortsK; infer_instance

/-- what stands while a configuration is looked at -/
structure CfS (w W : World) (c : Conf) (d : Ad) : Prop where
  bel : Below w.heap.size w W
  x : Boxed W w.heap.size c d
  g : Glo W
  cf : ConfAt W c d
theorem CfS.below {w W W' : World} {c : Conf} {d : Ad} (h : CfS w W c d) (hb : Below W.heap.size W W') : CfS w W' c d :=
  ⟨h.bel.trans (hb.mono h.bel.size), h.x.below hb (Nat.le_refl _), h.g.below hb (Nat.le_refl _), h.cf.of_below hb (Nat.le_refl _)⟩
theorem CfS.first {w : World} {c : Conf} {d : Ad} (t : TypeId) (hg : Glo w) (h : ConfAt w c d) : CfS w (w.alloc (.cells (c.cells d) t)) c d :=
  ⟨(Below.refl w.heap.size w).alloc (Nat.le_refl _) _, boxed_new w c d t, hg.below ((Below.refl w.heap.size w).alloc (Nat.le_refl _) _) (Nat.le_refl _), h.of_below ((Below.refl w.heap.size w).alloc (Nat.le_refl _) _) (Nat.le_refl _)⟩

set_option maxRecDepth 100000 in
set_option maxHeartbeats 4000000 in
theorem ports_any (c : Conf) (d : Ad) (w : World) (hg : Glo w) (h : ConfAt w c d) :
    Calls Tryz.prog 175 #[c.val d] w fun e w' => e = .returned (.bool (decide (PortsK c))) ∧ Below w.heap.size w w' := by
  have hS := CfS.first 28 hg h
  clear hg h
  obtain ⟨oA, oC, pA, pC, wA, wC, qA, qC, lA, lC⟩ := d
  unfold Conf.val
  unfold Conf.cells at hS
  dsimp only at hS ⊢
  obtain ⟨hb, ⟨hl, e0, e1, e2, e3, e4, e5, e6, e7, e8, e9, e10, e11⟩, hg, hc⟩ := id hS
  dsimp only at e1 e8 e9 e10 e11
  have hq := hc.qLen
  go_enter Tryz.func175, Tryz.ntmps175
  by_cases hlen : c.ports.length ≤ 64
  · have hlen2 : ((c.ports.length : Nat) : Int) ≤ 64 := by omega
    have HS := hide hS
    clear hc hq
    go_upto_region 4 with fail
    go_loopw [12] (fun i W => ∃ k : Nat, k ≤ c.ports.length ∧ i = .int .i64 k ∧ CfS w W c ⟨oA, oC, pA, pC, wA, wC, qA, qC, lA, lC⟩ ∧ Hid (∀ j, j < k → ofB (c.ports.getD j default).part c.parts.length = true ∧ PortB (c.ports.getD j default) = true)) (fun i _ => c.ports.length - (intOf i).toNat)
    case atStart => exact ⟨0, by omega, rfl, HS.out, fun j hj => by omega⟩
    case round =>
      obtain ⟨k, hk, rfl, hT, H⟩ := hrel
      clear hS hb hl e0 e1 e2 e3 e4 e5 e6 e7 e8 e9 e10 e11 hg HS
      obtain ⟨hb, ⟨hl, e0, e1, e2, e3, e4, e5, e6, e7, e8, e9, e10, e11⟩, hg, hc⟩ := id hT
      dsimp only at e1 e8 e9 e10 e11
      by_cases hlt : k < c.ports.length
      · obtain ⟨pb, po, hA, hpb, f0, f1, f2, f3, f4, f5⟩ := hc.ports.at hlt
        obtain ⟨p, hp⟩ : ∃ p, c.ports.getD k default = p := ⟨_, rfl⟩
        rw [hp] at f0 f1 f2 f3 f4 f5
        dsimp only at hA
        subst hA
        have hbx := (Below.refl wr.heap.size wr).alloc (Nat.le_refl _) (.cells p.cells 47)
        have hT1 := hide (hT.below hbx)
        unfold Po.cells at hT1 hbx
        clear hT
        have HN : Hid (ofB p.part c.parts.length = true → PortB p = true → ∀ j, j < k + 1 → ofB (c.ports.getD j default).part c.parts.length = true ∧ PortB (c.ports.getD j default) = true) := fun g1 g2 j hj => by
          rcases Nat.lt_succ_iff_lt_or_eq.1 hj with h5 | rfl
          · exact H.out j h5
          · rw [hp]; exact ⟨g1, g2⟩
        have HF : Hid (ofB p.part c.parts.length = false ∨ PortB p = false → decide (PortsK c) = false) := fun g => by
          rw [decide_eq_false_iff_not]
          rintro ⟨_, a⟩
          have a1 := a k hlt
          rw [hp] at a1
          rcases g with g | g
          · rw [g] at a1; cases a1.1
          · rw [g] at a1; cases a1.2
        have HP := hide hp
        clear hp H hc hg
        obtain ⟨q1, h1⟩ : ∃ q, ofB p.part c.parts.length = q := ⟨_, rfl⟩
        obtain ⟨q2, h2⟩ : ∃ q, PortB p = q := ⟨_, rfl⟩
        rw [h1, h2] at HN HF
        replace h1 := hide h1
        replace h2 := hide h2
        cases q1
        · have H0 := hide (HF.out (.inl rfl))
          go_wp2_with (go_at_call 225; refine (of_parts _ _ _ _ _).mono ?_; rintro e w1 ⟨rfl, rfl⟩; rw [h1.out])
          go_ret
          exact ⟨by rw [H0.out]; rfl, hT1.out.bel⟩
        · cases q2
          · have H0 := hide (HF.out (.inr rfl))
            go_wp2_with (first
              | (go_at_call 225; refine (of_parts _ _ _ _ _).mono ?_; rintro e w1 ⟨rfl, rfl⟩; rw [h1.out])
              | (go_at_call 226; refine (port_any p _ hT1.out.g).mono ?_; rintro e w1 ⟨rfl, hb1⟩; have hT2 := hT1.out.below hb1; rw [h2.out]))
            go_ret
            exact ⟨by rw [H0.out]; rfl, hT2.bel⟩
          · have H0 := hide (HN.out rfl rfl)
            go_wp2_with (first
              | (go_at_call 225; refine (of_parts _ _ _ _ _).mono ?_; rintro e w1 ⟨rfl, rfl⟩; rw [h1.out])
              | (go_at_call 226; refine (port_any p _ hT1.out.g).mono ?_; rintro e w1 ⟨rfl, hb1⟩; have hT2 := hide (hT1.out.below hb1); rw [h2.out]))
            go_roundw
            case rel => exact ⟨k + 1, by omega, by go_num, hT2.out, H0⟩
            case measure => simp [intOf]; omega
      · obtain rfl : k = c.ports.length := by omega
        have H2 : Hid (decide (PortsK c) = true) := by
          show _ = _
          rw [decide_eq_true_eq]
          exact ⟨hlen, H.out⟩
        clear hc hg hT
        go_wp2
        go_ret
        exact ⟨by rw [H2.out]; rfl, hb⟩
  · have H : Hid (decide (PortsK c) = false) := by
      show _ = _
      rw [decide_eq_false_iff_not]
      exact fun a => hlen a.1
    go_wp2
    go_ret
    exact ⟨by rw [H.out]; rfl, hb⟩
end Go.Proofs.YtmckidepbibpgaaGreatDoor
