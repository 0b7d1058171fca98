/-
  The walk of ConfigTurns.
-/
import Derived.Test.YtlaapomhmficiaaDoorTurns
import Derived.Test.YtlaapomhmficiaaDoorChkP
namespace Go.Proofs.YtlaapomhmficiaaDoor
open Go.RowKit Go.Deep
set_option linter.unusedVariables false
set_option linter.unusedSimpArgs false

theorem checkF_zero {c : Conf} (h : checkF c = 0) : NodesK c ∧ ClockK c = true ∧ PartsK c ∧ WindowsK c ∧ PortsK c ∧ LinksK c := by
  unfold checkF checkW at h
  split at h
  · cases h
  rename_i h1
  split at h
  · cases h
  rename_i h2
  split at h
  · cases h
  rename_i h3
  split at h
  · cases h
  rename_i h4
  split at h
  · cases h
  rename_i h5
  split at h
  · cases h
  rename_i h6
  exact ⟨Decidable.not_not.1 h1, by simpa using h2, Decidable.not_not.1 h3, Decidable.not_not.1 h4, Decidable.not_not.1 h5, Decidable.not_not.1 h6⟩

set_option maxRecDepth 100000 in
set_option maxHeartbeats 4000000 in
theorem turns_walk (c : Conf) (d : Ad) (a b : Nat) (ha : a < 256) (hb : b < 65536) (w : World) (hg : Glo w) (h : ConfAt w c d)
    (HA : ∀ W, Below w.heap.size w W → Calls Tryd.prog 15 #[] W fun e w' => e = .returned (.bool true) ∧ Below W.heap.size W w') :
    Calls Tryd.prog 3 #[c.val d, .int .u8 (a : Int), .int .u16 (b : Int)] w fun e w' => e = .returned (.bool true) ∧ Below w.heap.size w w' := by
  have hS := CfS.first 28 hg h
  have CA : ∀ W, CfS w W c d → Calls Tryd.prog 15 #[] W fun e w' => e = .returned (.bool true) ∧ Below W.heap.size W w' := fun W H => HA W H.bel
  have CC : ∀ W, CfS w W c d → Calls Tryd.prog 16 #[c.val d] W fun e w' => e = .returned (.int .i64 (checkF c)) ∧ Below W.heap.size W w' := fun W H => check_any c d W H.g H.cf
  have CO : ∀ W s, CfS w W c d → Calls Tryd.prog 18 #[c.val d, .int .i64 s] W fun e w' => e = .returned (.int .i64 (ownF c s)) ∧ Below W.heap.size W w' := fun W s H => owner_any c d s W H.cf
  by_cases hc : checkF c = 0
  · obtain ⟨n1, n2, n3, n4⟩ := (checkF_zero hc).1
    obtain ⟨N, hN⟩ := Int.eq_ofNat_of_zero_le (show 0 ≤ c.nodes by omega)
    have hlN : c.owners.length = N := by omega
    have CT : ∀ W s, CfS w W c d → Calls Tryd.prog 17 #[c.val d, .int .i64 s] W fun e w' => e = .returned (.int .i64 (ixF c.owners s)) ∧ Below W.heap.size W w' := fun W s H => turn_any c d s W H.cf (by omega)
    have hmod : (a : Int).tmod (N : Int) = ((a % N : Nat) : Int) := rfl
    obtain ⟨t, ht, htN, hpos⟩ := turn_math c.owners N hlN (fun k hk => n4 k (by omega)) (a % N) (Nat.mod_lt _ (by omega))
    generalize a % N = n at hmod ht hpos
    have HT := hide ht
    have HO : Hid (∀ k, k < N → ownF c ((b : Int) * (N : Int) + (k : Int)) = c.owners.getD k 0) := fun k hk => by
      unfold ownF
      have h0 : 0 ≤ (b : Int) * (N : Int) := Int.mul_nonneg (by omega) (by omega)
      rw [if_neg (by omega), hN]
      congr 1
      have : ((b : Int) * (N : Int) + (k : Int)) % (N : Int) = (k : Int) := by
        rw [Int.add_comm, Int.add_mul_emod_self_right]
        exact Int.emod_eq_of_lt (by omega) (by omega)
      rw [this]; simp
    have HE : Hid (ownF c (-1 - (t : Int)) = -1) := by show _ = _; unfold ownF; rw [if_pos (.inl (by omega))]
    have HP := hide hpos
    have H0 := hide hc
    have hN4 : 4 ≤ N := by omega
    have hN16 : N ≤ 16 := by omega
    have hbN0 : 0 ≤ (b : Int) * (N : Int) := Int.mul_nonneg (by omega) (by omega)
    have hbN1 : (b : Int) * (N : Int) ≤ 1048560 := by
      have : (b : Int) * (N : Int) ≤ (65535 : Int) * 16 := Int.mul_le_mul (by omega) (by omega) (by omega) (by omega)
      omega
    clear ht hpos hc hlN n1 n2 n3 n4 HA hg h
    have hge : decide (N ≤ t) = false := by simp; omega
    obtain ⟨nodes, owners, drift, reading, margin, bound, rejoin, quota, parts, windows, ports, links⟩ := c
    obtain ⟨oA, oC, pA, pC, wA, wC, qA, qC, lA, lC⟩ := d
    dsimp only at hN
    obtain rfl := hN
    generalize hcc : (⟨(N : Int), owners, drift, reading, margin, bound, rejoin, quota, parts, windows, ports, links⟩ : Conf) = cc at CA CC CO CT HO HE H0 hS
    generalize hdd : (⟨oA, oC, pA, pC, wA, wC, qA, qC, lA, lC⟩ : Ad) = dd at CA CC CO CT hS
    have HV : cc.val dd = .agg #[.int .i64 (N : Int), .slice oA owners.length oC, .int .i64 drift, .int .i64 reading, .int .i64 margin, .int .i64 bound, .int .i64 rejoin, .int .i64 quota,
      .slice pA parts.length pC, .slice wA windows.length wC, .slice qA ports.length qC, .slice lA links.length lC] := by rw [← hcc, ← hdd]; rfl
    have HX : Hid (∀ W, CfS w W cc dd → (W.cell? ⟨w.heap.size, 0, none⟩ = some (.int .i64 (N : Int)) ∧ W.cell? ⟨w.heap.size, 1, none⟩ = some (.slice oA owners.length oC) ∧ W.cell? ⟨w.heap.size, 2, none⟩ = some (.int .i64 drift) ∧ W.cell? ⟨w.heap.size, 3, none⟩ = some (.int .i64 reading)) ∧
      (W.cell? ⟨w.heap.size, 4, none⟩ = some (.int .i64 margin) ∧ W.cell? ⟨w.heap.size, 5, none⟩ = some (.int .i64 bound) ∧ W.cell? ⟨w.heap.size, 6, none⟩ = some (.int .i64 rejoin) ∧ W.cell? ⟨w.heap.size, 7, none⟩ = some (.int .i64 quota)) ∧
      (W.cell? ⟨w.heap.size, 8, none⟩ = some (.slice pA parts.length pC) ∧ W.cell? ⟨w.heap.size, 9, none⟩ = some (.slice wA windows.length wC) ∧ W.cell? ⟨w.heap.size, 10, none⟩ = some (.slice qA ports.length qC) ∧ W.cell? ⟨w.heap.size, 11, none⟩ = some (.slice lA links.length lC)) ∧ w.heap.size < W.heap.size) := fun W H => by
      obtain ⟨hl, e0, e1, e2, e3, e4, e5, e6, e7, e8, e9, e10, e11⟩ := H.x
      rw [← hcc] at e0 e1 e2 e3 e4 e5 e6 e7 e8 e9 e10 e11
      rw [← hdd] at e1 e8 e9 e10 e11
      exact ⟨⟨e0, e1, e2, e3⟩, ⟨e4, e5, e6, e7⟩, ⟨e8, e9, e10, e11⟩, hl⟩
    have HOW : cc.owners = owners := by rw [← hcc]
    have hcl : cc.cells dd = #[.int .i64 (N : Int), .slice oA owners.length oC, .int .i64 drift, .int .i64 reading, .int .i64 margin, .int .i64 bound, .int .i64 rejoin, .int .i64 quota,
      .slice pA parts.length pC, .slice wA windows.length wC, .slice qA ports.length qC, .slice lA links.length lC] := by rw [← hcc, ← hdd]; rfl
    simp only [HV, HOW] at CC CO CT HO HT HP ⊢
    rw [hcl] at hS
    clear hcc hdd HV HOW hcl
    have HA := hide CA; have HC := hide CC; have HCO := hide CO; have HCT := hide CT; have S0 := hide hS
    clear CA CC CO CT
    obtain ⟨⟨e0, e1, e2, e3⟩, ⟨e4, e5, e6, e7⟩, ⟨e8, e9, e10, e11⟩, hlt⟩ := HX.out _ hS
    clear hS
    go_enter Tryd.func3, Tryd.ntmps3
    go_wp2_with (first
      | (go_at_call 15; refine (HA.out _ S0.out).mono ?_; rintro e w1 ⟨rfl, hb1⟩; have S1 := hide (S0.out.below hb1); clear hb1 S0 e0 e1 e2 e3 e4 e5 e6 e7 e8 e9 e10 e11 hlt; obtain ⟨⟨e0, e1, e2, e3⟩, ⟨e4, e5, e6, e7⟩, ⟨e8, e9, e10, e11⟩, hlt⟩ := HX.out _ S1.out)
      | (go_at_call 16; refine (HC.out _ S1.out).mono ?_; rintro e w2 ⟨rfl, hb2⟩; rw [H0.out]; have S2 := hide (S1.out.below hb2); clear hb2 S1 e0 e1 e2 e3 e4 e5 e6 e7 e8 e9 e10 e11 hlt; obtain ⟨⟨e0, e1, e2, e3⟩, ⟨e4, e5, e6, e7⟩, ⟨e8, e9, e10, e11⟩, hlt⟩ := HX.out _ S2.out)
      | (go_at_call 17; refine (HCT.out _ _ S2.out).mono ?_; rintro e w3 ⟨rfl, hb3⟩; rw [HT.out]; have S3 := hide (S2.out.below hb3); clear hb3 S2 e0 e1 e2 e3 e4 e5 e6 e7 e8 e9 e10 e11 hlt; obtain ⟨⟨e0, e1, e2, e3⟩, ⟨e4, e5, e6, e7⟩, ⟨e8, e9, e10, e11⟩, hlt⟩ := HX.out _ S3.out))
    go_loopw [6, 10, 11] (fun r i s W => ∃ k : Nat, k ≤ N ∧ i = .int .i64 k ∧ CfS w W cc dd) (fun _ i _ _ => N - (intOf i).toNat)
    case atStart => exact ⟨0, by omega, rfl, S3.out⟩
    case round =>
      obtain ⟨k, hk, rfl, hT⟩ := hrel
      clear e0 e1 e2 e3 e4 e5 e6 e7 e8 e9 e10 e11 hlt S3
      have T0 := hide hT
      obtain ⟨⟨e0, e1, e2, e3⟩, ⟨e4, e5, e6, e7⟩, ⟨e8, e9, e10, e11⟩, hlt⟩ := HX.out _ hT
      clear hT
      by_cases hlt2 : k < N
      · have HO2 := hide (HO.out k hlt2)
        by_cases he : k = t
        · have he2 := (HP.out k hlt2).2 he
          rw [he2] at HO2
          subst he
          go_wp2_with (go_at_call 18; refine (HCO.out _ _ T0.out).mono ?_; rintro e w2 ⟨rfl, hb2⟩; rw [HO2.out]; have S2 := hide (T0.out.below hb2); clear hb2 T0 e0 e1 e2 e3 e4 e5 e6 e7 e8 e9 e10 e11 hlt)
          go_roundw
          case rel => exact ⟨k + 1, by omega, by go_num, S2.out⟩
          case measure => simp [intOf]; omega
        · have he2 := mt (HP.out k hlt2).1 he
          generalize owners.getD k 0 = z at HO2 he2
          have q1 : (z == (n : Int)) = false := by simpa using he2
          have q2 : ((k : Int) == (t : Int)) = false := by simp; omega
          go_wp2_with (go_at_call 18; refine (HCO.out _ _ T0.out).mono ?_; rintro e w2 ⟨rfl, hb2⟩; rw [HO2.out]; have S2 := hide (T0.out.below hb2); clear hb2 T0 e0 e1 e2 e3 e4 e5 e6 e7 e8 e9 e10 e11 hlt)
          go_roundw
          case rel => exact ⟨k + 1, by omega, by go_num, S2.out⟩
          case measure => simp [intOf]; omega
      · obtain rfl : k = N := by omega
        go_wp2_with (go_at_call 18; refine (HCO.out _ _ T0.out).mono ?_; rintro e w2 ⟨rfl, hb2⟩; rw [HE.out]; have S2 := hide (T0.out.below hb2); clear hb2 T0 e0 e1 e2 e3 e4 e5 e6 e7 e8 e9 e10 e11 hlt)
        go_ret
        exact ⟨rfl, S2.out.bel⟩
  · have H0 := hide (show (checkF c != 0) = true by simpa using hc)
    obtain ⟨z, hz⟩ : ∃ z, checkF c = z := ⟨_, rfl⟩
    rw [hz] at H0 CC
    have HA := hide CA; have HC := hide CC; have S0 := hide hS
    have H1 := hide (fun W (H : CfS w W c d) => H.x)
    clear CA CC CO hS hg h hc hz
    obtain ⟨nodes, owners, drift, reading, margin, bound, rejoin, quota, parts, windows, ports, links⟩ := c
    obtain ⟨oA, oC, pA, pC, wA, wC, qA, qC, lA, lC⟩ := d
    obtain ⟨hl, e0, e1, e2, e3, e4, e5, e6, e7, e8, e9, e10, e11⟩ := H1.out _ S0.out
    unfold Conf.val at HC ⊢
    unfold Conf.cells at S0 e0 e1 e2 e3 e4 e5 e6 e7 e8 e9 e10 e11 hl
    dsimp only at HC S0 e0 e1 e2 e3 e4 e5 e6 e7 e8 e9 e10 e11 ⊢
    have H0' := H0.out
    go_enter Tryd.func3, Tryd.ntmps3
    go_wp2_with (first
      | (go_at_call 15; refine (HA.out _ S0.out).mono ?_; rintro e w1 ⟨rfl, hb1⟩; have S1 := hide (S0.out.below hb1); clear hb1 S0 e0 e1 e2 e3 e4 e5 e6 e7 e8 e9 e10 e11 hl; obtain ⟨hl, e0, e1, e2, e3, e4, e5, e6, e7, e8, e9, e10, e11⟩ := H1.out _ S1.out; dsimp only at e0 e1 e2 e3 e4 e5 e6 e7 e8 e9 e10 e11)
      | (go_at_call 16; refine (HC.out _ S1.out).mono ?_; rintro e w2 ⟨rfl, hb2⟩; have S2 := hide (S1.out.below hb2); clear hb2 S1 e0 e1 e2 e3 e4 e5 e6 e7 e8 e9 e10 e11))
    go_ret
    exact ⟨rfl, S2.out.bel⟩
end Go.Proofs.YtlaapomhmficiaaDoor
