/-
  The walk of a statement: the first place of a size, and those of several.
-/
import Derived.Test.YtpnpbnfjhnmhjaaPcX
import Derived.Test.YtpnpbnfjhnmhjaaPcR
namespace Go.Proofs.Ytpnpbnfjhnmhjaa
open Go.RowKit Go.Shelf
attribute [local go_sem] Oper.semAt_some
set_option linter.unusedVariables false
set_option linter.unusedSimpArgs false
set_option maxRecDepth 100000

theorem firstV_shape (l : List Ai) (z a L : Int) : ∃ (x : Int) (y : Bool), firstV l z a L = .tuple #[.int .i64 x, .bool y] := by
  rcases firstV_two l z a L with ⟨p, e, _⟩ | ⟨e, _⟩
  · exact ⟨_, _, e⟩
  · exact ⟨_, _, e⟩
theorem fit_shape (l : List Ai) (sizes : List Int) (align limit : Int) : ∃ (ps : List Nat) (code : Int), ps.length ≤ sizes.length ∧ (∀ p ∈ ps, p ≤ 1048576) ∧ ∀ B w' e, fitR B w' l sizes align limit e → ∃ v, e = .returned (.tuple #[v, .int .i64 code]) ∧ OwnI w' B v (natI ps) := by
  cases hm : mayAll sizes align limit with
  | false =>
    refine ⟨[], 2, Nat.zero_le _, (fun p h => (by cases h)), fun B w' e h => ?_⟩
    unfold fitR at h
    rw [hm] at h
    exact ⟨_, h, World.ownsRow_nil _ _ _ _⟩
  | true =>
    have hm0 := mayB_t (mayAll_t hm).1
    cases hf : fitS l sizes align.toNat limit.toNat sizes.length with
    | none =>
      refine ⟨[], 160, Nat.zero_le _, (fun p h => (by cases h)), fun B w' e h => ?_⟩
      unfold fitR at h
      rw [if_pos hm, hf] at h
      exact ⟨_, h, World.ownsRow_nil _ _ _ _⟩
    | some ps =>
      refine ⟨ps, 0, Nat.le_of_eq (fitS_len _ _ hf), fun p hp => by have := fitS_le _ _ hf p hp; omega, fun B w' e h => ?_⟩
      unfold fitR at h
      rw [if_pos hm, hf] at h
      exact h
theorem natI_64 {ps : List Nat} (h : ∀ p ∈ ps, p ≤ 1048576) : ∀ z ∈ natI ps, I64 z := by
  intro z hz
  obtain ⟨p, hp, rfl⟩ := List.mem_map.1 hz
  have := h p hp
  unfold I64
  omega

set_option maxHeartbeats 8000000 in
theorem fits_walk (l : List Ai) (A : Option Addr) (c : Nat) (size : Int) (sizes : List Int) (As : Option Addr) (cs : Nat) (align limit : Int) (w : World) (hI : Sps w A l) (hJ : Ints w As sizes) :
    Calls Try.prog 3 #[.slice A l.length c, .int .i64 size, .slice As sizes.length cs, .int .i64 align, .int .i64 limit] w fun e w' => e = .returned (.bool true) ∧ Below w.heap.size w w' := by
  have HG := hide (fun W => great_at A As l.length c sizes.length cs limit W)
  cases hg : decide (50 < l.length ∨ 50 < sizes.length ∨ (300 < limit ∧ limit ≤ 1048576)) with
  | true =>
    rw [hg] at HG
    generalize l.length = N at *
    generalize sizes.length = M at *
    clear hI hJ hg
    go_enter Try.func3, Try.ntmps3
    go_wp2_with fail
    refine (HG.out w).mono ?_
    rintro e w2 ⟨rfl, rfl⟩
    go_wp2_with fail
    go_ret
    exact ⟨rfl, Below.refl _ _⟩
  | false =>
    have hg' := of_decide_eq_false hg
    rw [hg] at HG
    have h300 : mayB 0 1 limit = true → limit ≤ 300 := fun h => by
      obtain ⟨_, _, _, _, h5, h6⟩ := mayB_t h
      omega
    obtain ⟨x, y, hv⟩ := firstV_shape l size align limit
    obtain ⟨ps, code, hp1, hp2, hfit⟩ := fit_shape l sizes align limit
    have HFit := hide hfit
    have HF := hide (fun A' c' W (h : Sps W A' l) => First_at l A' c' size align limit W h (by omega))
    have HR := hide (fun W (h : Sps W A l) => rfirst_at l A c size align limit W h (by omega))
    have HT := hide (fun A' c' W (h : Sps W A' l) (h2 : Ints W As sizes) => Fit_at l A' c' sizes As cs align limit W h h2 (by omega) (by omega) (fun h => by have := h300 h; omega))
    have HRt := hide (fun W (h : Sps W A l) (h2 : Ints W As sizes) => rfit_at l A c sizes As cs align limit W h h2 (by omega) (by omega))
    have HSp := hide (fun A' c' W (h : Sps W A' l) (h2 : Sps W A l) => rspans_same l A' A c' c W h h2 (by omega))
    rw [hv] at HF HR
    have HI := hide hI
    have HIb := hide (fun W (h : Below w.heap.size w W) => hI.of_below h (Nat.le_refl _))
    have HJb := hide (fun W (h : Below w.heap.size w W) => hJ.of_below h (Nat.le_refl _))
    have H64 := hide (natI_64 hp2)
    have hps : (natI ps).length ≤ 1000 := by rw [natI_len]; omega
    have HIn := hide (fun A1 A2 c1 c2 W (h : Ints W A1 (natI ps)) (h2 : Ints W A2 (natI ps)) => rints_same (natI ps) A1 A2 c1 c2 W h h2 hps)
    have hyy : (y == y) = true := by simp
    have hl50 : l.length ≤ 100000 := by omega
    obtain ⟨N, hN⟩ : ∃ N, N = l.length := ⟨_, rfl⟩
    have HN := hide hN
    rw [← hN] at HG HF HR HT HRt HSp ⊢
    obtain ⟨K, hK⟩ : ∃ K, K = (natI ps).length := ⟨_, rfl⟩
    have HK := hide hK
    rw [← hK] at HIn
    generalize sizes.length = M at *
    clear hI hJ hg hg' hN hv hfit hp1 hp2 h300 hK hps
    go_enter Try.func3, Try.ntmps3
    go_wp2_with fail
    refine (HG.out w).mono ?_
    rintro e w2 ⟨rfl, rfl⟩
    have HIa := hide (HI.out.of_below (bal w (.cells #[] 37)) (Nat.le_refl _))
    have HOe := hide (World.ownsRow_made (e := 37) (size := 2) w #[] 0 (Nat.le_refl _) (Nat.zero_le _) (by simp))
    go_wp2_with (at_builtin; go_loud (refine wpList_spans _ rfl _ _ rfl w.heap.size _ rfl HOe.out (by simp) A l c N HN.out rfl HIa.out hl50 ?_))
    intro vo w1 hO hg
    have HB1 := hide (((Below.refl w.heap.size w).alloc (Nat.le_refl _) (.cells #[] 37)).grown hg (by simp) (by intro k hk; simp [Value.ownBlock] at hk; omega))
    obtain ⟨Ao, co, rfl, hSo⟩ := own_spans hO HI.out.1
    rw [← HN.out]
    have HOb := hide (fun W (h : Below w1.heap.size w1 W) => hSo.of_below h (Nat.le_refl _))
    clear hO hg hSo
    go_wp2_with fail
    refine (HF.out _ _ w1 (HOb.out w1 (Below.refl _ _))).mono ?_
    rintro e w2 ⟨rfl, hb⟩
    have HC2 := hide hb
    have HB2 := hide (HB1.out.trans (hb.mono HB1.out.size))
    clear hb
    go_wp2_with fail
    refine (HR.out w2 (HIb.out w2 HB2.out)).mono ?_
    rintro e w3 ⟨rfl, rfl⟩
    go_wp2_with fail
    refine (HT.out _ _ w2 (HOb.out w2 HC2.out) (HJb.out w2 HB2.out)).mono ?_
    rintro e w3 ⟨hf3, hb⟩
    obtain ⟨v3, rfl, hO3⟩ := HFit.out _ _ _ hf3
    have HC3 := hide (HC2.out.trans (hb.mono HC2.out.size))
    have HB3 := hide (HB2.out.trans (hb.mono HB2.out.size))
    obtain ⟨A3, c3, rfl, hI3⟩ := own_ints hO3 H64.out
    rw [← HK.out]
    have HI3 := hide hI3
    clear hb hf3 hO3 hI3
    go_wp2_with fail
    refine (HRt.out w3 (HIb.out w3 HB3.out) (HJb.out w3 HB3.out)).mono ?_
    rintro e w4 ⟨hf4, hb⟩
    obtain ⟨v4, rfl, hO4⟩ := HFit.out _ _ _ hf4
    have HC4 := hide (HC3.out.trans (hb.mono HC3.out.size))
    have HB4 := hide (HB3.out.trans (hb.mono HB3.out.size))
    have HI34 := hide (HI3.out.of_below hb (Nat.le_refl _))
    obtain ⟨A4, c4, rfl, hI4⟩ := own_ints hO4 H64.out
    rw [← HK.out]
    have HI4 := hide hI4
    clear hb hf4 hO4 hI4
    go_wp2_with fail
    refine (HIn.out _ _ _ _ w4 HI34.out HI4.out).mono ?_
    rintro e w5 ⟨rfl, hb⟩
    have HC5 := hide (HC4.out.trans (hb.mono HC4.out.size))
    have HB5 := hide (HB4.out.trans (hb.mono HB4.out.size))
    clear hb
    go_wp2_with fail
    refine (HSp.out _ _ w5 (HOb.out w5 HC5.out) (HIb.out w5 HB5.out)).mono ?_
    rintro e w6 ⟨rfl, hb⟩
    have HB6 := hide (HB5.out.trans (hb.mono HB5.out.size))
    clear hb
    go_wp2_with fail
    go_ret
    exact ⟨by first | rfl | simp_all, HB6.out⟩
end Go.Proofs.Ytpnpbnfjhnmhjaa
