/-
  The walk of a statement: what is free, and how much at most.
-/
import Derived.Test.YtpnpbnfjhnmhjaaPcU
namespace Go.Proofs.Ytpnpbnfjhnmhjaa
open Go.RowKit Go.Shelf
attribute [local go_sem] Oper.semAt_some
set_option linter.unusedVariables false
set_option linter.unusedSimpArgs false
set_option maxRecDepth 100000

theorem free_is (l : List Ai) (limit : Int) (hlm : mayB 0 1 limit = true → limit ≤ 1000) : ∃ G : List (Nat × Nat), freeL l limit = toI G ∧ mostV l limit = (wide G : Nat) ∧ (∀ g ∈ G, g.1 ≤ g.2 ∧ g.2 ≤ 1048576) ∧ G.length ≤ 1000 := by
  cases hm : mayB 0 1 limit with
  | false => exact ⟨[], if_neg (by rw [hm]; decide), (if_neg (by rw [← may_limit, hm]; decide)).trans rfl, (fun g h => (by cases h)), by simp⟩
  | true =>
    have h := hlm hm
    obtain ⟨_, _, _, _, h5, h6⟩ := mayB_t hm
    refine ⟨freeTo (tkn l) limit.toNat, if_pos hm, if_pos (by rw [← may_limit]; exact hm), fun g hg => ?_, ?_⟩
    · have := free_gp hg
      have h1 := this.lt
      have h2 := this.le
      omega
    · have := free_len (tkn l) limit.toNat; omega
theorem toI_getD (G : List (Nat × Nat)) (k : Nat) (h : k < G.length) : (toI G).getD k (0, 0) = (((G.getD k (0, 0)).1 : Int), ((G.getD k (0, 0)).2 : Int)) := by
  unfold toI
  rw [List.getD_eq_getElem?_getD, List.getD_eq_getElem?_getD, List.getElem?_map, List.getElem?_eq_getElem h]; rfl
theorem wide_bound (G : List (Nat × Nat)) (h : ∀ g ∈ G, g.1 ≤ g.2 ∧ g.2 ≤ 1048576) : wide G ≤ 1048576 := wide_le _ _ _ (Nat.zero_le _) fun g hg => (h g hg).2

set_option maxHeartbeats 8000000 in
theorem free_walk (l : List Ai) (A : Option Addr) (c : Nat) (limit : Int) (w : World) (hI : Sps w A l) (hlm : I64 limit) :
    Calls Try.prog 4 #[.slice A l.length c, .int .i64 limit] w fun e w' => e = .returned (.bool true) ∧ Below w.heap.size w w' := by
  have HG := hide (fun W => great_at A none l.length c 0 0 limit W)
  unfold I64 at hlm
  cases hg : decide (50 < l.length ∨ 50 < 0 ∨ (300 < limit ∧ limit ≤ 1048576)) with
  | true =>
    rw [hg] at HG
    generalize l.length = N at *
    clear hI hg
    go_enter Try.func4, Try.ntmps4
    go_wp2_with fail
    refine (HG.out w).mono ?_
    rintro e w2 ⟨rfl, rfl⟩
    go_wp2_with fail
    go_ret
    exact ⟨rfl, Below.refl _ _⟩
  | false =>
    have hg' := of_decide_eq_false hg
    rw [hg] at HG
    have h300 : mayB 0 1 limit = true → limit ≤ 300 := fun h => by
      obtain ⟨_, _, _, _, h5, h6⟩ := mayB_t h
      omega
    obtain ⟨G, hG, hmo, hgb, hgl⟩ := free_is l limit (fun h => by have := h300 h; omega)
    have HF := hide (fun W (h : Sps W A l) => Free_at l A c limit W h (by omega) (fun h => by have := h300 h; omega))
    have HR := hide (fun W (h : Sps W A l) => rfree_at l A c limit W h (by omega) (fun h => by have := h300 h; omega))
    have HM := hide (fun W (h : Sps W A l) => Most_at l A c limit W h (by omega))
    rw [hG] at HF HR
    rw [hmo] at HM
    have HIb := hide (fun W (h : Below w.heap.size w W) => hI.of_below h (Nat.le_refl _))
    have HGb := hide hgb
    have H64 := hide (show ∀ z ∈ toI G, I64 z.1 ∧ I64 z.2 from fun z hz => by
      obtain ⟨g, hg, rfl⟩ := List.mem_map.1 hz
      have := hgb g hg
      unfold I64
      dsimp only
      omega)
    have HTl := hide (toI_len G)
    have HGt := hide (toI_getD G)
    have HTk := hide (show ∀ k, k < G.length → wide (G.take (k + 1)) = max (wide (G.take k)) ((G.getD k (0, 0)).2 - (G.getD k (0, 0)).1) from fun k hk => by rw [take_snoc G (0, 0) k hk, wide_snoc])
    have HWb := hide (show ∀ k, wide (G.take k) ≤ 1048576 from fun k => wide_bound _ fun g hg => hgb g (List.mem_of_mem_take hg))
    have HTe := hide (show G.take G.length = G from List.take_length)
    have HGm := hide (show ∀ k, k < G.length → (G.getD k (0, 0)).1 ≤ (G.getD k (0, 0)).2 ∧ (G.getD k (0, 0)).2 ≤ 1048576 from fun k hk => hgb _ (by
      rw [List.getD_eq_getElem?_getD, List.getElem?_eq_getElem hk]; exact List.getElem_mem hk))
    generalize l.length = N at *
    clear hI hg hg' hG hmo hgb
    go_enter Try.func4, Try.ntmps4
    go_wp2_with fail
    refine (HG.out w).mono ?_
    rintro e w2 ⟨rfl, rfl⟩
    go_wp2_with fail
    refine (HF.out w (HIb.out w (Below.refl _ _))).mono ?_
    rintro e w1 ⟨v1, rfl, hO1, hb1⟩
    have HB1 := hide hb1
    have HO1 := hide hO1
    clear hb1 hO1
    go_wp2_with fail
    refine (HR.out w1 (HIb.out w1 HB1.out)).mono ?_
    rintro e w2 ⟨v2, rfl, hO2, hb2⟩
    have HB2 := hide (HB1.out.trans (hb2.mono HB1.out.size))
    obtain ⟨A1, c1, rfl, hS1⟩ := own_spans (own_below HO1.out hb2 (Nat.le_refl _)) H64.out
    obtain ⟨A2, c2, rfl, hS2⟩ := own_spans hO2 H64.out
    have HS1 := hide hS1
    have HS2 := hide hS2
    have HSame := hide (fun W (h1 : Sps W A1 (toI G)) (h2 : Sps W A2 (toI G)) => rspans_same (toI G) A1 A2 c1 c2 W h1 h2 (by rw [HTl.out]; exact hgl))
    clear hb2 hO2 hS1 hS2
    obtain ⟨M, hM⟩ : ∃ M, M = (toI G).length := ⟨_, rfl⟩
    have HMe := hide (show M = G.length from hM.trans HTl.out)
    rw [← hM] at HSame ⊢
    have hM1000 : M ≤ 1000 := by rw [HMe.out]; exact hgl
    clear hM
    go_wp2_with fail
    go_loopw [7, 8] (fun nv kv wr => ∃ k : Nat, k ≤ M ∧ kv = .int .i64 k ∧ nv = .int .i64 (wide (G.take k) : Nat) ∧ Below w2.heap.size w2 wr) (fun _ kv _ => M - (intOf kv).toNat)
    case atStart => exact ⟨0, Nat.zero_le _, rfl, rfl, Below.refl _ _⟩
    case round =>
      obtain ⟨k, hk, rfl, rfl, hb⟩ := hrel
      have HBr := hide hb
      by_cases hlt : k < M
      · have hkG : k < G.length := by rw [← HMe.out]; exact hlt
        obtain ⟨b, off, rfl, hbl, x0, x1⟩ := (HS2.out.of_below (below_drew hb) (Nat.le_refl _)).at (k := k) (by rw [HTl.out]; exact hkG)
        rw [HGt.out k hkG] at x0 x1
        obtain ⟨hg1, hg2⟩ := HGm.out k hkG
        have HW := hide (HTk.out k hkG)
        have hwb := HWb.out k
        generalize wide (G.take k) = mm at *
        generalize G.getD k (0, 0) = gg at *
        obtain ⟨f, g⟩ := gg
        dsimp only at x0 x1 hg1 hg2 HW
        obtain ⟨mx, hmx⟩ : ∃ mx, mx = max mm (g - f) := ⟨_, rfl⟩
        have HMx := hide hmx
        have hmx1 : ∀ (ts : Array TypeId) (ty : TypeId) (W : World), (Builtin.max_ ts ty #[.int .i64 (mm : Nat), .int .i64 ((g : Int) - (f : Int))]).run Try.prog W = .ok (.int .i64 (mx : Nat)) W := fun ts ty W => by
          rw [run_max_int2]
          have : (if (g : Int) - (f : Int) > (mm : Int) then (g : Int) - (f : Int) else (mm : Int)) = (mx : Int) := by split <;> omega
          rw [this]
        clear hkG hb hmx
        go_wp2_with fail
        go_region
        go_wp2_with fail
        go_roundw
        case rel => exact ⟨k + 1, by omega, by go_num, by rw [HW.out, ← HMx.out], below_drew HBr.out⟩
        case measure => simp [intOf]; omega
      · obtain rfl : k = M := by omega
        have HTe2 := hide (show wide (G.take k) = wide G from by rw [HMe.out, HTe.out])
        rw [HTe2.out]
        have HSm := hide (HSame.out wr (HS1.out.of_below hb (Nat.le_refl _)) (HS2.out.of_below hb (Nat.le_refl _)))
        have HB3 := hide (HB2.out.trans (hb.mono HB2.out.size))
        generalize wide G = ww at *
        clear hb
        go_wp2_with fail
        refine HSm.out.mono ?_
        rintro e w3 ⟨rfl, hb⟩
        have HB4 := hide (HB3.out.trans (hb.mono HB3.out.size))
        clear hb
        go_wp2_with fail
        refine (HM.out w3 (HIb.out w3 HB4.out)).mono ?_
        rintro e w4 ⟨rfl, hb⟩
        have HB5 := hide (HB4.out.trans (hb.mono HB4.out.size))
        clear hb
        go_wp2_with fail
        go_ret
        exact ⟨by first | rfl | simp_all, HB5.out⟩
end Go.Proofs.Ytpnpbnfjhnmhjaa
