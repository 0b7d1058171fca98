/-
  Those that take a place that counts, sorted.
-/
import Derived.Test.YtpnpbnfjhnmhjaaPcF
namespace Go.Proofs.Ytpnpbnfjhnmhjaa
open Go.RowKit Go.Shelf
attribute [local go_sem] Oper.semAt_some
set_option linter.unusedVariables false
set_option linter.unusedSimpArgs false
set_option maxRecDepth 100000

theorem filter_next {l : List Ai} {k L : Nat} (h : k < l.length) : (l.take (k + 1)).filter (keepB L) = if keepB L (l.getD k (0, 0)) then (l.take k).filter (keepB L) ++ [l.getD k (0, 0)] else (l.take k).filter (keepB L) := by
  rw [take_snoc l (0, 0) k h, List.filter_append]
  split
  · rename_i hc; rw [List.filter_cons_of_pos hc]; rfl
  · rename_i hc; rw [List.filter_cons_of_neg hc]; simp
theorem keepB_no1 {L : Nat} {f g : Int} (h : ¬ f < g) : keepB L (f, g) = false := by simp [keepB, h]
theorem keepB_no2 {L : Nat} {f g : Int} (h : ¬ f < (L : Int)) : keepB L (f, g) = false := by simp [keepB, h]
theorem keepB_no3 {L : Nat} {f g : Int} (h : ¬ 0 < g) : keepB L (f, g) = false := by simp [keepB, h]
theorem keepB_yes {L : Nat} {f g : Int} (h1 : f < g) (h2 : f < (L : Int)) (h3 : 0 < g) : keepB L (f, g) = true := by simp [keepB, h1, h2, h3]

set_option maxHeartbeats 4000000 in
theorem rising_at (l : List Ai) (A : Option Addr) (c L : Nat) (w : World) (hI : Sps w A l) (hl : l.length ≤ 1000) (hL : L ≤ 1048576) :
    Calls Try.prog 32 #[.slice A l.length c, .int .i64 (L : Nat)] w fun e w' => ∃ (l' : List Ai) (A' : Option Addr) (c' : Nat), e = .returned (.slice A' l'.length c') ∧ (∀ a, a ∈ l' ↔ a ∈ l.filter (keepB L)) ∧ l'.Pairwise (fun a b => a.1 ≤ b.1) ∧ l'.length ≤ l.length ∧ Sps w' A' l' ∧ From w.heap.size A' ∧ Below w.heap.size w w' := by
  have HI := hide hI
  have HIb := hide (fun W (h : Below w.heap.size w W) => hI.of_below h (Nat.le_refl _))
  have HLe := hide hl
  obtain ⟨N, hN⟩ : ∃ N, N = l.length := ⟨_, rfl⟩
  have HN := hide hN
  rw [← hN] at hl ⊢
  clear hI hN
  go_enter Try.func32, Try.ntmps32
  go_wp2_with fail
  go_loopw [5, 10] (fun v kv wr => ∃ k : Nat, k ≤ N ∧ kv = .int .i64 k ∧ OwnA wr w.heap.size v ((l.take k).filter (keepB L)) ∧ Below w.heap.size w wr) (fun _ kv _ => N - (intOf kv).toNat)
  case atStart => exact ⟨0, Nat.zero_le _, rfl, World.ownsRow_nil _ _ _ _, Below.refl _ _⟩
  case round =>
    obtain ⟨k, hk, rfl, hO, hb⟩ := hrel
    have HB := hide hb
    have hsz := hb.size
    by_cases hlt : k < N
    · have hil : k < l.length := by rw [← HN.out]; exact hlt
      obtain ⟨b, off, rfl, hbl, c0, c1⟩ := (HIb.out wr hb).at hil
      have HF := hide (filter_next (L := L) hil)
      have hfl : ((l.take k).filter (keepB L)).length ≤ 1000 := by
        have h1 := List.length_filter_le (keepB L) (l.take k)
        rw [List.length_take] at h1; have := HLe.out; omega
      generalize l.getD k (0, 0) = z at *
      obtain ⟨f, g⟩ := z
      dsimp only at c0 c1
      have HO := hide hO
      obtain ⟨Ao, co, rfl⟩ := own_slice hO
      generalize hM : ((l.take k).filter (keepB L)).length = M at *
      have HO' : Hid (wr.ownsRow w.heap.size 37 2 (.slice Ao M co) M (flatA ((l.take k).filter (keepB L)))) := by
        have := HO.out; unfold OwnA at this; rw [hM] at this; exact this
      have HM := hide hM
      have hb1 := bal wr (.cells #[.int .i64 f, .int .i64 g] 37)
      have HB1 := hide (HB.out.alloc hsz (.cells #[.int .i64 f, .int .i64 g] 37))
      have HO1 := hide (own_below HO'.out hb1 (Nat.le_refl _))
      clear hil hb hO hM HO HO' hb1
      by_cases h1 : f < g
      · by_cases h2 : f < (L : Int)
        · by_cases h3 : 0 < g
          · rw [if_pos (keepB_yes h1 h2 h3)] at HF
            have E := hide (fun w4 (hg : ((wr.alloc (.cells #[.int .i64 f, .int .i64 g] 37)).alloc (.cells #[.int .i64 f, .int .i64 g] 37)).grownBy w4 (Value.slice Ao M co).ownBlock) => below_own (HB1.out.alloc (by simp; omega) (.cells #[.int .i64 f, .int .i64 g] 37)) (own_below HO1.out (bal _ (.cells #[.int .i64 f, .int .i64 g] 37)) (Nat.le_refl _)) hg (Nat.le_refl _) (by simp; omega))
            go_wp2_with (at_builtin; refine wpList_one _ rfl _ _ 22 rfl 37 (.agg #[.int .i64 0, .int .i64 0]) 2 16 under_spans info_span rfl (by decide) (by decide) w.heap.size _ _ _ rfl (own_below HO1.out (bal _ _) (Nat.le_refl _)) _ _ [.int .i64 f, .int .i64 g] rfl (heap_alloc2_new wr _ _) rfl (by simp [Value.oneCell']) (by omega) (by simp; omega) ?_; intro v5 w5 hown5 hgr5 hwh; have HO5 := hide hown5; have HB5 := hide (E.out w5 hgr5); clear hown5 hgr5 hwh)
            go_roundw
            case rel => exact ⟨k + 1, by omega, by go_num, by rw [HF.out]; exact ownA_snoc HM.out HO5.out, HB5.out⟩
            case measure => simp [intOf]; omega
          · rw [if_neg (by rw [keepB_no3 h3]; decide)] at HF
            go_wp2_with fail
            go_roundw
            case rel => exact ⟨k + 1, by omega, by go_num, by rw [HF.out]; unfold OwnA; rw [HM.out]; exact HO1.out, HB1.out⟩
            case measure => simp [intOf]; omega
        · rw [if_neg (by rw [keepB_no2 h2]; decide)] at HF
          go_wp2_with fail
          go_roundw
          case rel => exact ⟨k + 1, by omega, by go_num, by rw [HF.out]; unfold OwnA; rw [HM.out]; exact HO1.out, HB1.out⟩
          case measure => simp [intOf]; omega
      · rw [if_neg (by rw [keepB_no1 h1]; decide)] at HF
        go_wp2_with fail
        go_roundw
        case rel => exact ⟨k + 1, by omega, by go_num, by rw [HF.out]; unfold OwnA; rw [HM.out]; exact HO1.out, HB1.out⟩
        case measure => simp [intOf]; omega
    · obtain rfl : k = N := by omega
      have HEq := hide (show l.take k = l from by rw [HN.out, List.take_length])
      rw [HEq.out] at hO
      have HSo := hide (sort_at (l.filter (keepB L)) (fun z hz => HI.out.1 z (List.mem_filter.1 hz).1) u5 w.heap.size wr hO hsz (by have := List.length_filter_le (keepB L) l; have := HLe.out; omega))
      have HFl := hide (List.length_filter_le (keepB L) l)
      clear hO hb
      go_wp2_with fail
      refine HSo.out.mono ?_
      rintro e w2 ⟨rfl, l', A', c', rfl, hmem, hpw, hlen, hS, hF, hb2⟩
      have HR := hide (show (∀ a, a ∈ l' ↔ a ∈ l.filter (keepB L)) ∧ l'.Pairwise (fun a b => a.1 ≤ b.1) ∧ l'.length ≤ k ∧ Sps w2 A' l' ∧ From w.heap.size A' ∧ Below w.heap.size w w2 from ⟨hmem, hpw, by rw [hlen, HN.out]; exact HFl.out, hS, hF, HB.out.trans hb2⟩)
      clear hmem hpw hlen hS hF hb2
      go_wp2_with fail
      go_ret
      exact ⟨l', A', c', rfl, HR.out⟩
end Go.Proofs.Ytpnpbnfjhnmhjaa
