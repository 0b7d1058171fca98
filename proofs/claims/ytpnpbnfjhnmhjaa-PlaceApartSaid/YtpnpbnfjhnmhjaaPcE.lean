/-
  The document's own free spans; the program's small functions.
-/
import Derived.Test.YtpnpbnfjhnmhjaaPcD
namespace Go.Proofs.Ytpnpbnfjhnmhjaa
open Go.RowKit Go.Shelf
attribute [local go_sem] Oper.semAt_some
set_option linter.unusedVariables false
set_option linter.unusedSimpArgs false
set_option maxRecDepth 100000

/-- a cell of a row of one's own is set anew -/
theorem own_put {W : World} {B : Nat} {t : TypeId} {sz : Nat} {g n c : Nat} {xs : List Value} (x : W.ownsRow B t sz (.slice (some ⟨g, 0, none⟩) n c) n xs) (j : Nat) (u : Value) : (W.setCell ⟨g, j, none⟩ u).ownsRow B t sz (.slice (some ⟨g, 0, none⟩) n c) n (xs.set j u) := by
  refine ⟨by rw [List.length_set]; exact x.1, ?_⟩
  rcases x.2 with ⟨h, _⟩ | ⟨g', cap, cur, h, hg, hh, hc, hc2, hs, ht⟩
  · cases h
  · cases h
    refine .inr ⟨g, c, cur.setIfInBounds j u, rfl, hg, set_cells hh, hc, hc2, by simpa using hs, ?_⟩
    rw [Array.toList_setIfInBounds, List.take_set, ht]
def toI (l : List (Nat × Nat)) : List Ai := l.map fun a => ((a.1 : Int), (a.2 : Int))
theorem toI_snoc (l : List (Nat × Nat)) (a : Nat × Nat) : toI (l ++ [a]) = toI l ++ [((a.1 : Int), (a.2 : Int))] := by simp [toI]
theorem toI_len (l : List (Nat × Nat)) : (toI l).length = l.length := by simp [toI]
def freeL (l : List Ai) (limit : Int) : List Ai := if mayB 0 1 limit then toI (freeTo (tkn l) limit.toNat) else []
theorem addF_len (L : List (Nat × Nat)) (n : Nat) : (addF L n).length ≤ L.length + 1 := by
  rcases last_cases L with h | ⟨M, s, h⟩
  · rw [h]; simp [addF_nil]
  · rw [h, addF_snoc]; split <;> simp
theorem free_len (t : Nat → Bool) : ∀ n, (freeTo t n).length ≤ n
  | 0 => Nat.le_refl _
  | n + 1 => by
    have := free_len t n
    cases ht : t n with
    | true => rw [free_taken ht]; omega
    | false => rw [free_add ht]; have := addF_len (freeTo t n) n; omega
theorem flatA_set (M : List Ai) (f g h : Int) : (flatA (M ++ [(f, g)])).set (M.length * 2 + 1) (.int .i64 h) = flatA (M ++ [(f, h)]) := by
  rw [flatA_snoc, flatA_snoc, List.set_append_right _ _ (by rw [flatA_len]; omega), flatA_len]
  rw [show M.length * 2 + 1 - M.length * 2 = 1 by omega]; rfl

set_option maxHeartbeats 4000000 in
theorem rfree_at (l : List Ai) (A : Option Addr) (c : Nat) (limit : Int) (w : World) (hI : Sps w A l) (hl : l.length ≤ 1000) (hlm : mayB 0 1 limit = true → limit ≤ 1000) :
    Calls Try.prog 17 #[.slice A l.length c, .int .i64 limit] w fun e w' => ∃ v, e = .returned v ∧ OwnA w' w.heap.size v (freeL l limit) ∧ Below w.heap.size w w' := by
  have HM := hide (rmay_at 0 1 limit w)
  have HIn := hide (fun p W (h : Below w.heap.size w W) => rin_at l A c p W (hI.of_below h (Nat.le_refl _)) (by omega))
  obtain ⟨N, hN⟩ : ∃ N, N = l.length := ⟨_, rfl⟩
  rw [← hN] at HIn ⊢
  clear hI hN hl
  cases hm : mayB 0 1 limit with
  | false =>
    have HV := hide (show freeL l limit = [] from if_neg (by rw [hm]; decide))
    rw [hm] at HM
    clear hm hlm
    go_enter Try.func17, Try.ntmps17
    go_wp2_with fail
    refine HM.out.mono ?_
    rintro e w1 ⟨rfl, rfl⟩
    by_cases h0 : 0 < limit
    · go_wp2_with fail
      go_loop [5, 7] (fun v kv => v = .slice none 0 0 ∧ kv = .int .i64 0) (fun _ _ => 1)
      case atStart => exact ⟨rfl, rfl⟩
      case round =>
        obtain ⟨rfl, rfl⟩ := hrel
        go_wp2_with fail
        go_ret
        exact ⟨_, rfl, by rw [HV.out]; exact World.ownsRow_nil _ _ _ _, Below.refl _ _⟩
    · go_wp2_with fail
      go_loop [5, 7] (fun v kv => v = .slice none 0 0 ∧ kv = .int .i64 0) (fun _ _ => 1)
      case atStart => exact ⟨rfl, rfl⟩
      case round =>
        obtain ⟨rfl, rfl⟩ := hrel
        go_wp2_with fail
        go_ret
        exact ⟨_, rfl, by rw [HV.out]; exact World.ownsRow_nil _ _ _ _, Below.refl _ _⟩
  | true =>
    have h1000 := hlm hm
    obtain ⟨_, _, _, _, h5, h6⟩ := mayB_t hm
    obtain ⟨L, rfl⟩ := Int.eq_ofNat_of_zero_le h5
    have HV := hide (show freeL l L = toI (freeTo (tkn l) L) from if_pos hm)
    have HTk := hide (fun q : Nat => show inB l (q : Int) = tkn l q from rfl)
    rw [hm] at HM
    generalize tkn l = t at *
    clear hm hlm
    go_enter Try.func17, Try.ntmps17
    go_wp2_with fail
    refine HM.out.mono ?_
    rintro e w1 ⟨rfl, rfl⟩
    go_wp2_with fail
    go_loopw [5, 7] (fun v kv wr => ∃ k : Nat, k ≤ L ∧ kv = .int .i64 k ∧ OwnA wr w.heap.size v (toI (freeTo t k)) ∧ Below w.heap.size w wr) (fun _ kv _ => L - (intOf kv).toNat)
    case atStart => exact ⟨0, Nat.zero_le _, rfl, World.ownsRow_nil _ _ _ _, Below.refl _ _⟩
    case round =>
      obtain ⟨k, hk, rfl, hO, hb⟩ := hrel
      have HB := hide hb
      have hsz := hb.size
      by_cases hlt : k < L
      · have HI := hide (HIn.out (k : Int) wr hb)
        rw [HTk.out] at HI
        have hfl := free_len t k
        cases ht : t k with
        | true =>
          have HE := hide (free_taken ht)
          have HO := hide hO
          rw [ht] at HI
          clear ht hO hb
          go_wp2_with fail
          refine HI.out.mono ?_
          rintro e w2 ⟨rfl, rfl⟩
          go_wp2_with fail
          go_roundw
          case rel => exact ⟨k + 1, by omega, by go_num, by rw [HE.out]; exact HO.out, HB.out⟩
          case measure => simp [intOf]; omega
        | false =>
          have HE := hide (free_add ht)
          rw [ht] at HI
          clear ht hb
          rcases last_cases (freeTo t k) with h0 | ⟨M, ⟨f, g⟩, h0⟩
          · rw [h0] at hO HE
            rw [addF_nil] at HE
            have HO := hide (show wr.ownsRow w.heap.size 37 2 u5 0 [] from hO)
            obtain ⟨Ao, co, rfl⟩ := own_slice HO.out
            have e1 := own_below HO.out (bal wr (.cells #[.int .i64 (k : Nat), .int .i64 ((k : Int) + 1)] 37)) (Nat.le_refl _)
            have E := hide (fun w4 (hg : (wr.alloc (.cells #[.int .i64 (k : Nat), .int .i64 ((k : Int) + 1)] 37)).grownBy w4 (Value.slice Ao 0 co).ownBlock) => below_own (HB.out.alloc hsz (.cells #[.int .i64 (k : Nat), .int .i64 ((k : Int) + 1)] 37)) e1 hg (Nat.le_refl _) (by simp; omega))
            clear e1 hO h0
            go_wp2_with (first
              | (go_at_call 21; refine HI.out.mono ?_; rintro e w2 ⟨rfl, rfl⟩)
              | (at_builtin; refine wpList_one _ rfl _ _ 22 rfl 37 (.agg #[.int .i64 0, .int .i64 0]) 2 16 under_spans info_span rfl (by decide) (by decide) w.heap.size _ _ _ rfl (own_below HO.out (bal wr _) (Nat.le_refl _)) _ _ [.int .i64 (k : Nat), .int .i64 ((k : Int) + 1)] rfl (heap_alloc_new wr _) rfl (by simp [Value.oneCell']) (by omega) (by simp; omega) ?_; intro v5 w5 hown5 hgr5 hwh; have HO5 := hide hown5; have HB5 := hide (E.out w5 hgr5); clear hown5 hgr5 hwh))
            go_roundw
            case rel => exact ⟨k + 1, by omega, by go_num, by rw [HE.out]; exact HO5.out, HB5.out⟩
            case measure => simp [intOf]; omega
          · have hlen : M.length ≤ 1000 := by rw [h0] at hfl; simp at hfl; omega
            rw [h0] at hO HE
            rw [addF_snoc] at HE
            dsimp only at HE
            have hO' : wr.ownsRow w.heap.size 37 2 u5 (M.length + 1) (flatA (toI M ++ [((f : Int), (g : Int))])) := by
              have := hO
              unfold OwnA at this
              rw [toI_len, toI_snoc, List.length_append] at this
              exact this
            obtain ⟨q0, q1⟩ := flatA_get (toI M ++ [((f : Int), (g : Int))]) M.length (by simp [toI_len])
            have e2 : (toI M ++ [((f : Int), (g : Int))]).getD M.length (0, 0) = ((f : Int), (g : Int)) := by
              rw [List.getD_eq_getElem?_getD, List.getElem?_append_right (by simp [toI_len])]; simp [toI_len]
            rw [e2] at q0 q1
            obtain ⟨gb, co, rfl, hgb, c1⟩ := own_cell hO' q1
            have HO := hide hO'
            have HSet := hide (show ∀ x : Int, (flatA (toI M ++ [((f : Int), (g : Int))])).set (M.length * 2 + 1) (.int .i64 x) = flatA (toI M ++ [((f : Int), x)]) from fun x => by have := flatA_set (toI M) f g x; rwa [toI_len] at this)
            have HToI := hide (show ∀ x : Nat, toI (M ++ [(f, x)]) = toI M ++ [((f : Int), (x : Int))] from fun x => toI_snoc M (f, x))
            have HToL := hide (show (toI M).length = M.length from toI_len M)
            generalize M.length = m at *
            have hgf : wr.frozen? ⟨gb, m * 2 + 1, none⟩ = false := by
              obtain ⟨_, _, cur, hh⟩ := own_block hO' (k := gb) (by simp [Value.ownBlock])
              simp [World.frozen?, hh]
            have hgB : w.heap.size ≤ gb := (own_block hO' (k := gb) (by simp [Value.ownBlock])).2.1
            clear h0 hO hO' q0 q1 e2
            by_cases hgk : g = k
            · subst hgk
              rw [if_pos rfl] at HE
              have E := hide (own_put HO.out (m * 2 + 1) (.int .i64 ((g : Int) + 1)))
              rw [HSet.out] at E
              go_wp2_with (go_at_call 21; refine HI.out.mono ?_; rintro e w2 ⟨rfl, rfl⟩)
              go_roundw
              case rel =>
                refine ⟨g + 1, by omega, by go_num, ?_, HB.out.setCell (p := ⟨gb, m * 2 + 1, none⟩) hgB _⟩
                rw [HE.out, HToI.out]
                unfold OwnA
                rw [List.length_append, HToL.out]
                exact E.out
              case measure => simp [intOf]; omega
            · rw [if_neg hgk] at HE
              have hge : (((g : Nat) : Int) == (k : Int)) = false := beq_eq_false_iff_ne.2 (by omega)
              have e1 := own_below HO.out (bal wr (.cells #[.int .i64 (k : Nat), .int .i64 ((k : Int) + 1)] 37)) (Nat.le_refl _)
              have E := hide (fun w4 (hg : (wr.alloc (.cells #[.int .i64 (k : Nat), .int .i64 ((k : Int) + 1)] 37)).grownBy w4 (Value.slice (some ⟨gb, 0, none⟩) (m + 1) co).ownBlock) => below_own (HB.out.alloc hsz (.cells #[.int .i64 (k : Nat), .int .i64 ((k : Int) + 1)] 37)) e1 hg (Nat.le_refl _) (by simp; omega))
              have HTo2 := hide (show toI (M ++ [(f, g)] ++ [(k, k + 1)]) = (toI M ++ [((f : Int), (g : Int))]) ++ [((k : Int), (k : Int) + 1)] from by rw [toI_snoc, toI_snoc]; rfl)
              clear e1
              go_wp2_with (first
                | (go_at_call 21; refine HI.out.mono ?_; rintro e w2 ⟨rfl, rfl⟩)
                | (at_builtin; refine wpList_one _ rfl _ _ 22 rfl 37 (.agg #[.int .i64 0, .int .i64 0]) 2 16 under_spans info_span rfl (by decide) (by decide) w.heap.size _ _ _ rfl (own_below HO.out (bal wr _) (Nat.le_refl _)) _ _ [.int .i64 (k : Nat), .int .i64 ((k : Int) + 1)] rfl (heap_alloc_new wr _) rfl (by simp [Value.oneCell']) (by omega) (by simp; omega) ?_; intro v5 w5 hown5 hgr5 hwh; have HO5 := hide hown5; have HB5 := hide (E.out w5 hgr5); clear hown5 hgr5 hwh))
              go_roundw
              case rel =>
                refine ⟨k + 1, by omega, by go_num, ?_, HB5.out⟩
                rw [HE.out, HTo2.out]
                exact ownA_snoc (by rw [List.length_append, HToL.out]; rfl) HO5.out
              case measure => simp [intOf]; omega
      · obtain rfl : k = L := by omega
        have HO := hide hO
        clear hO hb
        go_wp2_with fail
        go_ret
        exact ⟨_, rfl, by rw [HV.out]; exact HO.out, HB.out⟩
end Go.Proofs.Ytpnpbnfjhnmhjaa
