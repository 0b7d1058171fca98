/-
  The document's own list of places.
-/
import Derived.Test.YtpnpbnfjhnmhjaaPcB
namespace Go.Proofs.Ytpnpbnfjhnmhjaa
open Go.RowKit Go.Shelf
attribute [local go_sem] Oper.semAt_some
set_option linter.unusedVariables false
set_option linter.unusedSimpArgs false
set_option maxRecDepth 100000

def allUp (sizes : List Int) (align limit : Int) (k : Nat) : Bool := mayB 0 align limit && (sizes.take k).all fun z => mayB z align limit
theorem allUp_next {sizes : List Int} {align limit : Int} {k : Nat} (h : k < sizes.length) : allUp sizes align limit (k + 1) = (allUp sizes align limit k && mayB (sizes.getD k 0) align limit) := by
  unfold allUp
  rw [take_snoc sizes 0 k h, List.all_append, Bool.and_assoc]; simp
theorem allUp_end {sizes : List Int} {align limit : Int} : allUp sizes align limit sizes.length = mayAll sizes align limit := by
  unfold allUp mayAll; rw [List.take_length]
/-- rows of one's own of different kinds do not meet -/
theorem own_ne {W : World} {B C : Nat} {t u : TypeId} {m n : Nat} {h v : Value} {k l : Nat} {xs ys : List Value} (x : W.ownsRow B t m h k xs) (y : W.ownsRow C u n v l ys) (hne : t ≠ u) : ∀ j, h.ownBlock = some j → v.ownBlock ≠ some j := by
  intro j h1 h2
  obtain ⟨_, _, c1, e1⟩ := own_block x h1
  obtain ⟨_, _, c2, e2⟩ := own_block y h2
  rw [e1] at e2
  injection e2 with e2
  injection e2 with _ e3
  exact hne e3
/-- one row grows, the other one stands -/
theorem own_apart {W W' : World} {B C : Nat} {t u : TypeId} {m n : Nat} {h v : Value} {k l : Nat} {xs ys : List Value} (x : W.ownsRow B t m h k xs) (y : W.ownsRow C u n v l ys) (hne : t ≠ u) (hg : W.grownBy W' v.ownBlock) : W'.ownsRow B t m h k xs :=
  own_stands x fun j hj => hg.block j (own_block x hj).1 fun e => own_ne x y hne j hj e.symm

theorem ownI_snoc {W : World} {B n : Nat} {v : Value} {l : List Int} {x : Int} (hn : l.length = n) (h : W.ownsRow B 3 1 v (n + 1) (l.map (Value.int .i64) ++ [.int .i64 x])) : OwnI W B v (l ++ [x]) := by
  unfold OwnI
  rw [List.length_append, List.map_append, hn]
  exact h
theorem ownA_snoc {W : World} {B n : Nat} {v : Value} {l : List Ai} {x : Ai} (hn : l.length = n) (h : W.ownsRow B 37 2 v (n + 1) (flatA l ++ [.int .i64 x.1, .int .i64 x.2])) : OwnA W B v (l ++ [x]) := by
  unfold OwnA
  rw [List.length_append, flatA_snoc, hn]
  exact h
def natI (ps : List Nat) : List Int := ps.map fun (p : Nat) => (p : Int)
theorem natI_snoc (ps : List Nat) (p : Nat) : natI (ps ++ [p]) = natI ps ++ [(p : Int)] := by simp [natI]
theorem natI_len (ps : List Nat) : (natI ps).length = ps.length := by simp [natI]
set_option maxHeartbeats 8000000 in
theorem rfit_at (l : List Ai) (A : Option Addr) (c : Nat) (sizes : List Int) (As : Option Addr) (cs : Nat) (align limit : Int) (w : World) (hI : Sps w A l) (hJ : Ints w As sizes) (hl : l.length ≤ 1000) (hs : sizes.length ≤ 1000) :
    Calls Try.prog 13 #[.slice A l.length c, .slice As sizes.length cs, .int .i64 align, .int .i64 limit] w fun e w' => fitR w.heap.size w' l sizes align limit e ∧ Below w.heap.size w w' := by
  have HM := hide (fun z W => rmay_at z align limit W)
  have HI := hide hI
  have HJ := hide hJ
  have HJw := hide (fun W (h : Below w.heap.size w W) => hJ.of_below h (Nat.le_refl _))
  have HL := hide hl
  obtain ⟨N, hN⟩ : ∃ N, N = l.length := ⟨_, rfl⟩
  obtain ⟨M, hM⟩ : ∃ M, M = sizes.length := ⟨_, rfl⟩
  have HN := hide hN
  have HMs := hide hM
  rw [← hN] at hl ⊢
  rw [← hM] at hs ⊢
  clear hI hJ hN hM
  go_enter Try.func13, Try.ntmps13
  go_wp2_with fail
  refine (HM.out _ _).mono ?_
  rintro e w1 ⟨rfl, rfl⟩
  go_wp2_with fail
  go_loop [10, 11] (fun bv kv => ∃ k : Nat, k ≤ M ∧ kv = .int .i64 k ∧ bv = .bool (allUp sizes align limit k)) (fun _ kv => M - (intOf kv).toNat)
  case atStart => exact ⟨0, Nat.zero_le _, rfl, by simp [allUp]⟩
  case round =>
    obtain ⟨k, hk, rfl, rfl⟩ := hrel
    by_cases hlt : k < M
    · have hkl : k < sizes.length := by rw [← HMs.out]; exact hlt
      obtain ⟨b, off, rfl, hbl, c0⟩ := HJ.out.at hkl
      have HS := hide (allUp_next (align := align) (limit := limit) hkl)
      generalize sizes.getD k 0 = z at *
      clear hkl
      cases hu : allUp sizes align limit k with
      | true =>
        rw [hu] at HS
        clear hu
        go_wp2_with fail
        refine (HM.out _ _).mono ?_
        rintro e w1 ⟨rfl, rfl⟩
        go_wp2_with fail
        go_round
        case rel => exact ⟨k + 1, by omega, by go_num, by rw [HS.out]; rfl⟩
        case measure => simp [intOf]; omega
      | false =>
        rw [hu] at HS
        clear hu
        go_wp2_with fail
        go_round
        case rel => exact ⟨k + 1, by omega, by go_num, by rw [HS.out]; rfl⟩
        case measure => simp [intOf]; omega
    · obtain rfl : k = M := by omega
      have HA : Hid (allUp sizes align limit k = mayAll sizes align limit) := by show _ = _; rw [HMs.out]; exact allUp_end
      rw [HA.out]
      cases hm : mayAll sizes align limit with
      | false =>
        have HV := hide (show ∀ w' e, e = .returned (.tuple #[.slice none 0 0, .int .i64 2]) → fitR w.heap.size w' l sizes align limit e from fun w' e h => by unfold fitR; rw [hm]; exact h)
        clear hm HA
        go_wp2_with fail
        go_ret2
        exact ⟨HV.out _ _ rfl, Below.refl _ _⟩
      | true =>
        obtain ⟨hm0, hma⟩ := mayAll_t hm
        obtain ⟨_, _, h3, h4, h5, h6⟩ := mayB_t hm0
        obtain ⟨a, rfl⟩ := Int.eq_ofNat_of_zero_le (show 0 ≤ align by omega)
        obtain ⟨L, rfl⟩ := Int.eq_ofNat_of_zero_le h5
        have HV := hide (show ∀ w' e, (match fitS l sizes a L k with
            | some ps => ∃ v, e = .returned (.tuple #[v, .int .i64 0]) ∧ OwnI w' w.heap.size v (ps.map fun (p : Nat) => (p : Int))
            | none => e = .returned (.tuple #[.slice none 0 0, .int .i64 160])) → fitR w.heap.size w' l sizes a L e from fun w' e h => by unfold fitR; rw [if_pos hm, ← HMs.out]; exact h)
        have HMa := hide hma
        clear hm hm0 hma HA
        go_wp2_with (at_builtin; refine wpList_spans _ rfl _ _ rfl w.heap.size _ rfl (World.ownsRow_nil _ _ _ _) (Nat.le_refl _) A l c N HN.out rfl HI.out (by have := HL.out; have := HN.out; omega) ?_)
        intro vT w1 hT hg
        have HB1 := hide ((Below.refl w.heap.size w).grown hg (Nat.le_refl _) (by intro k hk; cases hk))
        have HT := hide hT
        have hsz1 := HB1.out.size
        clear hT hg
        go_wp2_with fail
        go_loopw [12, 13, 14] (fun tv ov iv wr => ∃ (i : Nat) (ps : List Nat), i ≤ k ∧ iv = .int .i64 i ∧ fitS l sizes a L i = some ps ∧ OwnA wr w.heap.size tv (l ++ spF sizes ps) ∧ OwnI wr w.heap.size ov (ps.map fun (p : Nat) => (p : Int)) ∧ Below w.heap.size w wr) (fun _ _ iv _ => k - (intOf iv).toNat)
        case atStart => exact ⟨0, [], Nat.zero_le _, rfl, rfl, by simpa [spF] using HT.out, World.ownsRow_nil _ _ _ _, HB1.out⟩
        case round =>
          obtain ⟨i, ps, hi, rfl, hf, hT, hO, hb⟩ := hrel
          have hf' := hf
          have hpl := fitS_len i ps hf
          have HB := hide hb
          have hsz := hb.size
          by_cases hlt : i < k
          · have hil : i < sizes.length := by rw [← HMs.out]; exact hlt
            obtain ⟨b, off, eA, hbl, c0w⟩ := HJ.out.at hil
            have c0 := (bcl (o := off + i) hb hbl).trans c0w
            have hblr : b < wr.heap.size := by omega
            obtain ⟨g1, g2, _⟩ := mayB_t (HMa.out _ (getD_mem hil))
            have hmz := HMa.out _ (getD_mem hil)
            have HLe := hide (fitS_le i ps hf)
            have HSb := hide (fun z hz => (mayB_t (HMa.out z hz)))
            have HNx := hide (fitS_next hf)
            have HSp := hide (fun p => spF_snoc sizes ps p)
            rw [hpl] at HSp
            obtain ⟨z, hz⟩ := Int.eq_ofNat_of_zero_le g1
            rw [hz] at c0w c0 g2 hmz HNx HSp
            obtain ⟨A', c', rfl, hA'⟩ := own_spans hT (fun s hs => by
              rcases List.mem_append.1 hs with h | h
              · exact HI.out.1 s h
              · exact spF_ok (limit := L) (fun z hz => by have := HSb.out z hz; omega) (by omega) HLe.out s h)
            have hll : (l ++ spF sizes ps).length ≤ 1000000 := by rw [List.length_append, spF_len, hpl]; have := HL.out; have := HN.out; omega
            have HF := hide (rfirst_at (l ++ spF sizes ps) A' c' (z : Int) a L wr hA' hll)
            have HFv := hide (show firstV (l ++ spF sizes ps) (z : Int) a L = match firstF (tkn (l ++ spF sizes ps)) z a L with | some p => .tuple #[.int .i64 (p : Nat), .bool true] | none => .tuple #[.int .i64 (-1), .bool false] from if_pos hmz)
            have hOl : (ps.map fun (p : Nat) => (p : Int)).length = i := by rw [List.length_map, hpl]
            have HO := hide (show wr.ownsRow w.heap.size 3 1 u13 i ((natI ps).map (Value.int .i64)) from by have := hO; unfold OwnI at this; rw [hOl] at this; exact this)
            obtain ⟨Ao, co, rfl⟩ := own_slice HO.out
            have HT' := hide (show wr.ownsRow w.heap.size 37 2 (.slice A' (l ++ spF sizes ps).length c') (l ++ spF sizes ps).length (flatA (l ++ spF sizes ps)) from hT)
            obtain ⟨N2, hN2⟩ : ∃ N2, N2 = (l ++ spF sizes ps).length := ⟨_, rfl⟩
            have HN2 := hide hN2
            rw [← hN2] at HT' HF hll ⊢
            clear hN2 hT hO hOl hA' hf hmz hz
            subst eA
            cases hff : firstF (tkn (l ++ spF sizes ps)) z a L with
            | none =>
              rw [hff] at HFv
              rw [HFv.out] at HF
              have HVn := hide (show fitS l sizes a L k = none from fitS_none (k := i + 1) (by rw [HNx.out]; show (match firstF (tkn (l ++ spF sizes ps)) z a L with | none => _ | some p => _) = _; rw [hff]) k hlt)
              clear hff
              go_wp2_with fail
              refine HF.out.mono ?_
              rintro e w2 ⟨rfl, rfl⟩
              go_wp2_with fail
              go_ret2
              exact ⟨HV.out _ _ (by rw [HVn.out]; rfl), HB.out⟩
            | some p =>
              rw [hff] at HFv
              rw [HFv.out] at HF
              have HVs := hide (show fitS l sizes a L (i + 1) = some (ps ++ [p]) from by rw [HNx.out]; show (match firstF (tkn (l ++ spF sizes ps)) z a L with | none => _ | some p => _) = _; rw [hff])
              have hpL := (fitsB_iff.1 (firstF_some.1 hff).1).2.1
              clear hff
              go_wp2_with fail
              refine HF.out.mono ?_
              rintro e w2 ⟨rfl, rfl⟩
              have hi2 : i ≤ 1000 := by omega
              have hN3 : N2 ≤ 2000 := by have := HN2.out; rw [List.length_append, spF_len, hpl] at this; have := HL.out; have := HN.out; omega
              have e1 := own_below HO.out (bal wr (.cells #[.int .i64 (p : Nat)] 3)) (Nat.le_refl _)
              have e2 := own_below HT'.out (bal wr (.cells #[.int .i64 (p : Nat)] 3)) (Nat.le_refl _)
              have e3 := HB.out.alloc hsz (.cells #[.int .i64 (p : Nat)] 3)
              have E := hide (show ∀ w4, (wr.alloc (.cells #[.int .i64 (p : Nat)] 3)).grownBy w4 (Value.slice Ao i co).ownBlock → w4.ownsRow w.heap.size 37 2 (.slice A' N2 c') N2 (flatA (l ++ spF sizes ps)) ∧ Below w.heap.size w w4 ∧ w4.cell? ⟨b, off + i, none⟩ = some (.int .i64 (z : Nat)) ∧ b < w4.heap.size ∧ w.heap.size ≤ w4.heap.size from fun w4 hg => by
                have hB4 := below_own e3 e1 hg (Nat.le_refl _) (by simp; omega)
                have := hB4.size
                exact ⟨own_apart e2 e1 (by decide) hg, hB4, (bcl (o := off + i) hB4 hbl).trans c0w, by omega, this⟩)
              clear e1 e2 e3
              have E2 := hide (show ∀ v4 w4, w4.ownsRow w.heap.size 37 2 (.slice A' N2 c') N2 (flatA (l ++ spF sizes ps)) → w4.ownsRow w.heap.size 3 1 v4 (i + 1) ((natI ps).map (Value.int .i64) ++ [.int .i64 (p : Nat)]) → Below w.heap.size w w4 → ∀ w5, (w4.alloc (.cells #[.int .i64 (p : Nat), .int .i64 ((p : Int) + (z : Int))] 37)).grownBy w5 (Value.slice A' N2 c').ownBlock → w5.ownsRow w.heap.size 3 1 v4 (i + 1) ((natI ps).map (Value.int .i64) ++ [.int .i64 (p : Nat)]) ∧ Below w.heap.size w w5 from fun v4 w4 h1 h2 h3 w5 hg =>
                have e1 := own_below h1 (bal w4 (.cells #[.int .i64 (p : Nat), .int .i64 ((p : Int) + (z : Int))] 37)) (Nat.le_refl _)
                have e2 := own_below h2 (bal w4 (.cells #[.int .i64 (p : Nat), .int .i64 ((p : Int) + (z : Int))] 37)) (Nat.le_refl _)
                have e3 := h3.alloc h3.size (.cells #[.int .i64 (p : Nat), .int .i64 ((p : Int) + (z : Int))] 37)
                ⟨own_apart e2 e1 (by decide) hg, below_own e3 e1 hg (Nat.le_refl _) (by have := h3.size; simp; omega)⟩)
              go_wp2_with (first
                | (at_builtin; refine wpList_one _ rfl _ _ 23 rfl 3 (.int .i64 0) 1 8 under_ints info_int rfl (by decide) (by decide) w.heap.size _ _ _ rfl (own_below HO.out (bal wr _) (Nat.le_refl _)) _ _ [.int .i64 (p : Nat)] rfl (heap_alloc_new wr _) rfl (by simp [Value.oneCell']) (by omega) (by simp; omega) ?_; intro v4 w4 hown4 hgr4 hwh; have HO4 := hide hown4; obtain ⟨x1, x2, c4, hb4, hs4⟩ := E.out w4 hgr4; have HT4 := hide x1; have HB4 := hide x2; clear hown4 hgr4 hwh x1 x2)
                | (at_builtin; refine wpList_one _ rfl _ _ 22 rfl 37 (.agg #[.int .i64 0, .int .i64 0]) 2 16 under_spans info_span rfl (by decide) (by decide) w.heap.size _ _ _ rfl (own_below HT4.out (bal w4 _) (Nat.le_refl _)) _ _ [.int .i64 (p : Nat), .int .i64 ((p : Int) + (z : Int))] rfl (heap_alloc_new w4 _) rfl (by simp [Value.oneCell']) (by omega) (by simp; omega) ?_; intro v5 w5 hown5 hgr5 hwh; have HO5 := hide hown5; obtain ⟨x1, x2⟩ := E2.out v4 w4 HT4.out HO4.out HB4.out w5 hgr5; have HI5 := hide x1; have HB5 := hide x2; clear hown5 hgr5 hwh x1 x2))
              go_roundw
              case rel =>
                refine ⟨i + 1, ps ++ [p], by omega, by go_num, HVs.out, ?_, ?_, HB5.out⟩
                · rw [HSp.out, ← List.append_assoc]
                  exact ownA_snoc HN2.out.symm HO5.out
                · have := ownI_snoc (l := natI ps) (by rw [natI_len, hpl]) HI5.out
                  rw [← natI_snoc] at this
                  exact this
              case measure => simp [intOf]; omega
          · obtain rfl : i = k := by omega
            go_wp2_with fail
            go_ret2
            exact ⟨HV.out _ _ (by rw [hf']; exact ⟨_, rfl, hO⟩), HB.out⟩
end Go.Proofs.Ytpnpbnfjhnmhjaa
