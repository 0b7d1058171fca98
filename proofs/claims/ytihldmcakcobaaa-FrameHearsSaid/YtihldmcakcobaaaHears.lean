/-
  The walk of FrameHears: what any bytes tell who knows no state, and who knows any, is the document's; they stay.
-/
import Derived.Test.YtihldmcakcobaaaFactsV
import Derived.Test.YtihldmcakcobaaaTurns
namespace Go.Proofs.Ytihldmcakcobaaa
open Go.RowKit Go.Shelf
set_option linter.unusedVariables false

theorem eq_self (o s m : Int) (p : List Nat) (W : World) (hp : p.length = 64) (hpl : ∀ c ∈ p, c < 256) : (Op.equalIn 10000 27 (.agg (frv o s m p)) (.agg (frv o s m p))).run Try.prog W = .ok true W := by
  rw [eq_fr o s m o s m p p W hp hp hpl hpl, decide_eq_true ⟨rfl, ⟨rfl, rfl⟩, rfl⟩]
theorem eq_fr0 (W : World) : (Op.equalIn 10000 27 (.agg fr0) (.agg fr0)).run Try.prog W = .ok true W := eq_self 0 0 0 zeros64 W rfl (by intro c hc; rw [(List.mem_replicate.1 hc).2]; omega)
theorem eq_dec (b : List Nat) (hb : ∀ c ∈ b, c < 256) (W : World) : (Op.equalIn 10000 27 (.agg (decF b)) (.agg (decF b))).run Try.prog W = .ok true W := by
  unfold decF
  split
  · rename_i h; exact eq_self _ _ _ _ W (payB_len (dec_ok h).1) (payB_lt hb)
  · exact eq_fr0 W
theorem eq_acc (b : List Nat) (o s m : Int) (hb : ∀ c ∈ b, c < 256) (W : World) : (Op.equalIn 10000 27 (.agg (accF b o s m)) (.agg (accF b o s m))).run Try.prog W = .ok true W := by
  unfold accF
  split
  · rename_i h; exact eq_self _ _ _ _ W (payB_len (acc_ok h).1) (payB_lt hb)
  · exact eq_fr0 W

/-- what the operations of the second call's region have made -/
def hrF (B : Nat) (L : List Value) (AF : Array Value) (j : Nat) (vals : Nat → Value) (W : World) : Prop :=
  if j = 10 then ∃ g, vals 10 = .pointer (some ⟨g, 0, none⟩) ∧ B ≤ g ∧ W.heap[g]? = some (.cells fr0 27 (0, 0))
  else if j = 11 then ∃ g, vals 10 = .pointer (some ⟨g, 0, none⟩) ∧ B ≤ g ∧ W.heap[g]? = some (.cells AF 27 (0, 0))
  else vals j = L.getD j undef
def hrT (j : Nat) : Nat := if j = 10 then 11 else 100
def hrM (j : Nat) : List Nat := if j = 11 then [10, 11] else [j]
theorem hrF_sup {B : Nat} {L : List Value} {AF : Array Value} : ∀ j vals vals' W, (∀ k ∈ hrM j, vals k = vals' k) → hrF B L AF j vals W → hrF B L AF j vals' W := by
  intro j vals vals' W h hF
  unfold hrF at hF ⊢
  unfold hrM at h
  by_cases h10 : j = 10
  · subst h10
    have := h 10 (by simp)
    rw [← this]; exact hF
  · by_cases h11 : j = 11
    · subst h11
      have := h 10 (by simp)
      rw [← this]; exact hF
    · rw [if_neg h10, if_neg h11] at hF ⊢
      rw [if_neg h11] at h
      rw [← h j (by simp)]; exact hF
theorem hrF_later {B : Nat} {L : List Value} {AF : Array Value} {W W' : World} (hb : ∀ k, k < W.heap.size → W'.heap[k]? = W.heap[k]?) (j : Nat) (vals : Nat → Value) (h : hrF B L AF j vals W) : hrF B L AF j vals W' := by
  unfold hrF at h ⊢
  split
  · rename_i h1; rw [if_pos h1] at h
    obtain ⟨g, h2, h3, h4⟩ := h
    exact ⟨g, h2, h3, (hb g (Array.getElem?_eq_some_iff.1 h4).1).trans h4⟩
  · rename_i h1; rw [if_neg h1] at h
    split
    · rename_i h5; rw [if_pos h5] at h
      obtain ⟨g, h2, h3, h4⟩ := h
      exact ⟨g, h2, h3, (hb g (Array.getElem?_eq_some_iff.1 h4).1).trans h4⟩
    · rename_i h5; rwa [if_neg h5] at h

set_option maxRecDepth 100000 in
set_option maxHeartbeats 3000000 in
theorem hears_any (l : List Nat) (n : Nat) (A : Option Addr) (cap : Nat) (o s m : Int) (w : World) (hn : l.length = n) (hcap : n ≤ cap) (hmax : cap ≤ maxLen) (hB : Bytes w A l) (hs : (Lit.int .i64 s).wf = true) (hmm : (Lit.int .u16 m).wf = true) :
    Calls Try.prog 4 #[.slice A n cap, .int .i64 o, .agg #[.int .i64 s, .int .u16 m]] w fun e w' => e = .returned (.bool true) ∧ Below w.heap.size w w' := by
  by_cases hlen : 1000 < n
  · go_enter Try.func4, Try.ntmps4
    go_wp2
    go_ret
    exact ⟨rfl, bal w _⟩
  have hz := (zero_of_info info_fr).1
  have hrdec := fun W (h : Below w.heap.size w W) => rdecode_any l n A cap W hn hcap hmax (hB.of_below h (Nat.le_refl _))
  have hracc := fun W (h : Below w.heap.size w W) => raccept_any l n A cap o s m W hn hcap hmax (hB.of_below h (Nat.le_refl _)) hs hmm
  have hdec := fun W g c (hc : n ≤ c) (hm : c ≤ maxLen) (h : Bytes W (some ⟨g, 0, none⟩) l) => decode_any l n (some ⟨g, 0, none⟩) c W hn hc hm h
  have hacc := fun W g c (hc : n ≤ c) (hm : c ≤ maxLen) (h : Bytes W (some ⟨g, 0, none⟩) l) => accept_any l n (some ⟨g, 0, none⟩) c o s m W hn hc hm h hs hmm
  have heg : Try.prog.eqGuardType Try.prog.depth 27 = false := by kernel_rfl
  have heq1 := eq_dec l hB.1
  have heq2 := eq_acc l o s m hB.1
  have S1 := hide (decF_size l); have O1 := hide (decF_one l); have S2 := hide (accF_size l o s m); have O2 := hide (accF_one l o s m)
  have HS := hide fr0_size
  generalize decF l = DF at *
  generalize decE l = de at *
  generalize accF l o s m = AF at *
  generalize accE l o s m = ae at *
  unfold maxLen at hmax
  have Hn := hide hn; have HL := hide hB
  have K0 := hide (show (w.alloc (.cells #[.int .i64 s, .int .u16 m] 24)).cell? ⟨w.heap.size, 0, none⟩ = some (.int .i64 s) by rw [cell_of_row _ _ _ _ _ _ (heap_alloc_new w _)]; rfl)
  have K1 := hide (show (w.alloc (.cells #[.int .i64 s, .int .u16 m] 24)).cell? ⟨w.heap.size, 1, none⟩ = some (.int .u16 m) by rw [cell_of_row _ _ _ _ _ _ (heap_alloc_new w _)]; rfl)
  have B1 := hide (bal w (.cells #[.int .i64 s, .int .u16 m] 24))
  obtain ⟨w1, hw1⟩ : ∃ w1, w.alloc (.cells #[.int .i64 s, .int .u16 m] 24) = w1 := ⟨_, rfl⟩
  rw [hw1] at K0 K1 B1
  have z1 : w.heap.size + 1 ≤ w1.heap.size := by rw [← hw1]; simp
  have HE := hide (OwnS.made (w := w1) (base := w1.heap.size) [] (by simp) (by simp) (Nat.le_refl _))
  have HB0 := hide ((HL.out.of_below B1.out (Nat.le_refl _)).of_below (bal w1 (.cells #[] 5)) (Nat.le_refl _))
  have HRD := hide hrdec; have HRA := hide hracc; have HD := hide hdec; have HA := hide hacc; have Q1 := hide heq1; have Q2 := hide heq2; have EG := hide heg
  clear hn hB hs hmm hrdec hracc hdec hacc heq1 heq2 heg
  go_enter Try.func4, Try.ntmps4
  go_wp2_with (first
    | (at_builtin; refine wpList_ontoS rfl (.tmp 19) (.tmp 20) rfl w1.heap.size w1.heap.size 0 0 [] rfl HE.out A n cap l rfl Hn.out HB0.out (by omega) (by simp) ?_; intro g1 c1 w2 h1 hb1; rw [Nat.zero_add] at h1 ⊢; rw [List.nil_append] at h1)
    | (at_builtin; refine wpList_ontoS rfl (.tmp 21) (.tmp 22) rfl w1.heap.size g1 n c1 l rfl (h1.kept (bal w2 _ |>.block g1 h1.blk)) _ 1 1 [7] rfl rfl (OwnS.made (base := 0) [7] (by simp) (by simp [maxLen]) (Nat.zero_le _)).bytes (by omega) (by have := hb1.size; simp at this ⊢; omega) ?_
       intro g2 c2 w3 h2 hb2
       have h2le := h2.le; have h2cap := h2.cap
       unfold maxLen at h2cap))
  have b1 : Below w1.heap.size w1 w2 := (bal w1 _).trans (grown_below hb1 (Nat.le_refl _) (by simp))
  have b2 : Below w1.heap.size w1 w3 := b1.trans (((bal w2 (.cells #[.int .u8 7] 5)).mono b1.size).trans (grown_below hb2 h1.base (by have := b1.size; simp; omega)))
  have hown3 := h2.bytes
  have hpre3 : Bytes w3 (some ⟨g2, 0, none⟩) l := by
    have h := hown3.take n
    rwa [← Hn.out, List.take_left] at h
  have hw3 : Below w.heap.size w w3 := B1.out.trans (b2.mono B1.out.size)
  have z3 : w1.heap.size ≤ w3.heap.size := b2.size
  have g2lt := h2.blk
  have r0 := (bcl b2 (show w.heap.size < _ by omega)).trans K0.out
  have r1 := (bcl b2 (show w.heap.size < _ by omega)).trans K1.out
  have HO3 := hide hown3; have HP3 := hide hpre3
  clear hb1 hb2 h1 h2 b1 b2 HB0 HE hown3 hpre3 hw1 K0 K1
  refine (HD.out w3 g2 c2 (by omega) (by unfold maxLen; omega) HP3.out).mono ?_
  rintro e w4 ⟨rfl, hb4⟩
  have z4 := hb4.size
  have hw4 : Below w.heap.size w w4 := hw3.trans (hb4.mono (by omega))
  have B34 := hide hb4
  have s0 := (bcl hb4 (show w.heap.size < _ by omega)).trans r0
  have s1 := (bcl hb4 (show w.heap.size < _ by omega)).trans r1
  clear hb4 r0 r1
  go_wp2_with (first
    | (refine wpList_store_row rfl 27 (.tmp 8) (.tmp 30) rfl w4.heap.size DF rfl rfl 27 _ (heap_alloc_new _ _) (fr_info S1.out) (by rw [HS.out, S1.out]) O1.out ?_
       obtain ⟨b5, p5, z5⟩ := new_row w4 DF
       generalize (w4.alloc (.cells fr0 27)).setRow w4.heap.size DF = w5 at b5 p5 z5 ⊢
       have t0 := (bcl b5 (show w.heap.size < _ by omega)).trans s0
       have t1 := (bcl b5 (show w.heap.size < _ by omega)).trans s1
       have P5 := hide p5
       have B35 := hide (B34.out.trans (b5.mono (by omega)))
       have hw5 : Below w.heap.size w w5 := hw4.trans (b5.mono (by omega))
       clear b5 p5 s0 s1))
  obtain ⟨L, hL⟩ : ∃ L : List Value, [(.slice (some ⟨g2, 0, none⟩) (n + 1) c2 : Value), (.slice A n cap : Value), (.int .i64 n : Value), (.slice (some ⟨g2, 0, none⟩) n c2 : Value), (.int .i64 o : Value), (.agg #[.int .i64 s, .int .u16 m] : Value), (.tuple #[.agg AF, .int .i64 ae] : Value), (.tuple #[.agg AF, .int .i64 ae] : Value), (.agg AF : Value), (.int .i64 ae : Value), (undef : Value), (undef : Value), (.int .i64 ae : Value)] = L := ⟨_, rfl⟩
  have i1 : (n : Int) ≤ (c2 : Int) := by omega
  have i2 : ¬ c2 = 0 := by omega
  refine wp_region_factsV (fun W => Below w5.heap.size w5 W) (hrF w5.heap.size L AF) hrT hrM ?mb hrF_sup (by kernel_rfl) (by kernel_rfl) (below_drewN (Below.refl _ _) 1) ?steps ?fin
  case mb =>
    intro j k hk hkj
    unfold hrM at hk
    split at hk
    · rename_i h; subst h; simp at hk; rcases hk with rfl | rfl
      · kernel_rfl
      · exact absurd rfl hkj
    · simp at hk; exact absurd hk hkj
  case steps =>
    have hv : ∀ {ops : Array Oper} {l : Array Bool} {vals : Nat → Value} {W : World}, decide (ops.size ≤ 100) = true → InvV .any ops (fun W => Below w5.heap.size w5 W) (hrF w5.heap.size L AF) hrT l vals W → ∀ j, j ≠ 10 → j ≠ 11 → l.getD j false = true → vals j = L.getD j undef := by
      intro ops l vals W hos hI j h10 h11 hj
      have h := hI.fact j hj (neverV hI (by unfold hrT; rw [if_neg h10]; exact of_decide_eq_true hos))
      unfold hrF at h
      rwa [if_neg h10, if_neg h11] at h
    refine AllFrom.cons (i := 0) (step_isV (by kernel_rfl) ?s0) (AllFrom.cons (i := 1) (step_isV (by kernel_rfl) ?s1) (AllFrom.cons (i := 2) (step_isV (by kernel_rfl) ?s2) (AllFrom.cons (i := 3) (step_isV (by kernel_rfl) ?s3) (AllFrom.cons (i := 4) (step_isV (by kernel_rfl) ?s4) (AllFrom.cons (i := 5) (step_isV (by kernel_rfl) ?s5) (AllFrom.cons (i := 6) (step_fnV (by kernel_rfl) 15 #[.tmp 36, .tmp 37, .tmp 38] _ rfl (enters_of Try.func15 (by kernel_rfl) rfl) ?s6) (AllFrom.cons (i := 7) (step_isV (by kernel_rfl) ?s7) (AllFrom.cons (i := 8) (step_isV (by kernel_rfl) ?s8) (AllFrom.cons (i := 9) (step_isV (by kernel_rfl) ?s9) (AllFrom.cons (i := 10) (step_runV (by kernel_rfl) ?s10) (AllFrom.cons (i := 11) ?s11 (AllFrom.cons (i := 12) (step_isV (by kernel_rfl) ?s12) (trivial)))))))))))))
    case s0 =>
      intro l vals W ρ hI hi hdep hnew hold hc
      have e0 : ρ (.tmp 7) = .slice (some ⟨g2, 0, none⟩) (n + 1) c2 := (hold 7 (by kernel_rfl)).trans (by kernel_rfl)
      refine ⟨.slice (some ⟨g2, 0, none⟩) (n + 1) c2, ?_, ?_⟩
      · simp [execOp, e0, go_sem]
      · unfold hrF
        rw [if_neg (by decide), if_neg (by decide)]
        simp only [upd, if_true]
        rw [← hL]; rfl
    case s1 =>
      intro l vals W ρ hI hi hdep hnew hold hc
      have e0 : ρ (.tmp 0) = .slice A n cap := (hold 0 (by kernel_rfl)).trans (by kernel_rfl)
      refine ⟨.slice A n cap, ?_, ?_⟩
      · simp [execOp, e0, go_sem]
      · unfold hrF
        rw [if_neg (by decide), if_neg (by decide)]
        simp only [upd, if_true]
        rw [← hL]; rfl
    case s2 =>
      intro l vals W ρ hI hi hdep hnew hold hc
      have e0 : ρ (.tmp 34) = .slice A n cap := ((hnew 1 34 (dep hdep 1 (by kernel_rfl)) (by kernel_rfl) (of_decide_eq_true (by kernel_rfl)) (of_decide_eq_true (by kernel_rfl))).trans (hv (by kernel_rfl) hI 1 (by decide) (by decide) (dep hdep 1 (by kernel_rfl)))).trans (by rw [← hL]; rfl)
      refine ⟨.int .i64 n, ?_, ?_⟩
      · simp [e0, go_sem]
      · unfold hrF
        rw [if_neg (by decide), if_neg (by decide)]
        simp only [upd, if_true]
        rw [← hL]; rfl
    case s3 =>
      intro l vals W ρ hI hi hdep hnew hold hc
      have e0 : ρ (.tmp 33) = .slice (some ⟨g2, 0, none⟩) (n + 1) c2 := ((hnew 0 33 (dep hdep 0 (by kernel_rfl)) (by kernel_rfl) (of_decide_eq_true (by kernel_rfl)) (of_decide_eq_true (by kernel_rfl))).trans (hv (by kernel_rfl) hI 0 (by decide) (by decide) (dep hdep 0 (by kernel_rfl)))).trans (by rw [← hL]; rfl)
      have e1 : ρ (.tmp 35) = .int .i64 n := ((hnew 2 35 (dep hdep 2 (by kernel_rfl)) (by kernel_rfl) (of_decide_eq_true (by kernel_rfl)) (of_decide_eq_true (by kernel_rfl))).trans (hv (by kernel_rfl) hI 2 (by decide) (by decide) (dep hdep 2 (by kernel_rfl)))).trans (by rw [← hL]; rfl)
      refine ⟨.slice (some ⟨g2, 0, none⟩) n c2, ?_, ?_⟩
      · simp [execOp, e0, e1, i1, i2, go_sem]
      · unfold hrF
        rw [if_neg (by decide), if_neg (by decide)]
        simp only [upd, if_true]
        rw [← hL]; rfl
    case s4 =>
      intro l vals W ρ hI hi hdep hnew hold hc
      have e0 : ρ (.tmp 1) = .int .i64 o := (hold 1 (by kernel_rfl)).trans (by kernel_rfl)
      refine ⟨.int .i64 o, ?_, ?_⟩
      · simp [execOp, e0, go_sem]
      · unfold hrF
        rw [if_neg (by decide), if_neg (by decide)]
        simp only [upd, if_true]
        rw [← hL]; rfl
    case s5 =>
      intro l vals W ρ hI hi hdep hnew hold hc
      have e0 : ρ (.tmp 5) = .pointer (some ⟨w.heap.size, 0, none⟩) := (hold 5 (by kernel_rfl)).trans (by kernel_rfl)
      have c0 := (bcl hI.com (show w.heap.size < _ by omega)).trans t0
      have c1 := (bcl hI.com (show w.heap.size < _ by omega)).trans t1
      refine ⟨.agg #[.int .i64 s, .int .u16 m], ?_, ?_⟩
      · simp [execOp, e0, c0, c1, go_sem]
      · unfold hrF
        rw [if_neg (by decide), if_neg (by decide)]
        simp only [upd, if_true]
        rw [← hL]; rfl
    case s6 =>
      intro l vals W ρ hI hi hdep hnew hold hc
      have e0 : ρ (.tmp 36) = .slice (some ⟨g2, 0, none⟩) n c2 := ((hnew 3 36 (dep hdep 3 (by kernel_rfl)) (by kernel_rfl) (of_decide_eq_true (by kernel_rfl)) (of_decide_eq_true (by kernel_rfl))).trans (hv (by kernel_rfl) hI 3 (by decide) (by decide) (dep hdep 3 (by kernel_rfl)))).trans (by rw [← hL]; rfl)
      have e1 : ρ (.tmp 37) = .int .i64 o := ((hnew 4 37 (dep hdep 4 (by kernel_rfl)) (by kernel_rfl) (of_decide_eq_true (by kernel_rfl)) (of_decide_eq_true (by kernel_rfl))).trans (hv (by kernel_rfl) hI 4 (by decide) (by decide) (dep hdep 4 (by kernel_rfl)))).trans (by rw [← hL]; rfl)
      have e2 : ρ (.tmp 38) = .agg #[.int .i64 s, .int .u16 m] := ((hnew 5 38 (dep hdep 5 (by kernel_rfl)) (by kernel_rfl) (of_decide_eq_true (by kernel_rfl)) (of_decide_eq_true (by kernel_rfl))).trans (hv (by kernel_rfl) hI 5 (by decide) (by decide) (dep hdep 5 (by kernel_rfl)))).trans (by rw [← hL]; rfl)
      have hcall := HA.out W g2 c2 (by omega) (by unfold maxLen; omega) (HP3.out.of_below (B35.out.trans (hI.com.mono (by omega))) (Nat.le_refl _))
      refine ⟨#[.slice (some ⟨g2, 0, none⟩) n c2, .int .i64 o, .agg #[.int .i64 s, .int .u16 m]], by simp [e0, e1, e2], hcall.mono ?_⟩
      rintro e W' ⟨rfl, hb'⟩
      refine ⟨_, rfl, hI.com.trans (hb'.mono hI.com.size), ?_, fun j _ _ hj hT => hrF_later (fun k hk => hb'.block k hk) j vals (hI.fact j hj hT)⟩
      unfold hrF
      rw [if_neg (by decide), if_neg (by decide)]
      simp only [upd, if_true]
      rw [← hL]; rfl
    case s7 =>
      intro l vals W ρ hI hi hdep hnew hold hc
      have e0 : ρ (.tmp 39) = .tuple #[.agg AF, .int .i64 ae] := ((hnew 6 39 (dep hdep 6 (by kernel_rfl)) (by kernel_rfl) (of_decide_eq_true (by kernel_rfl)) (of_decide_eq_true (by kernel_rfl))).trans (hv (by kernel_rfl) hI 6 (by decide) (by decide) (dep hdep 6 (by kernel_rfl)))).trans (by rw [← hL]; rfl)
      refine ⟨.tuple #[.agg AF, .int .i64 ae], ?_, ?_⟩
      · simp [execOp, e0, go_sem]
      · unfold hrF
        rw [if_neg (by decide), if_neg (by decide)]
        simp only [upd, if_true]
        rw [← hL]; rfl
    case s8 =>
      intro l vals W ρ hI hi hdep hnew hold hc
      have e0 : ρ (.tmp 32) = .tuple #[.agg AF, .int .i64 ae] := ((hnew 7 32 (dep hdep 7 (by kernel_rfl)) (by kernel_rfl) (of_decide_eq_true (by kernel_rfl)) (of_decide_eq_true (by kernel_rfl))).trans (hv (by kernel_rfl) hI 7 (by decide) (by decide) (dep hdep 7 (by kernel_rfl)))).trans (by rw [← hL]; rfl)
      refine ⟨.agg AF, ?_, ?_⟩
      · simp [execOp, e0, go_sem]
      · unfold hrF
        rw [if_neg (by decide), if_neg (by decide)]
        simp only [upd, if_true]
        rw [← hL]; rfl
    case s9 =>
      intro l vals W ρ hI hi hdep hnew hold hc
      have e0 : ρ (.tmp 32) = .tuple #[.agg AF, .int .i64 ae] := ((hnew 7 32 (dep hdep 7 (by kernel_rfl)) (by kernel_rfl) (of_decide_eq_true (by kernel_rfl)) (of_decide_eq_true (by kernel_rfl))).trans (hv (by kernel_rfl) hI 7 (by decide) (by decide) (dep hdep 7 (by kernel_rfl)))).trans (by rw [← hL]; rfl)
      refine ⟨.int .i64 ae, ?_, ?_⟩
      · simp [execOp, e0, go_sem]
      · unfold hrF
        rw [if_neg (by decide), if_neg (by decide)]
        simp only [upd, if_true]
        rw [← hL]; rfl
    case s10 =>
      intro l vals W ρ hI hi hdep hnew hold hc
      refine ⟨.pointer (some ⟨W.heap.size, 0, none⟩), W.alloc (.cells fr0 27), .inl ?_, hI.com.alloc hI.com.size _, ?_, fun j _ _ hj hT => hrF_later (fun k hk => (bal W _).block k hk) j vals (hI.fact j hj hT)⟩
      · have hz' := hz W
        simp [execOp, go_sem, hz']
      · unfold hrF
        rw [if_pos rfl]
        exact ⟨W.heap.size, by simp [upd], hI.com.size, heap_alloc_new W _⟩
    case s11 =>
      intro l vals W hI hi hdep
      have h10 : l.getD 10 false = true := dep hdep 10 (by kernel_rfl)
      obtain ⟨g, hg, hgB, hgr⟩ : ∃ g, vals 10 = .pointer (some ⟨g, 0, none⟩) ∧ w5.heap.size ≤ g ∧ W.heap[g]? = some (.cells fr0 27 (0, 0)) := by
        have h := hI.fact 10 h10 hi
        unfold hrF at h
        rwa [if_pos rfl] at h
      have h8 : vals 8 = .agg AF := (hv (by kernel_rfl) hI 8 (by decide) (by decide) (dep hdep 8 (by kernel_rfl))).trans (by rw [← hL]; rfl)
      refine wp_store_row 27 (.tmp 10) (.tmp 40) rfl g AF ((ev_get (by kernel_rfl) 10 10 h10 (by kernel_rfl) (of_decide_eq_true (by kernel_rfl)) (of_decide_eq_true (by kernel_rfl))).trans hg) ((ev_get (by kernel_rfl) 8 40 (dep hdep 8 (by kernel_rfl)) (by kernel_rfl) (of_decide_eq_true (by kernel_rfl)) (of_decide_eq_true (by kernel_rfl))).trans h8) 27 fr0 hgr (fr_info S2.out) (by rw [HS.out, S2.out]) O2.out ?_
      refine ⟨undef, rfl, below_setRow hI.com hgB _, ?_, fun j hj hT hl hTl => ?_⟩
      · unfold hrF
        rw [if_neg (by decide), if_pos rfl]
        exact ⟨g, by simp [upd, hg], hgB, setRow_heap _ _ _ _ _ _ hgr⟩
      · have h := hI.fact j hl hTl
        have hj10 : j ≠ 10 := fun e => hT (by rw [e]; rfl)
        unfold hrF at h ⊢
        rw [if_neg hj10, if_neg hj] at h ⊢
        exact h
    case s12 =>
      intro l vals W ρ hI hi hdep hnew hold hc
      have e0 : ρ (.tmp 41) = .int .i64 ae := ((hnew 9 41 (dep hdep 9 (by kernel_rfl)) (by kernel_rfl) (of_decide_eq_true (by kernel_rfl)) (of_decide_eq_true (by kernel_rfl))).trans (hv (by kernel_rfl) hI 9 (by decide) (by decide) (dep hdep 9 (by kernel_rfl)))).trans (by rw [← hL]; rfl)
      refine ⟨.int .i64 ae, ?_, ?_⟩
      · simp [execOp, e0, go_sem]
      · unfold hrF
        rw [if_neg (by decide), if_neg (by decide)]
        simp only [upd, if_true]
        rw [← hL]; rfl
  case fin =>
    intro vals W hC hF
    obtain ⟨g6, hg6, hB6, hr6⟩ : ∃ g, vals 10 = .pointer (some ⟨g, 0, none⟩) ∧ w5.heap.size ≤ g ∧ W.heap[g]? = some (.cells AF 27 (0, 0)) := by
      have h := hF 11 (of_decide_eq_true (by kernel_rfl)) (of_decide_eq_true (by kernel_rfl))
      unfold hrF at h
      rwa [if_neg (by decide), if_pos rfl] at h
    have h12 : vals 12 = .int .i64 ae := by
      have h := hF 12 (of_decide_eq_true (by kernel_rfl)) (of_decide_eq_true (by kernel_rfl))
      unfold hrF at h
      rw [if_neg (by decide), if_neg (by decide), ← hL] at h
      exact h
    simp [canon, dstOf, Act.put, hg6, h12]
    have g6lt : g6 < W.heap.size := (Array.getElem?_eq_some_iff.1 hr6).1
    have hw6 : Below w.heap.size w W := hw5.trans (hC.mono (by omega))
    have z6 := hC.size
    have u0 := (bcl hC (show w.heap.size < _ by omega)).trans t0
    have u1 := (bcl hC (show w.heap.size < _ by omega)).trans t1
    have P6 := hide ((hC.block w4.heap.size (by omega)).trans P5.out)
    have R6 := hide hr6
    have B36 := hide (B35.out.trans (hC.mono (by omega)))
    clear hF hC hr6 hL h12 hg6
    go_wp2_with fail
    refine (HRD.out W hw6).mono ?_
    rintro e w7 ⟨rfl, hb7⟩
    have z7 := hb7.size
    have hw7 : Below w.heap.size w w7 := hw6.trans (hb7.mono (by omega))
    have B37 := hide (B36.out.trans (hb7.mono (by omega)))
    have v0 := (bcl hb7 (show w.heap.size < _ by omega)).trans u0
    have v1 := (bcl hb7 (show w.heap.size < _ by omega)).trans u1
    have P7 := hide ((hb7.block w4.heap.size (by omega)).trans P6.out)
    have R7 := hide ((hb7.block g6 (by omega)).trans R6.out)
    clear hb7 u0 u1
    go_wp2_with (first
      | (refine wpList_store_row rfl 27 (.tmp 12) (.tmp 45) rfl w7.heap.size DF rfl rfl 27 _ (heap_alloc_new _ _) (fr_info S1.out) (by rw [HS.out, S1.out]) O1.out ?_
         obtain ⟨b8, p8, z8⟩ := new_row w7 DF
         generalize (w7.alloc (.cells fr0 27)).setRow w7.heap.size DF = w8 at b8 p8 z8 ⊢
         have x0 := (bcl b8 (show w.heap.size < _ by omega)).trans v0
         have x1 := (bcl b8 (show w.heap.size < _ by omega)).trans v1
         have P8 := hide ((b8.block w4.heap.size (by omega)).trans P7.out)
         have R8 := hide ((b8.block g6 (by omega)).trans R7.out)
         have T8 := hide p8
         have B38 := hide (B37.out.trans (b8.mono (by omega)))
         have hw8 : Below w.heap.size w w8 := hw7.trans (b8.mono (by omega))
         clear b8 p8 v0 v1))
    refine (HRA.out w8 hw8).mono ?_
    rintro e w9 ⟨rfl, hb9⟩
    have z9 := hb9.size
    have hw9 : Below w.heap.size w w9 := hw8.trans (hb9.mono (by omega))
    have B39 := hide (B38.out.trans (hb9.mono (by omega)))
    have P9 := hide ((hb9.block w4.heap.size (by omega)).trans P8.out)
    have R9 := hide ((hb9.block g6 (by omega)).trans R8.out)
    have T9 := hide ((hb9.block w7.heap.size (by omega)).trans T8.out)
    clear hb9 x0 x1
    have hq1 := Q1.out; have hq2 := Q2.out; have heg := EG.out
    have hs7 := str_app7 l
    have hsz := str_size l
    rw [Hn.out] at hsz
    go_wp2_with (first
      | (refine wpList_store_row rfl 27 (.tmp 14) (.tmp 52) rfl w9.heap.size AF rfl rfl 27 _ (heap_alloc_new _ _) (fr_info S2.out) (by rw [HS.out, S2.out]) O2.out ?_
         obtain ⟨b10, p10, z10⟩ := new_row w9 AF
         generalize (w9.alloc (.cells fr0 27)).setRow w9.heap.size AF = w10 at b10 p10 z10 ⊢
         have P10 := hide ((b10.block w4.heap.size (by omega)).trans P9.out)
         have R10 := hide ((b10.block g6 (by omega)).trans R9.out)
         have T10 := hide ((b10.block w7.heap.size (by omega)).trans T9.out)
         have U10 := hide p10
         have B310 := B39.out.trans (b10.mono (by omega))
         have hw10 : Below w.heap.size w w10 := hw9.trans (b10.mono (by omega))
         have sto := str_of w10 (some ⟨g2, 0, none⟩) (n + 1) c2 (l ++ [7]) (HO3.out.of_below B310 (Nat.le_refl _)) (by simp; exact Hn.out)
         have stb := str_of w10 A n cap l (HL.out.of_below hw10 (Nat.le_refl _)) Hn.out
         clear b10 p10 B310)
      | (refine wpList_load_row rfl 27 (.tmp 8) rfl w4.heap.size rfl 27 DF (0, 0) _ P10.out Try.underlying27 rfl (fr_info S1.out) ?_)
      | (refine wpList_load_row rfl 27 (.tmp 12) rfl w7.heap.size rfl 27 DF (0, 0) _ T10.out Try.underlying27 rfl (fr_info S1.out) ?_)
      | (refine wpList_load_g rfl (.tmp 10) rfl g6 rfl AF R10.out S2.out ?_)
      | (refine wpList_load_g rfl (.tmp 14) rfl w9.heap.size rfl AF U10.out S2.out ?_))
    go_ret
    exact ⟨rfl, hw10⟩
end Go.Proofs.Ytihldmcakcobaaa
