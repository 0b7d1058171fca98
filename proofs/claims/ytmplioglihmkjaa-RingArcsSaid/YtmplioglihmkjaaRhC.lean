/-
  RingTurned's walk.
-/
import Derived.Test.YtmplioglihmkjaaRhA
namespace Go.Proofs.Ytmplioglihmkjaa
open Go.RowKit Go.Shelf
attribute [local go_sem] Oper.semAt_some
set_option linter.unusedVariables false
set_option linter.unusedSimpArgs false
set_option maxRecDepth 100000

/-- all turned by as many places -/
def turnL (n s : Nat) (l : List Ai) : List Ar := (l.map tA).map (tnA n s)
theorem own_spot {W : World} {B : Nat} {t : TypeId} {sz : Nat} {A : Option Addr} {n c : Nat} {xs : List Value} (x : W.ownsRow B t sz (.slice A n c) n xs) : ∀ a, A = some a → a.spot = none := by
  rintro a rfl
  rcases x.2 with ⟨h, _⟩ | ⟨g, cap, cur, h, _⟩
  · cases h
  · cases h; rfl
theorem arcs_own {W : World} {B n c : Nat} {A : Option Addr} {l : List Ai} (x : OwnA W B (.slice A n c) l) (hl : ∀ z ∈ l, I64 z.1 ∧ I64 z.2) : Arcs W A l := by
  obtain ⟨A', c', e, h⟩ := own_arcs x hl
  cases e
  exact h
theorem toI_i64 {n : Nat} (hn : n ≤ 1000) {G : List Ar} (h : ∀ a ∈ G, okA n a) : ∀ z ∈ toI G, I64 z.1 ∧ I64 z.2 := by
  intro z hz
  obtain ⟨a, ha, rfl⟩ := List.mem_map.1 hz
  obtain ⟨x1, x2⟩ := h a ha
  unfold I64; dsimp only; omega
theorem turn_get {n s : Nat} {l : List Ai} {k : Nat} (h : k < l.length) : (turnL n s l).getD k (0, 0) = tnA n s (tA (l.getD k (0, 0))) := by
  unfold turnL
  rw [List.getD_eq_getElem?_getD, List.getD_eq_getElem?_getD, List.getElem?_map, List.getElem?_map, List.getElem?_eq_getElem h]; rfl
theorem sumQ_from : ∀ (k : List Ar) (z : Nat), k.foldl (fun s a => s + a.2 * a.2) z = z + sumQ k
  | [], z => by simp [sumQ]
  | a :: k, z => by
    have h1 := sumQ_from k (z + a.2 * a.2)
    have h2 := sumQ_from k (0 + a.2 * a.2)
    unfold sumQ at *
    rw [List.foldl_cons, List.foldl_cons, h1, h2]; omega
theorem sumQ_le : ∀ (l : List Ar), (∀ a ∈ l, a.2 ≤ 1000) → sumQ l ≤ l.length * 1000000
  | [], _ => by simp [sumQ]
  | a :: l, h => by
    have h1 := sumQ_le l fun x hx => h x (List.mem_cons_of_mem _ hx)
    have h2 := h a (List.mem_cons_self ..)
    have h3 := Nat.mul_le_mul h2 h2
    have h4 := sumQ_from l (0 + a.2 * a.2)
    have e : sumQ (a :: l) = l.foldl (fun s a => s + a.2 * a.2) (0 + a.2 * a.2) := rfl
    rw [e, h4, List.length_cons, Nat.add_mul]
    omega
theorem own_from {W W' : World} {B : Nat} {h : Value} {l : List Ai} (x : OwnA W B h l) (hb : Below W.heap.size W W') : OwnA W' B h l := own_below x hb (Nat.le_refl _)
theorem map_tA_toI (l : List Ar) : (toI l).map tA = l := by
  unfold toI
  rw [List.map_map]
  refine (List.map_congr_left (g := id) fun a _ => tA_cast a).trans (List.map_id _)
theorem turn_take {n s : Nat} {l : List Ai} {k : Nat} (h : k < l.length) : turnL n s (l.take (k + 1)) = turnL n s (l.take k) ++ [tnA n s (tA (l.getD k (0, 0)))] := by
  unfold turnL; rw [take_snoc l (0, 0) k h, List.map_append, List.map_append]; rfl
structure TurnM (n s : Nat) (l : List Ai) : Prop where
  may : mayB n (toI (turnL n s l)) = true
  cnt : cnt (tkI n (toI (turnL n s l))) n = cnt (tkI n l) n
  len : (gapF (tkI n (toI (turnL n s l))) n).length = (gapF (tkI n l) n).length
  sq : sumQ (gapF (tkI n (toI (turnL n s l))) n) = sumQ (gapF (tkI n l) n)
  meet : ∀ a ∈ l, ∀ b ∈ l, meetB n (tnA n s (tA a)) (tnA n s (tA b)) = meetB n (tA a) (tA b)
theorem turnM_of {n s : Nat} {l : List Ai} (hs : s < n) (hm : mayB n l = true) : TurnM n s l := by
  obtain ⟨hr, hok⟩ := mayB_t hm
  have hl : ∀ a ∈ l.map tA, okA n a := fun b hb => by
    obtain ⟨a, ha, rfl⟩ := List.mem_map.1 hb
    exact (okB_t (hok a ha)).1
  have ht : tkI n (toI (turnL n s l)) = tk n (turnL n s l) := by
    unfold tkI; rw [map_tA_toI, Int.toNat_natCast]
  have hu : ∀ p, p < n → tk n (turnL n s l) ((p + s) % n) = tkI n l p := fun p hp => by
    unfold turnL tkI; rw [Int.toNat_natCast]; exact tk_turn hs hl hp
  refine ⟨?_, ?_, ?_, ?_, fun a ha b hb => meet_turn hs (hl _ (List.mem_map.2 ⟨a, ha, rfl⟩)) (hl _ (List.mem_map.2 ⟨b, hb, rfl⟩))⟩
  · unfold mayB
    rw [show ringB n = true from decide_eq_true hr, Bool.true_and, List.all_eq_true]
    intro x hx
    obtain ⟨g, hg, rfl⟩ := List.mem_map.1 hx
    obtain ⟨a, ha, rfl⟩ := List.mem_map.1 hg
    exact okB_of (ok_turn (hl a ha))
  · rw [ht]; exact cnt_turn hs hu
  · rw [ht]; exact (gap_turn hs hu).1
  · rw [ht]; exact (gap_turn hs hu).2

set_option maxHeartbeats 8000000 in
theorem turned_walk (l : List Ai) (A : Option Addr) (c : Nat) (by_ : Int) (n : Nat) (w : World) (hI : Arcs w A l) (hA : ∀ a, A = some a → a.spot = none) (hs : I64 by_) (hn : n < 65536) (hc : l.length ≤ c) (hc2 : c ≤ maxLen) :
    Calls Try.prog 10 #[.slice A l.length c, .int .i64 by_, .int .u16 n] w fun e w' => e = .returned (.bool true) ∧ Below w.heap.size w w' := by
  obtain ⟨z, hz⟩ : ∃ z, z = n % 1000 := ⟨_, rfl⟩
  have hmod : (n : Int).tmod 1000 = (z : Int) := by rw [hz]; rfl
  have hmod2 : (n : Int) % 1000 = (z : Int) := by rw [hz]; rfl
  have hz5 : z < 1000 := by omega
  clear hz
  by_cases h20 : 20 < l.length
  · obtain ⟨N, hN⟩ : ∃ N, N = l.length := ⟨_, rfl⟩
    rw [← hN] at h20 ⊢
    clear hN hI hc
    go_enter Try.func10, Try.ntmps10
    go_wp2_with fail
    refine (alive_at _).mono ?_
    rintro e w' ⟨rfl, rfl⟩
    go_wp2_with fail
    go_ret
    exact ⟨rfl, Below.refl _ _⟩
  obtain ⟨m, hm⟩ : ∃ m, m = 1 + z := ⟨_, rfl⟩
  have hmI : (1 + (z : Int)) = (m : Int) := by omega
  have hm0 : 0 < m := by omega
  have hm1 : m ≤ 1000 := by omega
  have HCv := hide (fun W (h : Arcs W A l) => Covered_at l A c m W h hA (fun _ => by omega) (by omega))
  have HI := hide (fun W (h : Below w.heap.size w W) => hI.of_below h (Nat.le_refl _))
  obtain ⟨N, hN⟩ : ∃ N, N = l.length := ⟨_, rfl⟩
  cases hmay : mayB m l with
  | false =>
    rw [show coveredV l m = .tuple #[.int .i64 0, .int .i64 130] from if_neg (by rw [hmay]; decide)] at HCv
    rw [← hN] at h20 HCv ⊢
    clear hI hc hN hmay hm
    go_enter Try.func10, Try.ntmps10
    go_wp2_with fail
    refine (alive_at _).mono ?_
    rintro e w' ⟨rfl, rfl⟩
    go_wp2_with fail
    refine (HCv.out _ (HI.out _ (Below.refl _ _))).mono ?_
    rintro e w1 ⟨rfl, hb⟩
    have HB1 := hide hb
    clear hb
    go_wp2_with fail
    go_ret
    exact ⟨rfl, HB1.out⟩
  | true =>
    have hst := place_rng (a := by_) (n := (m : Int)) (by omega)
    obtain ⟨s, hsN⟩ := Int.eq_ofNat_of_zero_le hst.1
    have hsm : s < m := by omega
    have HTm := hide (turnM_of hsm hmay)
    have HGp := hide (fun W (h : Arcs W A l) => Gaps_at l A c m W h hA (fun _ => by omega) (by omega))
    unfold gapsR at HGp
    rw [hmay] at HGp
    rw [show coveredV l m = .tuple #[.int .i64 (cnt (tkI m l) m : Nat), .int .i64 0] from if_pos hmay] at HCv
    have hok := (mayB_t hmay).2
    have HOk := hide hok
    have HPl := hide (fun W => Place_at by_ m hs W)
    rw [show placeV by_ m = .tuple #[.int .i64 (s : Nat), .int .i64 0] from (if_pos (decide_eq_true (by omega))).trans (by rw [hsN])] at HPl
    rw [← hN] at h20 HCv HGp ⊢
    have HN := hide hN
    generalize hcn : cnt (tkI m l) m = cv at *
    have HCn := hide hcn
    clear hI hc hN hmay hm hok hcn
    go_enter Try.func10, Try.ntmps10
    go_wp2_with fail
    refine (alive_at _).mono ?_
    rintro e w' ⟨rfl, rfl⟩
    go_wp2_with fail
    refine (HCv.out _ (HI.out _ (Below.refl _ _))).mono ?_
    rintro e w1 ⟨rfl, hb⟩
    have HB1 := hide hb
    clear hb
    go_wp2_with fail
    have hN20 : N ≤ 20 := by omega
    have HGl := hide (show ∀ t : Nat → Bool, (gapF t m).length ≤ m from fun t => by
      unfold gapF
      split
      · exact gapTo_le _ _ _
      · simp; omega)
    have HSl := hide (show ∀ t : Nat → Bool, sumL (gapF t m) ≤ m from fun t => by have := sum_all (t := t) hm0; omega)
    go_loopw [11, 59] (fun mv kv wr => ∃ k : Nat, k ≤ N ∧ kv = .int .i64 k ∧ OwnA wr w1.heap.size mv (toI (turnL m s (l.take k))) ∧ Below w1.heap.size w1 wr) (fun _ kv _ => N - (intOf kv).toNat)
    case atStart => exact ⟨0, Nat.zero_le _, rfl, World.ownsRow_nil _ _ _ _, Below.refl _ _⟩
    case round =>
      obtain ⟨k, hk, rfl, hO, hbr⟩ := hrel
      have HO := hide hO
      have HBr := hide hbr
      by_cases hlt : k < N
      · have hkl : k < l.length := by rw [← HN.out]; exact hlt
        obtain ⟨b, off, rfl, hbl, c0, c1⟩ := (HI.out wr (HB1.out.trans (hbr.mono HB1.out.size))).at hkl
        obtain ⟨⟨hF, hG⟩, e1⟩ := okB_t (HOk.out _ (mem_at hkl))
        have HTk := hide (turn_take (n := m) (s := s) hkl)
        rw [e1] at c0 c1
        dsimp only at c0 c1
        generalize tA (l.getD k (0, 0)) = ar at *
        obtain ⟨F, G⟩ := ar
        dsimp only at c0 c1 hF hG
        have HP2 := hide (fun W => Place_at ((F : Int) + (s : Int)) m (by unfold I64; omega) W)
        rw [show placeV ((F : Int) + (s : Int)) m = .tuple #[.int .i64 (((F + s) % m : Nat) : Int), .int .i64 0] from (if_pos (decide_eq_true (by omega))).trans rfl] at HP2
        have hfm := Nat.mod_lt (F + s) hm0
        have HTn := hide (show tnA m s (F, G) = ((F + s) % m, G) from rfl)
        generalize (F + s) % m = F2 at *
        obtain ⟨v, rfl⟩ : ∃ v, v = u11 := ⟨_, rfl⟩
        have hlen1 : (toI (turnL m s (l.take k))).length = k := by
          rw [toI_len]; unfold turnL; rw [List.length_map, List.length_map, List.length_take]; omega
        have hO2 : wr.ownsRow w1.heap.size 41 2 v k (flatA (toI (turnL m s (l.take k)))) := by
          have := hO; unfold OwnA at this; rw [hlen1] at this; exact this
        have HO2 := hide hO2
        have hwz := hbr.size
        have HLen := hide hlen1
        clear hO hO2 hbr hkl e1 hlen1
        go_wp2_with fail
        refine (HPl.out _).mono ?_
        rintro e w' ⟨rfl, rfl⟩
        go_wp2_with fail
        refine (HP2.out _).mono ?_
        rintro e w' ⟨rfl, rfl⟩
        go_wp2_with (at_builtin; refine wpList_one _ rfl _ _ 34 rfl 41 (.agg #[.int .i64 0, .int .i64 0]) 2 16 under_arcs info_arc rfl (by decide) (by decide) w1.heap.size _ _ _ rfl (own_below HO2.out (bal wr _) (Nat.le_refl _)) _ _ [.int .i64 (F2 : Nat), .int .i64 (G : Nat)] rfl (heap_alloc_new wr _) rfl (by simp [Value.oneCell']) (by omega) (by simp; omega) ?_; intro v' w4 hown4 hgr4 hwh; have HO4 := hide hown4; have HG4 := hide hgr4; clear hown4 hgr4 hwh)
        refine ⟨⟨k + 1, by omega, by go_num, ?_, below_own (HBr.out.alloc hwz _) (own_below HO2.out (bal wr (.cells #[.int .i64 (F2 : Nat), .int .i64 (G : Nat)] 41)) (Nat.le_refl _)) HG4.out (by omega) (by simp; omega)⟩, by simp [intOf]; omega⟩
        unfold OwnA
        rw [HTk.out, HTn.out, toI_snoc, flatA_snoc, List.length_append, HLen.out]
        exact HO4.out
      · obtain rfl : k = N := by omega
        rw [show l.take k = l from by rw [HN.out, List.take_length]] at hO
        have hBw := HB1.out.trans (hbr.mono HB1.out.size)
        have hiM : ∀ z ∈ toI (turnL m s l), I64 z.1 ∧ I64 z.2 := fun z hz => by
          have := List.all_eq_true.1 (show (toI (turnL m s l)).all (okB m) = true from by have := HTm.out.may; unfold mayB at this; rw [Bool.and_eq_true] at this; exact this.2) z hz
          have hp : 0 ≤ z.1 ∧ z.1 < (m : Int) ∧ 0 ≤ z.2 ∧ z.2 ≤ (m : Int) := of_decide_eq_true this
          unfold I64; omega
        have hlenM : (toI (turnL m s l)).length = k := by
          rw [toI_len]; unfold turnL; rw [List.length_map, List.length_map, HN.out]
        obtain ⟨A2, c2, rfl, hAr2⟩ := own_arcs hO hiM
        have hA2 := own_spot hO
        rw [hlenM] at hO ⊢
        have HAr2 := hide (fun W (h : Below wr.heap.size wr W) => hAr2.of_below h (Nat.le_refl _))
        have HCv2 := hide (fun W (h : Arcs W A2 (toI (turnL m s l))) => Covered_at (toI (turnL m s l)) A2 c2 m W h hA2 (fun _ => by omega) (by rw [hlenM]; omega))
        have HGp2 := hide (fun W (h : Arcs W A2 (toI (turnL m s l))) => Gaps_at (toI (turnL m s l)) A2 c2 m W h hA2 (fun _ => by omega) (by rw [hlenM]; omega))
        rw [show coveredV (toI (turnL m s l)) m = .tuple #[.int .i64 (cv : Nat), .int .i64 0] from (if_pos HTm.out.may).trans (by rw [show ((m : Int)).toNat = m from Int.toNat_natCast m, HTm.out.cnt, HCn.out]), hlenM] at HCv2
        unfold gapsR at HGp2
        rw [HTm.out.may, hlenM] at HGp2
        have HBw := hide hBw
        have hbr0 := hBw.size
        clear hO hbr hAr2 hBw hiM hlenM HO HBr hA2
        go_wp2_with fail
        refine (HCv2.out _ (HAr2.out _ (Below.refl _ _))).mono ?_
        rintro e w2 ⟨rfl, hb⟩
        have HD2 := hide hb
        clear hb
        go_wp2_with fail
        refine (HGp.out _ (HI.out _ (HBw.out.trans (HD2.out.mono hbr0)))).mono ?_
        rintro e w3 ⟨h, hb⟩
        obtain ⟨v, rfl, hO⟩ : ∃ v, e = .returned (.tuple #[v, .int .i64 0]) ∧ OwnA w3 w2.heap.size v (toI (gapF (tkI m l) m)) := by simpa using h
        have HD3 := hide (HD2.out.trans (hb.mono HD2.out.size))
        have HO1 := hide hO
        obtain ⟨Ax, cx, rfl⟩ := own_slice hO
        rw [toI_len]
        clear hb hO h
        go_wp2_with fail
        refine (HGp2.out _ (HAr2.out _ HD3.out)).mono ?_
        rintro e w4 ⟨h, hb⟩
        obtain ⟨v, rfl, hO⟩ : ∃ v, e = .returned (.tuple #[v, .int .i64 0]) ∧ OwnA w4 w3.heap.size v (toI (gapF (tkI m (toI (turnL m s l))) m)) := by simpa using h
        have HD4 := hide (HD3.out.trans (hb.mono HD3.out.size))
        have HO1' := hide (own_from HO1.out hb)
        have HO2 := hide hO
        obtain ⟨Ay, cy, rfl⟩ := own_slice hO
        rw [toI_len]
        have hll := HTm.out.len
        have HSq := hide HTm.out.sq
        have HMt := hide HTm.out.meet
        have hG1 := HGl.out (tkI m l)
        have hS1 := HSl.out (tkI m l)
        have hG1m := fun a h => gapF_mem (t := tkI m l) hm0 (a := a) h
        have hG2m := fun a h => gapF_mem (t := tkI m (toI (turnL m s l))) hm0 (a := a) h
        generalize gapF (tkI m (toI (turnL m s l))) m = G2 at *
        generalize gapF (tkI m l) m = G1 at *
        obtain ⟨M, hM⟩ : ∃ M, M = G1.length := ⟨_, rfl⟩
        rw [hll, ← hM]
        have HX1 := hide (arcs_own HO1'.out (toI_i64 hm1 fun a h => (hG1m a h).1))
        have HX2 := hide (arcs_own HO2.out (toI_i64 hm1 fun a h => (hG2m a h).1))
        have HM1 := hide hM
        have HM2 := hide (hM.trans hll.symm)
        have HG1 := hide hG1m
        have HG2 := hide hG2m
        rw [← hM] at hG1
        clear hb hO h HO1 hll hM hG1m hG2m HO1' HO2
        go_wp2_with fail
        go_loopw [23, 24, 139] (fun ov tv jv w5 => ∃ j : Nat, j ≤ M ∧ jv = .int .i64 j ∧ ov = .int .i64 (sumQ (G1.take j) : Nat) ∧ tv = .int .i64 (sumQ (G2.take j) : Nat) ∧ Below w4.heap.size w4 w5) (fun _ _ jv _ => M - (intOf jv).toNat)
        case atStart => exact ⟨0, Nat.zero_le _, rfl, rfl, rfl, Below.refl _ _⟩
        case round =>
          rename World => w5
          obtain ⟨j, hj, rfl, rfl, rfl, hb5⟩ := hrel
          have HB5 := hide hb5
          by_cases hjl : j < M
          · have hj1 : j < G1.length := by rw [← HM1.out]; exact hjl
            have hj2 : j < G2.length := by rw [← HM2.out]; exact hjl
            obtain ⟨b1, o1, rfl, hb1, _, c1⟩ := (HX1.out.of_below hb5 (Nat.le_refl _)).at (by rw [toI_len]; exact hj1)
            obtain ⟨b2, o2, rfl, hb2, _, c2⟩ := (HX2.out.of_below hb5 (Nat.le_refl _)).at (by rw [toI_len]; exact hj2)
            rw [toI_get _ _ hj1] at c1
            rw [toI_get _ _ hj2] at c2
            have hx1 := (HG1.out _ (memA_at hj1)).1.2
            have hx2 := (HG2.out _ (memA_at hj2)).1.2
            have HQ1 := hide (show sumQ (G1.take (j + 1)) = sumQ (G1.take j) + (G1.getD j (0, 0)).2 * (G1.getD j (0, 0)).2 from by rw [take_snoc G1 (0, 0) j hj1, sumQ_snoc])
            have HQ2 := hide (show sumQ (G2.take (j + 1)) = sumQ (G2.take j) + (G2.getD j (0, 0)).2 * (G2.getD j (0, 0)).2 from by rw [take_snoc G2 (0, 0) j hj2, sumQ_snoc])
            have hq1 := sumQ_le (G1.take j) fun a ha => by have := (HG1.out a (List.mem_of_mem_take ha)).1.2; omega
            have hq2 := sumQ_le (G2.take j) fun a ha => by have := (HG2.out a (List.mem_of_mem_take ha)).1.2; omega
            rw [List.length_take] at hq1 hq2
            have hq1' : sumQ (G1.take j) ≤ 1000000000 := by omega
            have hq2' : sumQ (G2.take j) ≤ 1000000000 := by omega
            generalize sumQ (G1.take j) = s1 at *
            generalize sumQ (G2.take j) = s2 at *
            generalize (G1.getD j (0, 0)).2 = L1 at *
            generalize (G2.getD j (0, 0)).2 = L2 at *
            dsimp only at c1 c2
            have hp1 := Nat.mul_le_mul hx1 hx1
            have hp2 := Nat.mul_le_mul hx2 hx2
            have hmm := Nat.mul_le_mul hm1 hm1
            have hi1 : (L1 : Int) * (L1 : Int) = ((L1 * L1 : Nat) : Int) := by simp
            have hi2 : (L2 : Int) * (L2 : Int) = ((L2 * L2 : Nat) : Int) := by simp
            generalize hP1 : L1 * L1 = P1 at *
            generalize hP2 : L2 * L2 = P2 at *
            have hp1' : P1 ≤ 1000000 := by omega
            have hp2' : P2 ≤ 1000000 := by omega
            clear hP1 hP2 hp1 hp2 hmm hq1 hq2 hb5 hj1 hj2
            have HW1 := hide (show IntKind.i64.wrap (P1 : Int) = (P1 : Int) from by rw [IntKind.wrap_i64]; omega)
            have HW2 := hide (show IntKind.i64.wrap (P2 : Int) = (P2 : Int) from by rw [IntKind.wrap_i64]; omega)
            have HW3 := hide (show IntKind.i64.wrap ((s1 : Int) + (P1 : Int)) = (s1 : Int) + (P1 : Int) from by rw [IntKind.wrap_i64]; omega)
            have HW4 := hide (show IntKind.i64.wrap ((s2 : Int) + (P2 : Int)) = (s2 : Int) + (P2 : Int) from by rw [IntKind.wrap_i64]; omega)
            have HS0 : Hid ((fun w' => w'.cell? ⟨b1, o1 + j * 2 + 1, none⟩ = some (.int .i64 (L1 : Nat))) w5.drew) := c1
            go_wp2_with fail
            refine wp_region_held_drew (S := fun w' => w'.cell? ⟨b1, o1 + j * 2 + 1, none⟩ = some (.int .i64 (L1 : Nat))) (by kernel_rfl) (HS0.out) (fun hHeld => ?_)
            refine wpAnyH_take (i := 0) (v := ?v1_0) rfl (by kernel_rfl) (by kernel_rfl) (by kernel_rfl) (fun _ _ _ h => h) (Or.inl ⟨by kernel_rfl, ?y1_0⟩) (by assumption) ?r1_0
            case y1_0 => (intro W hSW; (try dsimp only at hSW); go_simp; (try with_reducible rfl))
            change wpAnyH _ _ _ _ _ _ _ (Act.put _ (some 142) _) _
            (try simp only [Act.put, List.setIfInBounds_toArray, List.set_cons_zero, List.set_cons_succ])
            refine wpAnyH_take (i := 1) (v := ?v1_1) rfl (by kernel_rfl) (by kernel_rfl) (by kernel_rfl) (fun _ _ _ h => h) (Or.inl ⟨by kernel_rfl, ?y1_1⟩) (by assumption) ?r1_1
            case y1_1 => (intro W hSW; (try dsimp only at hSW); go_simp; (try with_reducible rfl))
            change wpAnyH _ _ _ _ _ _ _ (Act.put _ (some 143) _) _
            (try simp only [Act.put, List.setIfInBounds_toArray, List.set_cons_zero, List.set_cons_succ])
            refine wpAnyH_take (i := 2) (v := ?v1_2) rfl (by kernel_rfl) (by kernel_rfl) (by kernel_rfl) (fun _ _ _ h => h) (Or.inl ⟨by kernel_rfl, ?y1_2⟩) (by assumption) ?r1_2
            case y1_2 => (intro W hSW; (try dsimp only at hSW); go_simp; (try with_reducible rfl))
            change wpAnyH _ _ _ _ _ _ _ (Act.put _ (some 144) _) _
            (try simp only [Act.put, List.setIfInBounds_toArray, List.set_cons_zero, List.set_cons_succ])
            refine wpAnyH_take (i := 3) (v := ?v1_3) rfl (by kernel_rfl) (by kernel_rfl) (by kernel_rfl) (fun _ _ _ h => h) (Or.inl ⟨by kernel_rfl, ?y1_3⟩) (by assumption) ?r1_3
            case y1_3 => (intro W hSW; (try dsimp only at hSW); go_simp; (try with_reducible rfl))
            change wpAnyH _ _ _ _ _ _ _ (Act.put _ (some 145) _) _
            (try simp only [Act.put, List.setIfInBounds_toArray, List.set_cons_zero, List.set_cons_succ])
            refine wpAnyH_take (i := 4) (v := ?v1_4) rfl (by kernel_rfl) (by kernel_rfl) (by kernel_rfl) (fun _ _ _ h => h) (Or.inl ⟨by kernel_rfl, ?y1_4⟩) (by assumption) ?r1_4
            case y1_4 => (intro W hSW; (try dsimp only at hSW); go_simp; (try with_reducible rfl))
            change wpAnyH _ _ _ _ _ _ _ (Act.put _ (some 146) _) _
            (try simp only [Act.put, List.setIfInBounds_toArray, List.set_cons_zero, List.set_cons_succ])
            refine wpAnyH_take (i := 5) (v := ?v1_5) rfl (by kernel_rfl) (by kernel_rfl) (by kernel_rfl) (fun _ _ _ h => h) (Or.inl ⟨by kernel_rfl, ?y1_5⟩) (by assumption) ?r1_5
            case y1_5 => (intro W hSW; (try dsimp only at hSW); go_simp; (try with_reducible rfl))
            change wpAnyH _ _ _ _ _ _ _ (Act.put _ (some 147) _) _
            (try simp only [Act.put, List.setIfInBounds_toArray, List.set_cons_zero, List.set_cons_succ])
            refine wpAnyH_take (i := 6) (v := ?v1_6) rfl (by kernel_rfl) (by kernel_rfl) (by kernel_rfl) (fun _ _ _ h => h) (Or.inl ⟨by kernel_rfl, ?y1_6⟩) (by assumption) ?r1_6
            case y1_6 => (intro W hSW; (try dsimp only at hSW); go_simp; (try with_reducible rfl))
            change wpAnyH _ _ _ _ _ _ _ (Act.put _ (some 148) _) _
            (try simp only [Act.put, List.setIfInBounds_toArray, List.set_cons_zero, List.set_cons_succ])
            refine wpAnyH_take (i := 7) (v := ?v1_7) rfl (by kernel_rfl) (by kernel_rfl) (by kernel_rfl) (fun _ _ _ h => h) (Or.inl ⟨by kernel_rfl, ?y1_7⟩) (by assumption) ?r1_7
            case y1_7 => (intro W hSW; (try dsimp only at hSW); go_simp; (try with_reducible rfl))
            change wpAnyH _ _ _ _ _ _ _ (Act.put _ (some 149) _) _
            (try simp only [Act.put, List.setIfInBounds_toArray, List.set_cons_zero, List.set_cons_succ])
            refine wpAnyH_take (i := 8) (v := ?v1_8) rfl (by kernel_rfl) (by kernel_rfl) (by kernel_rfl) (fun _ _ _ h => h) (Or.inl ⟨by kernel_rfl, ?y1_8⟩) (by assumption) ?r1_8
            case y1_8 => (intro W hSW; (try dsimp only at hSW); go_simp; (try with_reducible rfl))
            change wpAnyH _ _ _ _ _ _ _ (Act.put _ (some 150) _) _
            (try simp only [Act.put, List.setIfInBounds_toArray, List.set_cons_zero, List.set_cons_succ])
            refine wpAnyH_take (i := 9) (v := ?v1_9) rfl (by kernel_rfl) (by kernel_rfl) (by kernel_rfl) (fun _ _ _ h => h) (Or.inl ⟨by kernel_rfl, ?y1_9⟩) (by assumption) ?r1_9
            case y1_9 => (intro W hSW; (try dsimp only at hSW); go_simp; (try with_reducible rfl))
            change wpAnyH _ _ _ _ _ _ _ (Act.put _ (some 151) _) _
            (try simp only [Act.put, List.setIfInBounds_toArray, List.set_cons_zero, List.set_cons_succ])
            refine wpAnyH_take (i := 10) (v := ?v1_10) rfl (by kernel_rfl) (by kernel_rfl) (by kernel_rfl) (fun _ _ _ h => h) (Or.inl ⟨by kernel_rfl, ?y1_10⟩) (by assumption) ?r1_10
            case y1_10 => (intro W hSW; (try dsimp only at hSW); go_simp; (try with_reducible rfl))
            change wpAnyH _ _ _ _ _ _ _ (Act.put _ (some 152) _) _
            (try simp only [Act.put, List.setIfInBounds_toArray, List.set_cons_zero, List.set_cons_succ])
            refine wpAnyH_take (i := 11) (v := ?v1_11) rfl (by kernel_rfl) (by kernel_rfl) (by kernel_rfl) (fun _ _ _ h => h) (Or.inl ⟨by kernel_rfl, ?y1_11⟩) (by assumption) ?r1_11
            case y1_11 => (intro W hSW; (try dsimp only at hSW); go_simp; (try with_reducible rfl))
            change wpAnyH _ _ _ _ _ _ _ (Act.put _ (some 153) _) _
            (try simp only [Act.put, List.setIfInBounds_toArray, List.set_cons_zero, List.set_cons_succ])
            refine wpAnyH_take (i := 12) (v := ?v1_12) rfl (by kernel_rfl) (by kernel_rfl) (by kernel_rfl) (fun _ _ _ h => h) (Or.inl ⟨by kernel_rfl, ?y1_12⟩) (by assumption) ?r1_12
            case y1_12 => (intro W hSW; (try dsimp only at hSW); go_simp; (try with_reducible rfl))
            change wpAnyH _ _ _ _ _ _ _ (Act.put _ (some 154) _) _
            (try simp only [Act.put, List.setIfInBounds_toArray, List.set_cons_zero, List.set_cons_succ])
            refine wpAnyH_take (i := 13) (v := ?v1_13) rfl (by kernel_rfl) (by kernel_rfl) (by kernel_rfl) (fun _ _ _ h => h) (Or.inl ⟨by kernel_rfl, ?y1_13⟩) (by assumption) ?r1_13
            case y1_13 => (intro W hSW; (try dsimp only at hSW); go_simp; (try with_reducible rfl))
            change wpAnyH _ _ _ _ _ _ _ (Act.put _ (some 23) _) _
            (try simp only [Act.put, List.setIfInBounds_toArray, List.set_cons_zero, List.set_cons_succ])
            refine wpAnyH_done (by kernel_rfl) ?_ _
            rw [HW1.out, HW3.out]
            clear HS0
            have HB6 := hide (below_drew HB5.out)
            have HS0 : Hid ((fun w' => w'.cell? ⟨b2, o2 + j * 2 + 1, none⟩ = some (.int .i64 (L2 : Nat))) w5.drew.drew) := c2
            generalize w5.drew = w6 at *
            go_wp2_with fail
            refine wp_region_held_drew (S := fun w' => w'.cell? ⟨b2, o2 + j * 2 + 1, none⟩ = some (.int .i64 (L2 : Nat))) (by kernel_rfl) (HS0.out) (fun hHeld => ?_)
            refine wpAnyH_take (i := 0) (v := ?v2_0) rfl (by kernel_rfl) (by kernel_rfl) (by kernel_rfl) (fun _ _ _ h => h) (Or.inl ⟨by kernel_rfl, ?y2_0⟩) (by assumption) ?r2_0
            case y2_0 => (intro W hSW; (try dsimp only at hSW); go_simp; (try with_reducible rfl))
            change wpAnyH _ _ _ _ _ _ _ (Act.put _ (some 155) _) _
            (try simp only [Act.put, List.setIfInBounds_toArray, List.set_cons_zero, List.set_cons_succ])
            refine wpAnyH_take (i := 1) (v := ?v2_1) rfl (by kernel_rfl) (by kernel_rfl) (by kernel_rfl) (fun _ _ _ h => h) (Or.inl ⟨by kernel_rfl, ?y2_1⟩) (by assumption) ?r2_1
            case y2_1 => (intro W hSW; (try dsimp only at hSW); go_simp; (try with_reducible rfl))
            change wpAnyH _ _ _ _ _ _ _ (Act.put _ (some 156) _) _
            (try simp only [Act.put, List.setIfInBounds_toArray, List.set_cons_zero, List.set_cons_succ])
            refine wpAnyH_take (i := 2) (v := ?v2_2) rfl (by kernel_rfl) (by kernel_rfl) (by kernel_rfl) (fun _ _ _ h => h) (Or.inl ⟨by kernel_rfl, ?y2_2⟩) (by assumption) ?r2_2
            case y2_2 => (intro W hSW; (try dsimp only at hSW); go_simp; (try with_reducible rfl))
            change wpAnyH _ _ _ _ _ _ _ (Act.put _ (some 157) _) _
            (try simp only [Act.put, List.setIfInBounds_toArray, List.set_cons_zero, List.set_cons_succ])
            refine wpAnyH_take (i := 3) (v := ?v2_3) rfl (by kernel_rfl) (by kernel_rfl) (by kernel_rfl) (fun _ _ _ h => h) (Or.inl ⟨by kernel_rfl, ?y2_3⟩) (by assumption) ?r2_3
            case y2_3 => (intro W hSW; (try dsimp only at hSW); go_simp; (try with_reducible rfl))
            change wpAnyH _ _ _ _ _ _ _ (Act.put _ (some 158) _) _
            (try simp only [Act.put, List.setIfInBounds_toArray, List.set_cons_zero, List.set_cons_succ])
            refine wpAnyH_take (i := 4) (v := ?v2_4) rfl (by kernel_rfl) (by kernel_rfl) (by kernel_rfl) (fun _ _ _ h => h) (Or.inl ⟨by kernel_rfl, ?y2_4⟩) (by assumption) ?r2_4
            case y2_4 => (intro W hSW; (try dsimp only at hSW); go_simp; (try with_reducible rfl))
            change wpAnyH _ _ _ _ _ _ _ (Act.put _ (some 159) _) _
            (try simp only [Act.put, List.setIfInBounds_toArray, List.set_cons_zero, List.set_cons_succ])
            refine wpAnyH_take (i := 5) (v := ?v2_5) rfl (by kernel_rfl) (by kernel_rfl) (by kernel_rfl) (fun _ _ _ h => h) (Or.inl ⟨by kernel_rfl, ?y2_5⟩) (by assumption) ?r2_5
            case y2_5 => (intro W hSW; (try dsimp only at hSW); go_simp; (try with_reducible rfl))
            change wpAnyH _ _ _ _ _ _ _ (Act.put _ (some 160) _) _
            (try simp only [Act.put, List.setIfInBounds_toArray, List.set_cons_zero, List.set_cons_succ])
            refine wpAnyH_take (i := 6) (v := ?v2_6) rfl (by kernel_rfl) (by kernel_rfl) (by kernel_rfl) (fun _ _ _ h => h) (Or.inl ⟨by kernel_rfl, ?y2_6⟩) (by assumption) ?r2_6
            case y2_6 => (intro W hSW; (try dsimp only at hSW); go_simp; (try with_reducible rfl))
            change wpAnyH _ _ _ _ _ _ _ (Act.put _ (some 161) _) _
            (try simp only [Act.put, List.setIfInBounds_toArray, List.set_cons_zero, List.set_cons_succ])
            refine wpAnyH_take (i := 7) (v := ?v2_7) rfl (by kernel_rfl) (by kernel_rfl) (by kernel_rfl) (fun _ _ _ h => h) (Or.inl ⟨by kernel_rfl, ?y2_7⟩) (by assumption) ?r2_7
            case y2_7 => (intro W hSW; (try dsimp only at hSW); go_simp; (try with_reducible rfl))
            change wpAnyH _ _ _ _ _ _ _ (Act.put _ (some 162) _) _
            (try simp only [Act.put, List.setIfInBounds_toArray, List.set_cons_zero, List.set_cons_succ])
            refine wpAnyH_take (i := 8) (v := ?v2_8) rfl (by kernel_rfl) (by kernel_rfl) (by kernel_rfl) (fun _ _ _ h => h) (Or.inl ⟨by kernel_rfl, ?y2_8⟩) (by assumption) ?r2_8
            case y2_8 => (intro W hSW; (try dsimp only at hSW); go_simp; (try with_reducible rfl))
            change wpAnyH _ _ _ _ _ _ _ (Act.put _ (some 163) _) _
            (try simp only [Act.put, List.setIfInBounds_toArray, List.set_cons_zero, List.set_cons_succ])
            refine wpAnyH_take (i := 9) (v := ?v2_9) rfl (by kernel_rfl) (by kernel_rfl) (by kernel_rfl) (fun _ _ _ h => h) (Or.inl ⟨by kernel_rfl, ?y2_9⟩) (by assumption) ?r2_9
            case y2_9 => (intro W hSW; (try dsimp only at hSW); go_simp; (try with_reducible rfl))
            change wpAnyH _ _ _ _ _ _ _ (Act.put _ (some 164) _) _
            (try simp only [Act.put, List.setIfInBounds_toArray, List.set_cons_zero, List.set_cons_succ])
            refine wpAnyH_take (i := 10) (v := ?v2_10) rfl (by kernel_rfl) (by kernel_rfl) (by kernel_rfl) (fun _ _ _ h => h) (Or.inl ⟨by kernel_rfl, ?y2_10⟩) (by assumption) ?r2_10
            case y2_10 => (intro W hSW; (try dsimp only at hSW); go_simp; (try with_reducible rfl))
            change wpAnyH _ _ _ _ _ _ _ (Act.put _ (some 165) _) _
            (try simp only [Act.put, List.setIfInBounds_toArray, List.set_cons_zero, List.set_cons_succ])
            refine wpAnyH_take (i := 11) (v := ?v2_11) rfl (by kernel_rfl) (by kernel_rfl) (by kernel_rfl) (fun _ _ _ h => h) (Or.inl ⟨by kernel_rfl, ?y2_11⟩) (by assumption) ?r2_11
            case y2_11 => (intro W hSW; (try dsimp only at hSW); go_simp; (try with_reducible rfl))
            change wpAnyH _ _ _ _ _ _ _ (Act.put _ (some 166) _) _
            (try simp only [Act.put, List.setIfInBounds_toArray, List.set_cons_zero, List.set_cons_succ])
            refine wpAnyH_take (i := 12) (v := ?v2_12) rfl (by kernel_rfl) (by kernel_rfl) (by kernel_rfl) (fun _ _ _ h => h) (Or.inl ⟨by kernel_rfl, ?y2_12⟩) (by assumption) ?r2_12
            case y2_12 => (intro W hSW; (try dsimp only at hSW); go_simp; (try with_reducible rfl))
            change wpAnyH _ _ _ _ _ _ _ (Act.put _ (some 167) _) _
            (try simp only [Act.put, List.setIfInBounds_toArray, List.set_cons_zero, List.set_cons_succ])
            refine wpAnyH_take (i := 13) (v := ?v2_13) rfl (by kernel_rfl) (by kernel_rfl) (by kernel_rfl) (fun _ _ _ h => h) (Or.inl ⟨by kernel_rfl, ?y2_13⟩) (by assumption) ?r2_13
            case y2_13 => (intro W hSW; (try dsimp only at hSW); go_simp; (try with_reducible rfl))
            change wpAnyH _ _ _ _ _ _ _ (Act.put _ (some 24) _) _
            (try simp only [Act.put, List.setIfInBounds_toArray, List.set_cons_zero, List.set_cons_succ])
            refine wpAnyH_done (by kernel_rfl) ?_ _
            rw [HW2.out, HW4.out]
            have HB7 := hide (below_drew HB6.out)
            generalize w6.drew = w7 at *
            go_wp2_with fail
            go_roundw
            case rel =>
              first
              | exact ⟨j + 1, by omega, by go_num, by rw [HQ1.out]; rfl, by rw [HQ2.out]; rfl, HB7.out⟩
              | (repeat apply Exists.intro); exact ⟨⟨j + 1, by omega, by go_num, by rw [HQ1.out]; rfl, by rw [HQ2.out]; rfl, HB7.out⟩, rfl⟩
            case measure => simp [intOf]; omega
          · obtain rfl : j = M := by omega
            rw [show G1.take j = G1 from by rw [HM1.out, List.take_length], show G2.take j = G2 from by rw [HM2.out, List.take_length], HSq.out]
            generalize sumQ G1 = sq at *
            have HBx := hide (HD4.out.trans (hb5.mono HD4.out.size))
            clear hb5
            go_wp2_with fail
            go_loopw [26] (fun iv wx => ∃ i : Nat, 1 ≤ i ∧ i ≤ k + 1 ∧ iv = .int .i64 i ∧ Below wr.heap.size wr wx) (fun iv _ => k + 1 - (intOf iv).toNat)
            case atStart => exact ⟨1, by omega, by omega, rfl, HBx.out⟩
            case round =>
              rename World => W0
              obtain ⟨i, hi1, hi2, rfl, hb6⟩ := hrel
              have HB6 := hide hb6
              by_cases hil : i < k
              · have hil' : i < l.length := by rw [← HN.out]; exact hil
                have h0l' : 0 < l.length := by omega
                have hk0 : 0 < k := by omega
                have hAl := HI.out W0 (HBw.out.trans (hb6.mono hbr0))
                obtain ⟨lb, lo, rfl, hlb, c0, c1⟩ := hAl.at h0l'
                obtain ⟨lb', lo', e, _, c2, c3⟩ := hAl.at hil'
                cases e
                have hAm := HAr2.out W0 hb6
                have hlm : (toI (turnL m s l)).length = l.length := by rw [toI_len]; unfold turnL; rw [List.length_map, List.length_map]
                obtain ⟨qb, qo, rfl, hqb, d0, d1⟩ := hAm.at (k := 0) (by omega)
                obtain ⟨qb', qo', e, _, d2, d3⟩ := hAm.at (k := i) (by omega)
                cases e
                have hlt : (turnL m s l).length = l.length := by unfold turnL; rw [List.length_map, List.length_map]
                rw [toI_get _ _ (by omega), turn_get h0l'] at d0 d1
                rw [toI_get _ _ (by omega), turn_get hil'] at d2 d3
                have hm0l := mem_at h0l'
                have hmil := mem_at hil'
                have hmeet := HMt.out _ hm0l _ hmil
                have hok0 := HOk.out _ hm0l
                have hoki := HOk.out _ hmil
                have hot0 := okB_of (ok_turn (s := s) (okB_t hok0).1)
                have hoti := okB_of (ok_turn (s := s) (okB_t hoki).1)
                have HM1' := hide (fun V => Meet_at (l.getD 0 (0, 0)) (l.getD i (0, 0)) m V)
                rw [meetV_ok hm0 hm1 hok0 hoki] at HM1'
                generalize tnA m s (tA (l.getD 0 (0, 0))) = t0 at *
                generalize tnA m s (tA (l.getD i (0, 0))) = t1 at *
                generalize meetB m (tA (l.getD 0 (0, 0))) (tA (l.getD i (0, 0))) = mb at *
                generalize l.getD 0 (0, 0) = y0 at *
                generalize l.getD i (0, 0) = y1 at *
                obtain ⟨f0, g0⟩ := y0
                obtain ⟨f1, g1⟩ := y1
                obtain ⟨F0, E0⟩ := t0
                obtain ⟨F1, E1⟩ := t1
                dsimp only at c0 c1 c2 c3 d0 d1 d2 d3 hot0 hoti
                have HM2' := hide (fun V => Meet_at ((F0 : Int), (E0 : Int)) ((F1 : Int), (E1 : Int)) m V)
                rw [meetV_ok hm0 hm1 hot0 hoti, show tA ((F0 : Int), (E0 : Int)) = (F0, E0) from tA_cast (F0, E0), show tA ((F1 : Int), (E1 : Int)) = (F1, E1) from tA_cast (F1, E1), hmeet] at HM2'
                rw [Nat.zero_mul, Nat.add_zero] at c0 c1 d0 d1
                have HD := hide (And.intro d0 (And.intro d1 (And.intro d2 d3)))
                have HS0 : Hid ((fun w' => w'.cell? ⟨lb, lo, none⟩ = some (.int .i64 f0) ∧ w'.cell? ⟨lb, lo + 1, none⟩ = some (.int .i64 g0) ∧ w'.cell? ⟨lb, lo + i * 2, none⟩ = some (.int .i64 f1) ∧ w'.cell? ⟨lb, lo + i * 2 + 1, none⟩ = some (.int .i64 g1) ∧ Below W0.heap.size W0 w') W0.drew) := ⟨c0, c1, c2, c3, below_drew (Below.refl _ W0)⟩
                have HKp : Hid (∀ (V V' : World), (fun w' => w'.cell? ⟨lb, lo, none⟩ = some (.int .i64 f0) ∧ w'.cell? ⟨lb, lo + 1, none⟩ = some (.int .i64 g0) ∧ w'.cell? ⟨lb, lo + i * 2, none⟩ = some (.int .i64 f1) ∧ w'.cell? ⟨lb, lo + i * 2 + 1, none⟩ = some (.int .i64 g1) ∧ Below W0.heap.size W0 w') V → Below V.heap.size V V' → (fun w' => w'.cell? ⟨lb, lo, none⟩ = some (.int .i64 f0) ∧ w'.cell? ⟨lb, lo + 1, none⟩ = some (.int .i64 g0) ∧ w'.cell? ⟨lb, lo + i * 2, none⟩ = some (.int .i64 f1) ∧ w'.cell? ⟨lb, lo + i * 2 + 1, none⟩ = some (.int .i64 g1) ∧ Below W0.heap.size W0 w') V') := fun V V' h hb => Tc.on (x := (f0, g0)) (y := (f1, g1)) h hb
                clear hAl hAm hlm hlt hm0l hmil hmeet hok0 hoki hot0 hoti d0 d1 d2 d3 hb6 hil' h0l'
                go_wp2_with fail
                refine wp_region_held_drew (S := fun w' => w'.cell? ⟨lb, lo, none⟩ = some (.int .i64 f0) ∧ w'.cell? ⟨lb, lo + 1, none⟩ = some (.int .i64 g0) ∧ w'.cell? ⟨lb, lo + i * 2, none⟩ = some (.int .i64 f1) ∧ w'.cell? ⟨lb, lo + i * 2 + 1, none⟩ = some (.int .i64 g1) ∧ Below W0.heap.size W0 w') (by kernel_rfl) (by (first | exact HKp.out _ _ hHeld hb1 | exact HS0.out)) (fun hHeld => ?_)
                refine wpAnyH_take (i := 0) (v := ?v3_0) rfl (by kernel_rfl) (by kernel_rfl) (by kernel_rfl) (fun _ _ _ h => h) (Or.inl ⟨by kernel_rfl, ?y3_0⟩) (by assumption) ?r3_0
                case y3_0 => (intro W hSW; (try dsimp only at hSW); go_simp; (try with_reducible rfl))
                change wpAnyH _ _ _ _ _ _ _ (Act.put _ (some 176) _) _
                (try simp only [Act.put, List.setIfInBounds_toArray, List.set_cons_zero, List.set_cons_succ])
                refine wpAnyH_take (i := 1) (v := ?v3_1) rfl (by kernel_rfl) (by kernel_rfl) (by kernel_rfl) (fun _ _ _ h => h) (Or.inl ⟨by kernel_rfl, ?y3_1⟩) (by assumption) ?r3_1
                case y3_1 => (intro W hSW; (try dsimp only at hSW); go_simp; (try with_reducible rfl))
                change wpAnyH _ _ _ _ _ _ _ (Act.put _ (some 177) _) _
                (try simp only [Act.put, List.setIfInBounds_toArray, List.set_cons_zero, List.set_cons_succ])
                refine wpAnyH_take (i := 2) (v := ?v3_2) rfl (by kernel_rfl) (by kernel_rfl) (by kernel_rfl) (fun _ _ _ h => h) (Or.inl ⟨by kernel_rfl, ?y3_2⟩) (by assumption) ?r3_2
                case y3_2 => (intro W hSW; (try dsimp only at hSW); go_simp; (try with_reducible rfl))
                change wpAnyH _ _ _ _ _ _ _ (Act.put _ (some 178) _) _
                (try simp only [Act.put, List.setIfInBounds_toArray, List.set_cons_zero, List.set_cons_succ])
                refine wpAnyH_take (i := 3) (v := ?v3_3) rfl (by kernel_rfl) (by kernel_rfl) (by kernel_rfl) (fun _ _ _ h => h) (Or.inl ⟨by kernel_rfl, ?y3_3⟩) (by assumption) ?r3_3
                case y3_3 => (intro W hSW; (try dsimp only at hSW); go_simp; (try with_reducible rfl))
                change wpAnyH _ _ _ _ _ _ _ (Act.put _ (some 179) _) _
                (try simp only [Act.put, List.setIfInBounds_toArray, List.set_cons_zero, List.set_cons_succ])
                refine wpAnyH_take (i := 4) (v := ?v3_4) rfl (by kernel_rfl) (by kernel_rfl) (by kernel_rfl) (fun _ _ _ h => h) (Or.inl ⟨by kernel_rfl, ?y3_4⟩) (by assumption) ?r3_4
                case y3_4 => (intro W hSW; (try dsimp only at hSW); go_simp; (try with_reducible rfl))
                change wpAnyH _ _ _ _ _ _ _ (Act.put _ (some 180) _) _
                (try simp only [Act.put, List.setIfInBounds_toArray, List.set_cons_zero, List.set_cons_succ])
                refine wpAnyH_take (i := 5) (v := ?v3_5) rfl (by kernel_rfl) (by kernel_rfl) (by kernel_rfl) (fun _ _ _ h => h) (Or.inl ⟨by kernel_rfl, ?y3_5⟩) (by assumption) ?r3_5
                case y3_5 => (intro W hSW; (try dsimp only at hSW); go_simp; (try with_reducible rfl))
                change wpAnyH _ _ _ _ _ _ _ (Act.put _ (some 181) _) _
                (try simp only [Act.put, List.setIfInBounds_toArray, List.set_cons_zero, List.set_cons_succ])
                refine wpAnyH_take (i := 6) (v := ?v3_6) rfl (by kernel_rfl) (by kernel_rfl) (by kernel_rfl) (fun _ _ _ h => h) (Or.inl ⟨by kernel_rfl, ?y3_6⟩) (by assumption) ?r3_6
                case y3_6 => (intro W hSW; (try dsimp only at hSW); go_simp; (try with_reducible rfl))
                change wpAnyH _ _ _ _ _ _ _ (Act.put _ (some 182) _) _
                (try simp only [Act.put, List.setIfInBounds_toArray, List.set_cons_zero, List.set_cons_succ])
                refine wpAnyH_take (i := 7) (v := ?v3_7) rfl (by kernel_rfl) (by kernel_rfl) (by kernel_rfl) (fun _ _ _ h => h) (Or.inl ⟨by kernel_rfl, ?y3_7⟩) (by assumption) ?r3_7
                case y3_7 => (intro W hSW; (try dsimp only at hSW); go_simp; (try with_reducible rfl))
                change wpAnyH _ _ _ _ _ _ _ (Act.put _ (some 183) _) _
                (try simp only [Act.put, List.setIfInBounds_toArray, List.set_cons_zero, List.set_cons_succ])
                refine wpAnyH_ready (rs := [8]) (by kernel_rfl) (by simp) ?_
                refine AllReadyH.cons rfl (fun K hK => ?_) AllReadyH.nil
                rw [if_pos (by rfl)]
                go_simp
                refine (HM1'.out _).mono ?_
                rintro e w8 ⟨rfl, hb1⟩
                go_simp
                refine hK.out _ _ (by (first | exact HKp.out _ _ hHeld hb1 | exact HS0.out)) (fun hHeld => ?_)
                clear hK K
                (try simp only [Act.put, List.setIfInBounds_toArray, List.set_cons_zero, List.set_cons_succ])
                refine wpAnyH_take (i := 9) (v := ?v3_9) rfl (by kernel_rfl) (by kernel_rfl) (by kernel_rfl) (fun _ _ _ h => h) (Or.inl ⟨by kernel_rfl, ?y3_9⟩) (by assumption) ?r3_9
                case y3_9 => (intro W hSW; (try dsimp only at hSW); go_simp; (try with_reducible rfl))
                change wpAnyH _ _ _ _ _ _ _ (Act.put _ (some 175) _) _
                (try simp only [Act.put, List.setIfInBounds_toArray, List.set_cons_zero, List.set_cons_succ])
                refine wpAnyH_take (i := 10) (v := ?v3_10) rfl (by kernel_rfl) (by kernel_rfl) (by kernel_rfl) (fun _ _ _ h => h) (Or.inl ⟨by kernel_rfl, ?y3_10⟩) (by assumption) ?r3_10
                case y3_10 => (intro W hSW; (try dsimp only at hSW); go_simp; (try with_reducible rfl))
                change wpAnyH _ _ _ _ _ _ _ (Act.put _ (some 185) _) _
                (try simp only [Act.put, List.setIfInBounds_toArray, List.set_cons_zero, List.set_cons_succ])
                refine wpAnyH_take (i := 11) (v := ?v3_11) rfl (by kernel_rfl) (by kernel_rfl) (by kernel_rfl) (fun _ _ _ h => h) (Or.inl ⟨by kernel_rfl, ?y3_11⟩) (by assumption) ?r3_11
                case y3_11 => (intro W hSW; (try dsimp only at hSW); go_simp; (try with_reducible rfl))
                change wpAnyH _ _ _ _ _ _ _ (Act.put _ (some 186) _) _
                (try simp only [Act.put, List.setIfInBounds_toArray, List.set_cons_zero, List.set_cons_succ])
                refine wpAnyH_take (i := 12) (v := ?v3_12) rfl (by kernel_rfl) (by kernel_rfl) (by kernel_rfl) (fun _ _ _ h => h) (Or.inl ⟨by kernel_rfl, ?y3_12⟩) (by assumption) ?r3_12
                case y3_12 => (intro W hSW; (try dsimp only at hSW); go_simp; (try with_reducible rfl))
                change wpAnyH _ _ _ _ _ _ _ (Act.put _ (some 27) _) _
                (try simp only [Act.put, List.setIfInBounds_toArray, List.set_cons_zero, List.set_cons_succ])
                refine wpAnyH_take (i := 13) (v := ?v3_13) rfl (by kernel_rfl) (by kernel_rfl) (by kernel_rfl) (fun _ _ _ h => h) (Or.inl ⟨by kernel_rfl, ?y3_13⟩) (by assumption) ?r3_13
                case y3_13 => (intro W hSW; (try dsimp only at hSW); go_simp; (try with_reducible rfl))
                change wpAnyH _ _ _ _ _ _ _ (Act.put _ (some 28) _) _
                (try simp only [Act.put, List.setIfInBounds_toArray, List.set_cons_zero, List.set_cons_succ])
                refine wpAnyH_done (by kernel_rfl) ?_ _
                obtain ⟨_, _, _, _, hbw8⟩ := hHeld
                have HB8 := hide hbw8
                clear HS0 HKp hbw8 hb1 c0 c1 c2 c3
                have HS0 : Hid ((fun w' => w'.cell? ⟨qb, qo, none⟩ = some (.int .i64 (F0 : Nat)) ∧ w'.cell? ⟨qb, qo + 1, none⟩ = some (.int .i64 (E0 : Nat)) ∧ w'.cell? ⟨qb, qo + i * 2, none⟩ = some (.int .i64 (F1 : Nat)) ∧ w'.cell? ⟨qb, qo + i * 2 + 1, none⟩ = some (.int .i64 (E1 : Nat)) ∧ Below W0.heap.size W0 w') w8.drew) := ⟨keep_cell (HB8.out.trans ((below_drew (Below.refl _ w8)).mono HB8.out.size)) HD.out.1, keep_cell (HB8.out.trans ((below_drew (Below.refl _ w8)).mono HB8.out.size)) HD.out.2.1, keep_cell (HB8.out.trans ((below_drew (Below.refl _ w8)).mono HB8.out.size)) HD.out.2.2.1, keep_cell (HB8.out.trans ((below_drew (Below.refl _ w8)).mono HB8.out.size)) HD.out.2.2.2, HB8.out.trans ((below_drew (Below.refl _ w8)).mono HB8.out.size)⟩
                have HKp : Hid (∀ (V V' : World), (fun w' => w'.cell? ⟨qb, qo, none⟩ = some (.int .i64 (F0 : Nat)) ∧ w'.cell? ⟨qb, qo + 1, none⟩ = some (.int .i64 (E0 : Nat)) ∧ w'.cell? ⟨qb, qo + i * 2, none⟩ = some (.int .i64 (F1 : Nat)) ∧ w'.cell? ⟨qb, qo + i * 2 + 1, none⟩ = some (.int .i64 (E1 : Nat)) ∧ Below W0.heap.size W0 w') V → Below V.heap.size V V' → (fun w' => w'.cell? ⟨qb, qo, none⟩ = some (.int .i64 (F0 : Nat)) ∧ w'.cell? ⟨qb, qo + 1, none⟩ = some (.int .i64 (E0 : Nat)) ∧ w'.cell? ⟨qb, qo + i * 2, none⟩ = some (.int .i64 (F1 : Nat)) ∧ w'.cell? ⟨qb, qo + i * 2 + 1, none⟩ = some (.int .i64 (E1 : Nat)) ∧ Below W0.heap.size W0 w') V') := fun V V' h hb => Tc.on (x := ((F0 : Int), (E0 : Int))) (y := ((F1 : Int), (E1 : Int))) h hb
                go_wp2_with fail
                refine wp_region_held_drew (S := fun w' => w'.cell? ⟨qb, qo, none⟩ = some (.int .i64 (F0 : Nat)) ∧ w'.cell? ⟨qb, qo + 1, none⟩ = some (.int .i64 (E0 : Nat)) ∧ w'.cell? ⟨qb, qo + i * 2, none⟩ = some (.int .i64 (F1 : Nat)) ∧ w'.cell? ⟨qb, qo + i * 2 + 1, none⟩ = some (.int .i64 (E1 : Nat)) ∧ Below W0.heap.size W0 w') (by kernel_rfl) (by (first | exact HKp.out _ _ hHeld hb1 | exact HS0.out)) (fun hHeld => ?_)
                refine wpAnyH_take (i := 0) (v := ?v4_0) rfl (by kernel_rfl) (by kernel_rfl) (by kernel_rfl) (fun _ _ _ h => h) (Or.inl ⟨by kernel_rfl, ?y4_0⟩) (by assumption) ?r4_0
                case y4_0 => (intro W hSW; (try dsimp only at hSW); go_simp; (try with_reducible rfl))
                change wpAnyH _ _ _ _ _ _ _ (Act.put _ (some 188) _) _
                (try simp only [Act.put, List.setIfInBounds_toArray, List.set_cons_zero, List.set_cons_succ])
                refine wpAnyH_take (i := 1) (v := ?v4_1) rfl (by kernel_rfl) (by kernel_rfl) (by kernel_rfl) (fun _ _ _ h => h) (Or.inl ⟨by kernel_rfl, ?y4_1⟩) (by assumption) ?r4_1
                case y4_1 => (intro W hSW; (try dsimp only at hSW); go_simp; (try with_reducible rfl))
                change wpAnyH _ _ _ _ _ _ _ (Act.put _ (some 189) _) _
                (try simp only [Act.put, List.setIfInBounds_toArray, List.set_cons_zero, List.set_cons_succ])
                refine wpAnyH_take (i := 2) (v := ?v4_2) rfl (by kernel_rfl) (by kernel_rfl) (by kernel_rfl) (fun _ _ _ h => h) (Or.inl ⟨by kernel_rfl, ?y4_2⟩) (by assumption) ?r4_2
                case y4_2 => (intro W hSW; (try dsimp only at hSW); go_simp; (try with_reducible rfl))
                change wpAnyH _ _ _ _ _ _ _ (Act.put _ (some 190) _) _
                (try simp only [Act.put, List.setIfInBounds_toArray, List.set_cons_zero, List.set_cons_succ])
                refine wpAnyH_take (i := 3) (v := ?v4_3) rfl (by kernel_rfl) (by kernel_rfl) (by kernel_rfl) (fun _ _ _ h => h) (Or.inl ⟨by kernel_rfl, ?y4_3⟩) (by assumption) ?r4_3
                case y4_3 => (intro W hSW; (try dsimp only at hSW); go_simp; (try with_reducible rfl))
                change wpAnyH _ _ _ _ _ _ _ (Act.put _ (some 191) _) _
                (try simp only [Act.put, List.setIfInBounds_toArray, List.set_cons_zero, List.set_cons_succ])
                refine wpAnyH_take (i := 4) (v := ?v4_4) rfl (by kernel_rfl) (by kernel_rfl) (by kernel_rfl) (fun _ _ _ h => h) (Or.inl ⟨by kernel_rfl, ?y4_4⟩) (by assumption) ?r4_4
                case y4_4 => (intro W hSW; (try dsimp only at hSW); go_simp; (try with_reducible rfl))
                change wpAnyH _ _ _ _ _ _ _ (Act.put _ (some 192) _) _
                (try simp only [Act.put, List.setIfInBounds_toArray, List.set_cons_zero, List.set_cons_succ])
                refine wpAnyH_take (i := 5) (v := ?v4_5) rfl (by kernel_rfl) (by kernel_rfl) (by kernel_rfl) (fun _ _ _ h => h) (Or.inl ⟨by kernel_rfl, ?y4_5⟩) (by assumption) ?r4_5
                case y4_5 => (intro W hSW; (try dsimp only at hSW); go_simp; (try with_reducible rfl))
                change wpAnyH _ _ _ _ _ _ _ (Act.put _ (some 193) _) _
                (try simp only [Act.put, List.setIfInBounds_toArray, List.set_cons_zero, List.set_cons_succ])
                refine wpAnyH_take (i := 6) (v := ?v4_6) rfl (by kernel_rfl) (by kernel_rfl) (by kernel_rfl) (fun _ _ _ h => h) (Or.inl ⟨by kernel_rfl, ?y4_6⟩) (by assumption) ?r4_6
                case y4_6 => (intro W hSW; (try dsimp only at hSW); go_simp; (try with_reducible rfl))
                change wpAnyH _ _ _ _ _ _ _ (Act.put _ (some 194) _) _
                (try simp only [Act.put, List.setIfInBounds_toArray, List.set_cons_zero, List.set_cons_succ])
                refine wpAnyH_take (i := 7) (v := ?v4_7) rfl (by kernel_rfl) (by kernel_rfl) (by kernel_rfl) (fun _ _ _ h => h) (Or.inl ⟨by kernel_rfl, ?y4_7⟩) (by assumption) ?r4_7
                case y4_7 => (intro W hSW; (try dsimp only at hSW); go_simp; (try with_reducible rfl))
                change wpAnyH _ _ _ _ _ _ _ (Act.put _ (some 195) _) _
                (try simp only [Act.put, List.setIfInBounds_toArray, List.set_cons_zero, List.set_cons_succ])
                refine wpAnyH_ready (rs := [8]) (by kernel_rfl) (by simp) ?_
                refine AllReadyH.cons rfl (fun K hK => ?_) AllReadyH.nil
                rw [if_pos (by rfl)]
                go_simp
                refine (HM2'.out _).mono ?_
                rintro e w9 ⟨rfl, hb1⟩
                go_simp
                refine hK.out _ _ (by (first | exact HKp.out _ _ hHeld hb1 | exact HS0.out)) (fun hHeld => ?_)
                clear hK K
                (try simp only [Act.put, List.setIfInBounds_toArray, List.set_cons_zero, List.set_cons_succ])
                refine wpAnyH_take (i := 9) (v := ?v4_9) rfl (by kernel_rfl) (by kernel_rfl) (by kernel_rfl) (fun _ _ _ h => h) (Or.inl ⟨by kernel_rfl, ?y4_9⟩) (by assumption) ?r4_9
                case y4_9 => (intro W hSW; (try dsimp only at hSW); go_simp; (try with_reducible rfl))
                change wpAnyH _ _ _ _ _ _ _ (Act.put _ (some 187) _) _
                (try simp only [Act.put, List.setIfInBounds_toArray, List.set_cons_zero, List.set_cons_succ])
                refine wpAnyH_take (i := 10) (v := ?v4_10) rfl (by kernel_rfl) (by kernel_rfl) (by kernel_rfl) (fun _ _ _ h => h) (Or.inl ⟨by kernel_rfl, ?y4_10⟩) (by assumption) ?r4_10
                case y4_10 => (intro W hSW; (try dsimp only at hSW); go_simp; (try with_reducible rfl))
                change wpAnyH _ _ _ _ _ _ _ (Act.put _ (some 197) _) _
                (try simp only [Act.put, List.setIfInBounds_toArray, List.set_cons_zero, List.set_cons_succ])
                refine wpAnyH_take (i := 11) (v := ?v4_11) rfl (by kernel_rfl) (by kernel_rfl) (by kernel_rfl) (fun _ _ _ h => h) (Or.inl ⟨by kernel_rfl, ?y4_11⟩) (by assumption) ?r4_11
                case y4_11 => (intro W hSW; (try dsimp only at hSW); go_simp; (try with_reducible rfl))
                change wpAnyH _ _ _ _ _ _ _ (Act.put _ (some 198) _) _
                (try simp only [Act.put, List.setIfInBounds_toArray, List.set_cons_zero, List.set_cons_succ])
                refine wpAnyH_take (i := 12) (v := ?v4_12) rfl (by kernel_rfl) (by kernel_rfl) (by kernel_rfl) (fun _ _ _ h => h) (Or.inl ⟨by kernel_rfl, ?y4_12⟩) (by assumption) ?r4_12
                case y4_12 => (intro W hSW; (try dsimp only at hSW); go_simp; (try with_reducible rfl))
                change wpAnyH _ _ _ _ _ _ _ (Act.put _ (some 29) _) _
                (try simp only [Act.put, List.setIfInBounds_toArray, List.set_cons_zero, List.set_cons_succ])
                refine wpAnyH_take (i := 13) (v := ?v4_13) rfl (by kernel_rfl) (by kernel_rfl) (by kernel_rfl) (fun _ _ _ h => h) (Or.inl ⟨by kernel_rfl, ?y4_13⟩) (by assumption) ?r4_13
                case y4_13 => (intro W hSW; (try dsimp only at hSW); go_simp; (try with_reducible rfl))
                change wpAnyH _ _ _ _ _ _ _ (Act.put _ (some 30) _) _
                (try simp only [Act.put, List.setIfInBounds_toArray, List.set_cons_zero, List.set_cons_succ])
                refine wpAnyH_done (by kernel_rfl) ?_ _
                obtain ⟨_, _, _, _, hbw9⟩ := hHeld
                have HB9 := hide (HB6.out.trans (hbw9.mono HB6.out.size))
                clear HS0 HKp hbw9 hb1
                cases mb with
                | true =>
                  go_wp2_with fail
                  exact ⟨⟨i + 1, by omega, by omega, by go_num, HB9.out⟩, by simp [intOf]; omega⟩
                | false =>
                  go_wp2_with fail
                  exact ⟨⟨i + 1, by omega, by omega, by go_num, HB9.out⟩, by simp [intOf]; omega⟩
              · have HBf := hide (HBw.out.trans (hb6.mono hbr0))
                clear hb6
                go_wp2_with fail
                go_ret
                exact ⟨by simp, HBf.out⟩
end Go.Proofs.Ytmplioglihmkjaa
