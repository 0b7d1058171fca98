/-
  VlinkBack's walk.
-/
import Derived.Test.YtdfpeilflinmhaaDoorVlU
import Derived.Test.YtdfpeilflinmhaaDoorGreat
namespace Go.Proofs.YtdfpeilflinmhaaDoor
open Go.RowKit Go.Deep
set_option linter.unusedVariables false
set_option linter.unusedSimpArgs false

/-- bytes of a message that was told, as a string -/
theorem msg_str {W : World} {base : Nat} {A : Option Addr} {n m : Nat} {yes : Bool} {l : List Nat} (h : MsgAt W base (.slice A n m) yes l) :
    (convert 53 9 (.slice A n m)).run Tryd.prog W = .ok (.string (str (if yes then l else []))) W := by
  rcases h with ⟨rfl, h⟩ | ⟨rfl, g, c, h, ho⟩
  · cases h
    simp only [Bool.false_eq_true, if_false]
    exact str_of W none 0 0 [] ⟨by simp, .inl rfl⟩ rfl
  · cases h
    simp only [if_true]
    exact str_of W _ _ _ l ho.bytes rfl
theorem asks_first {w W : World} {xa m : Nat} {A : Option Addr} {n : Nat} (hb : Below w.heap.size w W) (hx : W.heap[xa]? = some (.cells #[.slice A n m, .slice none 0 0] 37 (0, 0))) :
    AsH w xa A n m [] (fun j => j < w.heap.size ∨ j = xa ∨ (Value.slice none 0 0).ownBlock = some j) W :=
  ⟨fun j hj => hb.block j hj, hb.size, _, hx, ⟨rfl, .inl ⟨rfl, rfl⟩⟩, fun j => Iff.rfl⟩

set_option maxRecDepth 100000 in
set_option maxHeartbeats 8000000 in
theorem back_walk (c : Conf) (d : Ad) (node : Int) (hnode : I64 node) (A : Option Addr) (m : Nat) (L : List Ms) (hL : L.length ≤ 9223372036854775807) (w : World) (hg : Glo w) (h : ConfAt w c d) (hM : MsAt w A L)
    (hal : ∀ W, Below w.heap.size w W → Calls Tryd.prog 12 #[] W fun e w' => e = .returned (.bool true) ∧ Below W.heap.size W w') :
    Calls Tryd.prog 3 #[c.val d, .int .i64 node, .slice A L.length m] w fun e w' => e = .returned (.bool true) ∧ Below w.heap.size w w' := by
  have hS := CfS.first 28 hg h
  have HC := hide (fun W (H : CfS w W c d) => check_any c d W H.g H.cf)
  have HGr := hide (fun W (H : CfS w W c d) => great_some c d W H.cf)
  have HAL := hide (fun W (H : CfS w W c d) => hal W H.bel)
  have HGl := hide (fun W (H : CfS w W c d) => greatl_at A m L W (hM.of_below H.bel (Nat.le_refl _)) hL)
  have HPk := hide (fun W (H : CfS w W c d) (hc0 : checkF c = 0) (hok : okN c node) xa (hxa : w.heap.size < xa) (hxl : xa < W.heap.size) (hx : W.heap[xa]? = some (.cells #[.slice A L.length m, .slice none 0 0] 37 (0, 0))) =>
    pack_at c d node hnode W H.g H.cf hc0 hok w.heap.size H.bel.size xa (fun j => j < w.heap.size ∨ j = xa ∨ (Value.slice none 0 0).ownBlock = some j) (isL L) (dtL L) (AsH w xa A L.length m) (takes_at w xa A m L (by omega) hM W.heap.size H.bel.size _) (asks_first H.bel hx) (by
      rintro j (h | h | h)
      · exact Nat.lt_of_lt_of_le h H.bel.size
      · omega
      · cases h))
  have HUn := hide (fun W (H : CfS w W c d) p' hl hb => unpack_at c d node hnode p' hl hb W H.g H.cf)
  have HHas := hide (fun W (H : CfS w W c d) k hk hs => has_at c d W H.g H.cf A m L (hM.of_below H.bel (Nat.le_refl _)) hL k hk hs)
  have HMay := hide (fun h0 : checkF c = 0 => may_of h0)
  have HRef : Hid (checkF c = 0 → okN c node → refF c [node] = 0) := fun h0 hk => refF_ok h0 (by intro z hz; rw [List.mem_singleton.1 hz]; exact hk)
  have HLK := hide (fun W (hb : Below w.heap.size w W) k (hk : k < c.links.length) => (h.links.of_below hb (Nat.le_refl _)).at hk)
  have HPT := hide (fun W (hb : Below w.heap.size w W) k (hk : k < c.ports.length) => (h.ports.of_below hb (Nat.le_refl _)).at hk)
  have HPR := hide (fun W (hb : Below w.heap.size w W) k (hk : k < c.parts.length) => (h.parts.of_below hb (Nat.le_refl _)).at hk)
  have HBytes : Hid (∀ z, ∀ b ∈ dtL L z, b < 256) := fun z b hb => by
    unfold dtL at hb
    split at hb
    · rename_i hz
      obtain ⟨_, _, _, _, _, _, _, _, _, _, hby⟩ := hM.at hz.2
      exact hby.1 b hb
    · cases hb
  have HG := hide hg; have HCf := hide h
  clear hg h hal hM hL
  generalize hA : w.alloc (.cells (c.cells d) 28) = wa at hS
  have hza : wa.heap.size = w.heap.size + 1 := by rw [← hA]; simp
  obtain ⟨cf, hcf⟩ : ∃ f, checkF c = f := ⟨_, rfl⟩
  rw [hcf] at HC HPk HMay HRef
  obtain ⟨oA, oC, pA, pC, wA, wC, qA, qC, lA, lC⟩ := d
  unfold Conf.val at HC HGr HUn HPk HHas ⊢
  unfold Conf.cells at hA
  dsimp only at hA HC HGr HUn HPk HHas HLK HPT HPR ⊢
  have HA := hide hA
  have HS := hide hS
  clear hA hS hcf
  go_enter Tryd.func3, Tryd.ntmps3
  go_wp2_with fail
  rw [HA.out]
  clear HA
  refine (HAL.out _ HS.out).mono ?_
  rintro e w2 ⟨rfl, hb2⟩
  have HS2 := hide (HS.out.below hb2)
  clear hb2 HS HAL hza
  obtain ⟨_, ⟨_, e0, e1, e2, e3, e4, e5, e6, e7, e8, e9, e10, e11⟩, _, _⟩ := HS2.out
  dsimp only at e0 e1 e2 e3 e4 e5 e6 e7 e8 e9 e10 e11
  go_wp2_with fail
  refine (HGr.out _ HS2.out).mono ?_
  rintro e w3 ⟨⟨b, rfl⟩, hb3⟩
  have HS3 := hide (HS2.out.below hb3)
  clear hb3 HS2 HGr e0 e1 e2 e3 e4 e5 e6 e7 e8 e9 e10 e11
  cases b
  · obtain ⟨_, ⟨_, e0, e1, e2, e3, e4, e5, e6, e7, e8, e9, e10, e11⟩, _, _⟩ := HS3.out
    dsimp only at e0 e1 e2 e3 e4 e5 e6 e7 e8 e9 e10 e11
    go_wp2_with fail
    refine (HGl.out _ HS3.out).mono ?_
    rintro e w3 ⟨rfl, rfl⟩
    clear HGl
    generalize greatL L = gl
    cases gl
    · go_wp2_with fail
      refine (HC.out _ HS3.out).mono ?_
      rintro e w4 ⟨rfl, hb4⟩
      have HS4 := hide (HS3.out.below hb4)
      clear hb4 HS3 HC e0 e1 e2 e3 e4 e5 e6 e7 e8 e9 e10 e11
      obtain ⟨_, ⟨_, e0, _⟩, _, _⟩ := HS4.out
      by_cases hf : cf = 0
      · subst hf
        by_cases h1 : node < 0
        · go_wp2
          go_ret
          exact ⟨rfl, HS4.out.bel⟩
        · by_cases h2 : node < c.nodes
          · have HM := hide (HMay.out rfl)
            have HRf := hide (HRef.out rfl ⟨by omega, h2⟩)
            have HPk2 := hide (fun W H => HPk.out W H rfl ⟨by omega, h2⟩)
            clear HMay HRef HPk
            go_wp2_with fail
            have hb5 := bal w4 (.cells #[.slice A L.length m, .slice none 0 0] 37)
            have hN5 := heap_alloc_new w4 (.cells #[.slice A L.length m, .slice none 0 0] 37)
            have hz5 : (w4.alloc (.cells #[.slice A L.length m, .slice none 0 0] 37)).heap.size = w4.heap.size + 1 := by simp
            have HS5 := hide (HS4.out.below hb5)
            have hwl := HS4.out.x.lt
            refine (HPk2.out _ HS5.out w4.heap.size hwl (by omega) hN5).mono ?_
            rintro e w6 ⟨rfl, hb6, hk6, S, ⟨_, _, av, hx6, hr6, _⟩, _⟩
            have hs6 := hb6.size
            have HS6 := hide (HS5.out.only HG.out HCf.out (HS5.out.bel.trans hb6) (hk6 w.heap.size (by omega) (by
              rintro (h | h | h)
              · omega
              · omega
              · cases h)))
            obtain ⟨aA, ac, rfl⟩ := ow_slice hr6
            obtain ⟨nl, hnq⟩ : ∃ nl, (ownL c node c.links.length).length = nl := ⟨_, rfl⟩
            have hnq2 : ((ownL c node c.links.length).map Lr.src).length = nl := by rw [List.length_map]; exact hnq
            rw [hnq2] at hx6 hr6
            have hnq64 : nl ≤ 64 := by rw [← hnq]; exact own_nodup_len HM.out node
            obtain ⟨P, hP⟩ : ∃ P, packF (isL L) (dtL L) zero64 (ownL c node c.links.length) = P := ⟨_, rfl⟩
            have hPl : P.length = 64 := by rw [← hP]; exact packF_len _ _ (by simp [zero64]) (own_fit HM.out (Nat.le_refl _))
            have hPb : ∀ b ∈ P, b < 256 := by
              rw [← hP]
              refine packF_bytes _ _ (fun b hb => ?_) HBytes.out
              unfold zero64 at hb
              rw [List.mem_replicate] at hb
              omega
            have HYes : Hid (∀ x ∈ ownL c node c.links.length, yesF P x = cndB (isL L) (dtL L) x) := fun x hx => by rw [← hP]; exact yes_pack HM.out hx
            have HTx : Hid (∀ x ∈ ownL c node c.links.length, cndB (isL L) (dtL L) x = true → textF P x = dtL L x.src) := fun x hx h => by rw [← hP]; exact text_pack HM.out hx h
            rw [hP]
            obtain ⟨pp, hpp⟩ : ∃ pp, bys P = pp := ⟨_, rfl⟩
            rw [hpp]
            obtain ⟨zz, hzz⟩ : ∃ zz, bys zero64 = zz := ⟨_, rfl⟩
            have hzc := zero_cells
            rw [hzz] at hzc
            have hpz : pp.size = 64 := by rw [← hpp, bys_size, hPl]
            have HIQ : Hid ((Tryd.prog.info? 38).map (·.size) = some pp.size) := by show _ = _; rw [info_payP, hpz]
            have HZS : Hid (zz.size = pp.size) := by show _ = _; rw [hpz, ← hzz, bys_size]; simp [zero64]
            have HONE : Hid (pp.all (·.oneCell') = true) := by show _ = _; rw [← hpp]; unfold bys; simp [Value.oneCell']
            have hb7 := bal w6 (.cells zz 38)
            have HN7 := hide (heap_alloc_new w6 (.cells zz 38))
            have hz7 : (w6.alloc (.cells zz 38)).heap.size = w6.heap.size + 1 := by simp
            have hS7 := HS6.out.below hb7
            have hO7 : ∀ j, j ≠ w6.heap.size → ((w6.alloc (.cells zz 38)).setRow w6.heap.size pp).heap[j]? = (w6.alloc (.cells zz 38)).heap[j]? := fun j hj => setRow_other _ _ _ _ hj
            have hxl6 := (Array.getElem?_eq_some_iff.1 hx6).1
            have hB8 := below_setRow hS7.bel (show w.heap.size ≤ w6.heap.size by omega) pp
            have HS8 := hide (hS7.only HG.out HCf.out hB8 (hO7 w.heap.size (by omega)))
            have HX8 := hide ((hO7 w4.heap.size (by omega)).trans ((hb7.block _ hxl6).trans hx6))
            have HRow := hide (setRow_heap _ _ _ pp _ _ HN7.out)
            clear hb5 hN5 HS5 hb6 hk6 hx6 hr6 hS7 hO7 hB8 hb7 HPk2 HS6 HBytes hP hnq2 e0
            go_upto_region 6 with (refine wpList_store_row rfl 38 (.tmp 9) (.tmp 54) rfl w6.heap.size pp rfl rfl 38 _ HN7.out HIQ.out HZS.out HONE.out ?_)
            generalize (w6.alloc (.cells zz 38)).setRow w6.heap.size pp = w8 at HS8 HX8 HRow ⊢
            have hU := HUn.out w8 HS8.out P hPl hPb
            rw [hpp] at hU
            have HU := hide hU
            clear hU HUn hzc HN7 HZS HONE hz7
            obtain ⟨_, ⟨_, e0, e1, e2, e3, e4, e5, e6, e7, e8, e9, e10, e11⟩, _, _⟩ := HS8.out
            dsimp only at e0 e1 e2 e3 e4 e5 e6 e7 e8 e9 e10 e11
            go_wp2_with (refine wpList_load_row rfl 38 (.tmp 9) rfl w6.heap.size rfl 38 pp (0, 0) _ HRow.out Tryd.underlying38 rfl HIQ.out ?_)
            refine HU.out.mono ?_
            rintro e w9 ⟨hb9, hp9⟩
            rcases hp9 with ⟨hx, _⟩ | ⟨_, v, Q, rfl, hAr, hQ⟩
            · exact absurd HRf.out hx
            obtain ⟨vA, vc, hv⟩ := ow_slice hAr.row
            have hQn : Q.length = nl := by rw [← hnq, ← hQ, List.length_map]
            rw [hQn] at hv
            subst hv
            have HS9 := hide (HS8.out.below hb9)
            have hx9 := (hb9.block _ (Array.getElem?_eq_some_iff.1 HX8.out).1).trans HX8.out
            have c1 : w9.cell? ⟨w4.heap.size, 1, none⟩ = some (.slice aA nl ac) := by rw [cell_of_row _ _ _ _ _ _ hx9]; rfl
            have HA9 := hide hAr; have HQ := hide hQ; have HQN := hide hQn
            have HNQ := hide hnq
            clear hb9 hAr hQ hQn hx9 HS8 HX8 HRow HU HIQ e0 e1 e2 e3 e4 e5 e6 e7 e8 e9 e10 e11 hnq
            obtain ⟨_, ⟨_, _, _, _, _, _, _, _, _, e8, _, e10, e11⟩, _, _⟩ := HS9.out
            dsimp only at e8 e10 e11
            go_wp2_with fail
            have ho0 : (ownL c node 0).length = 0 := by simp [ownL]
            go_loopw [82, 13, 14, 15, 16, 17] (fun i s13 s14 s15 s16 s17 W => ∃ k : Nat, k ≤ c.links.length ∧ i = .int .i64 k ∧ s13 = .int .i64 ((ownL c node k).length : Nat) ∧ Below w9.heap.size w9 W) (fun i _ _ _ _ _ _ => c.links.length - (intOf i).toNat)
            case atStart => exact ⟨0, by omega, rfl, by rw [ho0]; rfl, Below.refl _ _⟩
            case round =>
              obtain ⟨k, hk, rfl, rfl, hbw⟩ := hrel
              have HBW := hide hbw
              have HSr := hide (HS9.out.below hbw)
              have HAr := hide (HA9.out.below hbw)
              clear hbw HA9 HS9 e8 e10 e11 ho0
              obtain ⟨at_, hat⟩ : ∃ a, (ownL c node k).length = a := ⟨_, rfl⟩
              rw [hat]
              have hlk := HM.out.nl
              by_cases hlt : k < c.links.length
              · have hsrc := HM.out.src hlt
                have hprt := HM.out.ofp hsrc
                have hpz := (HM.out.port (c.links.getD k default).source.toNat (by simp only [ofB, Bool.and_eq_true, decide_eq_true_eq] at hsrc; omega)).2.1
                simp only [ofB, Bool.and_eq_true, decide_eq_true_eq] at hsrc hprt
                obtain ⟨lb, lo, Ai, ci, hlA, hlb, g0, _⟩ := HLK.out wr HSr.out.bel k hlt
                subst hlA
                obtain ⟨n, hn⟩ := Int.eq_ofNat_of_zero_le hsrc.1
                have hmB : mineB c node k = decide (nodeF c (n : Int) = node) := by unfold mineB; rw [hn]
                have hcl : cndB (isL L) (dtL L) (lrF c k) = hasB c L (n : Int) := by rw [cnd_lr, hn]
                have hsr2 : (lrF c k).src = (n : Int) := hn
                unfold nodeF at hmB
                rw [hn] at g0 hprt hpz
                rw [Int.toNat_natCast] at hprt hmB hpz
                have hnp : n < c.ports.length := by omega
                obtain ⟨pb, po, hpA, hpb, f0, _⟩ := HPT.out wr HSr.out.bel n hnp
                subst hpA
                obtain ⟨q, hq⟩ := Int.eq_ofNat_of_zero_le hprt.1
                rw [hq] at f0 hmB
                rw [Int.toNat_natCast] at hmB
                have hql : q < c.parts.length := by omega
                obtain ⟨ab, ao, hrA, hab, a0, _⟩ := HPR.out wr HSr.out.bel q hql
                subst hrA
                generalize (c.parts.getD q default).node = z at a0 hmB
                obtain ⟨_, ⟨_, _, _, _, _, _, _, _, _, e8, _, e10, e11⟩, _, _⟩ := HSr.out
                dsimp only at e8 e10 e11
                have HKL := hide (show k + 1 ≤ c.links.length by omega)
                have HMO := hide (ownL_more c node k)
                rw [hat] at HMO
                have HD : Hid (∀ j, Below w9.heap.size w9 (wr.drewN j)) := fun j => vdrewN HBW.out j
                clear hsrc hprt hlb hpb hab HLK HPT HPR
                by_cases hz : z = node
                · subst hz
                  have hmB2 : mineB c z k = true := by rw [hmB]; simp
                  rw [hmB2] at HMO
                  obtain ⟨o1, o2⟩ := ownL_at hlt hmB2
                  rw [hat] at o1 o2
                  rw [HNQ.out] at o2
                  have HO1 := hide o1
                  clear hmB hmB2 o1
                  go_wp2_with fail
                  go_quiet (fail)
                  have hS10 := HSr.out.below (vdrewN (Below.refl wr.heap.size wr) nq)
                  have hA10 := HAr.out.below (vdrewN (Below.refl wr.heap.size wr) nq)
                  have hB10 := HD.out nq
                  generalize wr.drewN nq = w10 at hS10 hA10 hB10 ⊢
                  have HS10 := hide hS10; have HA10 := hide hA10; have HB10 := hide hB10
                  clear hS10 hA10 hB10 e8 e10 e11 a0 f0 g0 HSr HAr HBW HD
                  obtain ⟨_, ⟨_, e0, e1, e2, e3, e4, e5, e6, e7, e8, e9, e10, e11⟩, _, _⟩ := HS10.out
                  dsimp only at e0 e1 e2 e3 e4 e5 e6 e7 e8 e9 e10 e11
                  go_wp2_with fail
                  refine (HHas.out _ HS10.out n hnp hpz).mono ?_
                  rintro e w11 ⟨rfl, hb11⟩
                  have hmem := List.mem_of_getElem? HO1.out
                  have hyes := HYes.out _ hmem
                  have htx := HTx.out _ hmem
                  rw [hcl] at hyes htx
                  rw [hsr2] at htx
                  obtain ⟨⟨x, dv⟩, hq1, hq2⟩ : ∃ q1 : Lr × Value, Q[at_]? = some q1 ∧ q1.1 = lrF c k := by
                    have h1 := HO1.out
                    rw [← HQ.out, List.getElem?_map] at h1
                    obtain ⟨q1, h2, h3⟩ := Option.map_eq_some_iff.1 h1
                    exact ⟨q1, h2, h3⟩
                  dsimp only at hq2
                  subst hq2
                  have hA11 := HA10.out.below hb11
                  have hms := hA11.ms _ (List.mem_of_getElem? hq1)
                  dsimp only at hms
                  obtain ⟨dA, dn, dc, hdv⟩ := msg_one hms
                  subst hdv
                  have hcv := msg_str hms
                  rw [hyes] at hcv
                  obtain ⟨g, gc, hge, _, hgl, _, _, hgc⟩ := ow_open hA11.row (show 0 < Q.length by rw [HQN.out]; omega)
                  rw [HQN.out] at hge
                  injection hge with hge _ hgc2
                  subst hge hgc2
                  have d0 : w11.cell? ⟨g, at_ * 3, none⟩ = some (.int .i64 (k : Int)) := hgc _ _ (by rw [show at_ * 3 = at_ * 3 + 0 by rfl, fm_at (arC_len P) Q at_ 0 _ hq1 (by omega)]; rfl)
                  have d1 : w11.cell? ⟨g, at_ * 3 + 1, none⟩ = some (.bool (hasB c L (n : Int))) := hgc _ _ (by rw [fm_at (arC_len P) Q at_ 1 _ hq1 (by omega)]; simp [arC, hyes])
                  have d2 : w11.cell? ⟨g, at_ * 3 + 2, none⟩ = some (.slice dA dn dc) := hgc _ _ (by rw [fm_at (arC_len P) Q at_ 2 _ hq1 (by omega)]; rfl)
                  have hse : str (if hasB c L (n : Int) then textF P (lrF c k) else []) = str (if hasB c L (n : Int) then dtL L (n : Int) else []) := by
                    cases hbb : hasB c L (n : Int)
                    · rfl
                    · simp only [if_true]; rw [htx hbb]
                  rw [hse] at hcv
                  generalize str (if hasB c L (n : Int) then dtL L (n : Int) else []) = sx at hcv ⊢
                  generalize hasB c L (n : Int) = bx at d1 ⊢
                  have HB11 := hide (HB10.out.trans (hb11.mono HB10.out.size))
                  have hbx : (bx != bx) = false := by cases bx <;> rfl
                  have hsx : (sx.toList != sx.toList) = false := by simp
                  have hat3 : ((at_ : Nat) : Int) < ((nl : Nat) : Int) := by omega
                  clear hb11 hgc hms hA11 hq1 hyes htx hmem hse hcl hsr2 hpz HS10 HA10 HB10 e0 e1 e2 e3 e4 e5 e6 e7 e8 e9 e10 e11
                  go_wp2_with fail
                  go_wp2
                  go_roundw
                  case rel => exact ⟨k + 1, HKL.out, by go_num, by rw [HMO.out]; go_num, HB11.out⟩
                  case measure => have := HKL.out; simp [intOf]; omega
                · have hmB2 : mineB c node k = false := by rw [hmB]; exact decide_eq_false hz
                  rw [hmB2] at HMO
                  have hzn : (z != node) = true := by simpa using hz
                  clear hmB hmB2
                  go_wp2_with fail
                  go_quiet (fail)
                  go_wp2
                  go_roundw
                  case rel => exact ⟨k + 1, HKL.out, by go_num, by rw [HMO.out]; rfl, HD.out _⟩
                  case measure => have := HKL.out; simp [intOf]; omega
              · obtain rfl : k = c.links.length := by omega
                obtain rfl : at_ = nl := hat.symm.trans HNQ.out
                go_wp2
                go_ret
                exact ⟨rfl, HSr.out.bel⟩
          · go_wp2
            go_ret
            exact ⟨rfl, HS4.out.bel⟩
      · have hne : (cf != 0) = true := by simpa using hf
        go_wp2
        go_ret
        exact ⟨rfl, HS4.out.bel⟩
    · go_wp2
      go_ret
      exact ⟨rfl, HS3.out.bel⟩
  · go_wp2
    go_ret
    exact ⟨rfl, HS3.out.bel⟩
end Go.Proofs.YtdfpeilflinmhaaDoor
