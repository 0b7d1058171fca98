/-
  The walk of ConfigSpoilt.
-/
import Derived.Test.YteakpfgociakdaaDoorSpB
import Derived.Deep.QuietTactic
import Derived.BigQuiet
import Derived.Deep.RegionHeld
import Derived.Deep.RegionHeld3
import Derived.WalkSmall
namespace Go.Proofs.YteakpfgociakdaaDoor
open Go.RowKit Go.Deep
set_option linter.unusedVariables false
set_option linter.unusedSimpArgs false

theorem wrapI {z : Int} (h1 : -9223372036854775808 ≤ z) (h2 : z ≤ 9223372036854775807) : IntKind.i64.wrap z = z := by
  simp only [IntKind.wrap, IntKind.bits, IntKind.signed]
  simp
  omega

set_option maxRecDepth 100000 in
set_option maxHeartbeats 16000000 in
theorem spoilt_walk (c : Conf) (d : Ad) (f a t : Int) (ha : 0 ≤ a ∧ a ≤ 255) (ht : I64 t) (w : World) (hg : Glo w) (h : ConfAt w c d)
    (HA : ∀ W, Below w.heap.size w W → Calls Tryd.prog 20 #[] W fun e w' => e = .returned (.bool true) ∧ Below W.heap.size W w') :
    Calls Tryd.prog 6 #[c.val d, .agg #[.int .i64 f, .int .u8 a, .int .i64 t]] w fun e w' => e = .returned (.bool true) ∧ Below w.heap.size w w' := by
  have S0 := hide (SpO.first (w := w) (c := c) (d := d) (f := f) (a := a) (t := t) 28 46)
  have CA := hide (fun W (H : SpO w W c d f a t) => HA W H.bel)
  have CC := hide (fun W (H : SpO w W c d f a t) => check_any c d W (hg.below H.bel (Nat.le_refl _)) (h.of_below H.bel (Nat.le_refl _)))
  have CG := hide (fun W (H : SpO w W c d f a t) => great_some c d W (h.of_below H.bel (Nat.le_refl _)))
  have CX := hide (fun W (H : SpO w W c d f a t) => H.x1)
  obtain ⟨ha1, ha2⟩ := ha
  by_cases hc : checkF c = 0
  · have H0 := hide hc
    have HSm := hide (small_of hc)
    have CT := hide (fun W (H : SpO w W c d f a t) => twin_any c d W (h.of_below H.bel (Nat.le_refl _)) HSm.out)
    have CC2 := hide (fun W (H : Below w.heap.size w W) => check_any c d W (hg.below H (Nat.le_refl _)) (h.of_below H (Nat.le_refl _)))
    have CH := hide hg
    have HTT := hide ht
    have hzz := check_zero hc
    have hp := hzz.2.1
    simp only [ClockK, inB, Bool.and_eq_true, decide_eq_true_eq] at hp
    obtain ⟨⟨⟨⟨⟨⟨dr1, dr2⟩, ⟨rd1, rd2⟩⟩, _⟩, _⟩, _⟩, _⟩ := hp
    have CP := hide (fun W (H : Below w.heap.size w W) => precision_any c d W dr1 dr2 rd1 rd2)
    rw [hc] at CC CC2
    clear HA hg h hc hzz ht
    obtain ⟨oA, oC, pA, pC, wA, wC, qA, qC, lA, lC⟩ := d
    obtain ⟨nodes, owners, drift, reading, margin, bound, rejoin, quota, parts, windows, ports, links⟩ := c
    obtain ⟨hl, e0, e1, e2, e3, e4, e5, e6, e7, e8, e9, e10, e11⟩ := CX.out _ S0.out

    unfold Conf.val at CC CC2 CG CT CP ⊢
    unfold Conf.cells at S0 e0 e1 e2 e3 e4 e5 e6 e7 e8 e9 e10 e11 hl
    dsimp only at CC CC2 CG CT CP S0 dr1 dr2 rd1 rd2 e0 e1 e2 e3 e4 e5 e6 e7 e8 e9 e10 e11 ⊢
    go_enter Tryd.func6, Tryd.ntmps6
    go_upto_region 4 with (first
      | (go_at_call 20; refine (CA.out _ S0.out).mono ?_; rintro e w1 ⟨rfl, hb⟩; have S1 := hide (S0.out.below hb); clear hb e0 e1 e2 e3 e4 e5 e6 e7 e8 e9 e10 e11 hl; obtain ⟨hl, e0, e1, e2, e3, e4, e5, e6, e7, e8, e9, e10, e11⟩ := CX.out _ S1.out; dsimp only at e0 e1 e2 e3 e4 e5 e6 e7 e8 e9 e10 e11)
      | (go_at_call 7; refine (CG.out _ S1.out).mono ?_; rintro e w2 ⟨⟨b, rfl⟩, hb⟩; have S2 := hide (S1.out.below hb); clear hb e0 e1 e2 e3 e4 e5 e6 e7 e8 e9 e10 e11 hl; obtain ⟨hl, e0, e1, e2, e3, e4, e5, e6, e7, e8, e9, e10, e11⟩ := CX.out _ S2.out; dsimp only at e0 e1 e2 e3 e4 e5 e6 e7 e8 e9 e10 e11; cases b)
      | (go_at_call 9; refine (CC.out _ S2.out).mono ?_; rintro e w3 ⟨rfl, hb⟩; have S3 := hide (S2.out.below hb); clear hb e0 e1 e2 e3 e4 e5 e6 e7 e8 e9 e10 e11 hl; obtain ⟨hl, e0, e1, e2, e3, e4, e5, e6, e7, e8, e9, e10, e11⟩ := CX.out _ S3.out; dsimp only at e0 e1 e2 e3 e4 e5 e6 e7 e8 e9 e10 e11))
    · go_upto_region 7 with (go_at_call 8; refine (CT.out _ S3.out).mono ?_; intro e w4 hp; obtain ⟨⟨⟨oA', oC', pA', pC', wA', wC', qA', qC', lA', lC'⟩, b0, b1, b2, gO, gP, gQ, vs, xs, rfl, hT, hlow, h01⟩, hb4⟩ := hp; have S4 := hide (S3.out.below hb4); have HT := hide hT; obtain ⟨_, _, y0, y1, y2, hsz⟩ := S4.out; clear hT e0 e1 e2 e3 e4 e5 e6 e7 e8 e9 e10 e11 hl; unfold Conf.val; dsimp only)
      have hST := SpT.start S4.out HT.out (by have := S3.out.sz; omega) h01
      unfold Conf.cells at hST
      dsimp only at hST
      generalize w4.alloc (.cells #[.int .i64 nodes, .slice oA' owners.length oC', .int .i64 drift, .int .i64 reading, .int .i64 margin, .int .i64 bound, .int .i64 rejoin, .int .i64 quota, .slice pA' parts.length pC', .slice wA' windows.length wC', .slice qA' ports.length qC', .slice lA' links.length lC'] 28) = W5 at hST ⊢
      have HST := hide hST
      have hB := hST.s.hB
      have hWB := hST.s.x6.lt
      have hfr := hST.free
      obtain ⟨_, _, z0, z1, z2, ⟨_, q0, q1, q2, q3, q4, q5, q6, q7, q8, q9, q10, q11⟩, _, _⟩ := hST.s
      dsimp only at q0 q1 q2 q3 q4 q5 q6 q7 q8 q9 q10 q11
      clear hST HT S4 S3 S2 y0 y1 y2 hsz hlow
      generalize w4.heap.size = B at HST hB hWB hfr q0 q1 q2 q3 q4 q5 q6 q7 q8 q9 q10 q11 ⊢
      obtain ⟨an, rfl⟩ := Int.eq_ofNat_of_zero_le ha1
      have hN := (check_zero H0.out).1
      have hWK := (check_zero H0.out).2.2.2.1
      have hlen : 4 ≤ owners.length := by obtain ⟨n1, n2, n3, _⟩ := hN; dsimp only at n1 n2 n3; omega
      have hnn : nodes = (owners.length : Int) := by obtain ⟨n1, n2, n3, _⟩ := hN; dsimp only at n1 n2 n3; omega
      have hwl : windows.length = owners.length := by have := hWK.1; dsimp only at this; omega
      have hwr : ∀ n, n < owners.length → (windows.getD n []).length = owners.length := fun n hn => by have := (hWK.2 n (by dsimp only; omega)).1; dsimp only at this; omega
      have HWR := hide hwr
      have HWL := hide hwl
      clear hN hWK hwr hwl
      subst hnn
      go_upto_block 0 with fail
      go_cut [8] from 30 to 135 (fun s W => SpQ w ⟨(owners.length : Int), owners, drift, reading, margin, bound, rejoin, quota, parts, windows, ports, links⟩ ⟨oA, oC, pA, pC, wA, wC, qA, qC, lA, lC⟩ f (an : Int) t B s W)
      case first =>
          by_cases h0 : f = 0
          · subst h0
            have hoA := HST.out.tw.oA
            dsimp only at hoA
            subst hoA
            have hmod : (an : Int).tmod (owners.length : Int) = ((an % owners.length : Nat) : Int) := rfl
            have hlt := Nat.mod_lt an (show 0 < owners.length by omega)
            obtain ⟨i, hi⟩ : ∃ i, an % owners.length = i := ⟨_, rfl⟩
            rw [hi] at hmod hlt
            clear hi
            have hcell := HST.out.tw.o.cell (j := i) (u := .int .i64 (owners.getD i 0)) (by have := fm_at inC_len owners i 0 (by omega) hlt; simpa [inC] using this)
            have hfree := HST.out.tw.o.free i
            have HR := hide (HST.out.setO H0.out HTT.out hlt)
            go_wp2_with fail
            go_region
            all_goals go_wp2_with fail
            all_goals go_meet
            all_goals exact HR.out
          by_cases h1 : f = 1
          · subst h1
            have HR := hide ((HST.out.setB HTT.out).1 rfl H0.out)
            have hfree := hfr 4
            go_wp2_with fail
            all_goals go_meet
            all_goals exact HR.out
          by_cases h2 : f = 2
          · subst h2
            have HR := hide ((HST.out.setB HTT.out).2 rfl H0.out)
            have hfree := hfr 6
            go_wp2_with fail
            all_goals go_meet
            all_goals exact HR.out
          by_cases h3 : f = 3
          · subst h3
            by_cases hz : 0 < parts.length
            · have hoA := HST.out.tw.pA
              dsimp only at hoA
              subst hoA
              have hmod : (an : Int).tmod (parts.length : Int) = ((an % parts.length : Nat) : Int) := rfl
              have hlt := Nat.mod_lt an (show 0 < parts.length by omega)
              obtain ⟨i, hi⟩ : ∃ i, an % parts.length = i := ⟨_, rfl⟩
              rw [hi] at hmod hlt
              clear hi
              have hcell := HST.out.tw.p.cell (j := i * 3 + 2) (u := .int .i64 (parts.getD i default).hi) (by rw [fm_at ptC_len parts i 2 (by omega) hlt]; rfl)
              have hfree := HST.out.tw.p.free (i * 3 + 2)
              have HR := hide (HST.out.setP H0.out HTT.out hlt)
              go_wp2_with fail
              go_region
              all_goals go_wp2_with fail
              all_goals go_meet
              all_goals exact HR.out
            · obtain hz0 : parts.length = 0 := by omega
              have HR := hide (HST.out.same H0.out (by decide) (by decide) 23)
              have hz1 : (parts.length : Int) = 0 := by omega
              go_wp2_with fail
              all_goals go_meet
              all_goals exact HR.out
          by_cases h4 : f = 4
          · subst h4
            have hmod : (an : Int).tmod (owners.length : Int) = ((an % owners.length : Nat) : Int) := rfl
            have hlt := Nat.mod_lt an (show 0 < owners.length by omega)
            obtain ⟨i, hi⟩ : ∃ i, an % owners.length = i := ⟨_, rfl⟩
            rw [hi] at hmod hlt
            have hquo : (an : Int).tdiv 16 = ((an / 16 : Nat) : Int) := rfl
            have hmod2 : ((an / 16 : Nat) : Int).tmod (owners.length : Int) = ((an / 16 % owners.length : Nat) : Int) := rfl
            have hlt2 := Nat.mod_lt (an / 16) (show 0 < owners.length by omega)
            obtain ⟨j, hj⟩ : ∃ j, an / 16 % owners.length = j := ⟨_, rfl⟩
            rw [hj] at hmod2 hlt2
            clear hi hj
            have hq16 : an / 16 ≤ 15 := by omega
            generalize an / 16 = aq at hquo hmod2 hq16
            obtain ⟨g, ca, gW, hwA, hwc, hv, hO⟩ := HST.out.tw.row (a := i) (by dsimp only; rw [HWL.out]; exact hlt)
            dsimp only at hwA hwc hv hO
            have HV := hide hv
            have HO := hide hO
            have hrl := HWR.out i hlt
            have HR := hide (HST.out.setW H0.out HTT.out (n := i) (by dsimp only; rw [HWL.out]; exact hlt) (i := j) (by dsimp only; rw [hrl]; exact hlt2) HV.out HO.out)
            have hcell := HO.out.cell (j := j) (u := .int .i64 ((windows.getD i []).getD j 0)) (by have := fm_at inC_len (windows.getD i []) j 0 (by omega) (by rw [hrl]; exact hlt2); simpa [inC] using this)
            have hfree := HO.out.free j
            rw [hrl] at hwc
            have q9' := q9
            rw [HWL.out] at q9'
            subst hwA
            clear hv hO hrl q9
            go_wp2_with fail
            go_region
            all_goals go_wp2_with fail
            all_goals go_meet
            all_goals exact HR.out
          by_cases h5 : f = 5
          · subst h5
            by_cases hz : 0 < ports.length
            · have hoA := HST.out.tw.qA
              dsimp only at hoA
              subst hoA
              have hmod : (an : Int).tmod (ports.length : Int) = ((an % ports.length : Nat) : Int) := rfl
              have hlt := Nat.mod_lt an (show 0 < ports.length by omega)
              obtain ⟨i, hi⟩ : ∃ i, an % ports.length = i := ⟨_, rfl⟩
              rw [hi] at hmod hlt
              clear hi
              have hcell := HST.out.tw.q.cell (j := i * 6 + 3) (u := .int .i64 (ports.getD i default).size) (by rw [fm_at poC_len ports i 3 (by omega) hlt]; rfl)
              have hfree := HST.out.tw.q.free (i * 6 + 3)
              have HR := hide (HST.out.setQ H0.out HTT.out hlt)
              go_wp2_with fail
              go_region
              all_goals go_wp2_with fail
              all_goals go_meet
              all_goals exact HR.out
            · obtain hz0 : ports.length = 0 := by omega
              have HR := hide (HST.out.same H0.out (by decide) (by decide) 25)
              have hz1 : (ports.length : Int) = 0 := by omega
              go_wp2_with fail
              all_goals go_meet
              all_goals exact HR.out
          by_cases h6 : f = 6
          · subst h6
            by_cases hz : 0 < links.length
            · obtain ⟨gL, hA, hL⟩ := HST.out.tw.lblk hz
              have HL := hide hL
              have HAA := hide hA
              dsimp only at hA
              subst hA
              have hmod : (an : Int).tmod (links.length : Int) = ((an % links.length : Nat) : Int) := rfl
              have hlt := Nat.mod_lt an (show 0 < links.length by omega)
              obtain ⟨i, hi⟩ : ∃ i, an % links.length = i := ⟨_, rfl⟩
              rw [hi] at hmod hlt
              clear hi
              obtain ⟨gj, cj, l1, l2, l3, _⟩ := HST.out.tw.l.each i hlt
              have hcell := HL.out.cell l3
              have hfree := HL.out.free (i * 3 + 2)
              clear l1 l2 l3 hL
              have HR := hide (HST.out.setL (r := 2) H0.out HTT.out (by decide) (by decide) hlt HAA.out HL.out (.inr rfl))
              go_wp2_with fail
              go_region
              all_goals go_wp2_with fail
              all_goals go_meet
              all_goals exact HR.out
            · obtain hz0 : links.length = 0 := by omega
              have HR := hide (HST.out.same H0.out (by decide) (by decide) 26)
              have hz1 : (links.length : Int) = 0 := by omega
              go_wp2_with fail
              all_goals go_meet
              all_goals exact HR.out
          have u0 : (f == 0) = false := by simpa using h0
          have u1 : (f == 1) = false := by simpa using h1
          have u2 : (f == 2) = false := by simpa using h2
          have u3 : (f == 3) = false := by simpa using h3
          have u4 : (f == 4) = false := by simpa using h4
          have u5 : (f == 5) = false := by simpa using h5
          have u6 : (f == 6) = false := by simpa using h6
          have v1 := hide h1
          have v2 := hide h2
          clear h0 h1 h2 h3 h4 h5 h6
          by_cases hz : 0 < links.length
          · obtain ⟨gL, hA, hL⟩ := HST.out.tw.lblk hz
            have HL := hide hL
            have HAA := hide hA
            dsimp only at hA
            subst hA
            have hmod : (an : Int).tmod (links.length : Int) = ((an % links.length : Nat) : Int) := rfl
            have hlt := Nat.mod_lt an (show 0 < links.length by omega)
            obtain ⟨i, hi⟩ : ∃ i, an % links.length = i := ⟨_, rfl⟩
            rw [hi] at hmod hlt
            clear hi
            obtain ⟨gj, cj, l1, l2, l3, _⟩ := HST.out.tw.l.each i hlt
            have hcell := HL.out.cell l1
            have hfree := HL.out.free (i * 3)
            clear l1 l2 l3 hL
            have HR := hide (HST.out.setL (r := 0) H0.out HTT.out v1.out v2.out hlt HAA.out HL.out (.inl rfl))
            rw [Nat.add_zero] at HR
            go_wp2_with fail
            go_region
            all_goals go_wp2_with fail
            all_goals go_meet
            all_goals exact HR.out
          · obtain hz0 : links.length = 0 := by omega
            have HR := hide (HST.out.same H0.out v1.out v2.out 26)
            have hz1 : (links.length : Int) = 0 := by omega
            go_wp2_with fail
            all_goals go_meet
            all_goals exact HR.out
      case rest =>
        obtain ⟨L, rfl, c', d', hS, hM⟩ := hcut
        have HS := hide hS
        have HM := hide hM
        have CK := hide (fun W (H : Below wc.heap.size wc W) => check_any c' d' W (CH.out.below (hS.bel.trans (H.mono hS.bel.size)) (Nat.le_refl _)) (hS.cf.of_below H (Nat.le_refl _)))
        obtain ⟨nodes', owners', drift', reading', margin', bound', rejoin', quota', parts', windows', ports', links'⟩ := c'
        obtain ⟨oA2, oC2, pA2, pC2, wA2, wC2, qA2, qC2, lA2, lC2⟩ := d'
        unfold Conf.val at CK
        dsimp only at CK
        clear q0 q1 q2 q3 q4 q5 q6 q7 q8 q9 q10 q11 z0 z1 z2 hfr hWB HST
        have hx6 := hS.x6
        obtain ⟨_, q0, q1, q2, q3, q4, q5, q6, q7, q8, q9, q10, q11⟩ := hx6
        dsimp only at q0 q1 q2 q3 q4 q5 q6 q7 q8 q9 q10 q11
        have hbw := hS.bel.size
        have HBW := hide hS.bel
        obtain ⟨e, he⟩ : ∃ e, checkF ⟨nodes', owners', drift', reading', margin', bound', rejoin', quota', parts', windows', ports', links'⟩ = e := ⟨_, rfl⟩
        rw [he] at CK
        unfold SpM at HM
        rw [he] at HM
        have HP0 : Hid (0 ≤ precF ⟨(owners.length : Int), owners, drift, reading, margin, bound, rejoin, quota, parts, windows, ports, links⟩ ∧ precF ⟨(owners.length : Int), owners, drift, reading, margin, bound, rejoin, quota, parts, windows, ports, links⟩ ≤ 4194305) := by
          show _ ∧ _
          unfold precF
          dsimp only
          omega
        generalize precF ⟨(owners.length : Int), owners, drift, reading, margin, bound, rejoin, quota, parts, windows, ports, links⟩ = P at HM HP0 CP
        obtain ⟨P0, P1⟩ := HP0.out
        clear hS hM he
        dsimp only at HM
        go_upto_region 36 with (go_at_call 9; refine (CK.out _ (Below.refl _ _)).mono ?_; rintro e w6 ⟨rfl, hb⟩; have HS6 := hide (HS.out.below hb); clear hb q0 q1 q2 q3 q4 q5 q6 q7 q8 q9 q10 q11)
        have SO6 := hide (show SpO w w6 ⟨(owners.length : Int), owners, drift, reading, margin, bound, rejoin, quota, parts, windows, ports, links⟩ ⟨oA, oC, pA, pC, wA, wC, qA, qC, lA, lC⟩ f (an : Int) t from ⟨HS6.out.bel, HS6.out.x1, HS6.out.y0, HS6.out.y1, HS6.out.y2, by have := HS6.out.hB; have := HS6.out.x6.lt; omega⟩)
        clear HS6 HS CK
        obtain ⟨_, ⟨hx1lt, e0, e1, e2, e3, e4, e5, e6, e7, e8, e9, e10, e11⟩, z0, z1, z2, hsz⟩ := SO6.out
        dsimp only at e0 e1 e2 e3 e4 e5 e6 e7 e8 e9 e10 e11
        go_cut [178] from 138 to 178 (fun s W => SpE w ⟨(owners.length : Int), owners, drift, reading, margin, bound, rejoin, quota, parts, windows, ports, links⟩ ⟨oA, oC, pA, pC, wA, wC, qA, qC, lA, lC⟩ s W)
        case first =>
          by_cases h1 : f = 1
          · subst h1
            have SO6 := hide (SO6.out.below (Below.refl _ _).drew)
            clear e0 e1 e2 e3 e4 e5 e6 e7 e8 e9 e10 e11 z0 z1 z2 hsz hx1lt
            obtain ⟨_, ⟨hx1lt, e0, e1, e2, e3, e4, e5, e6, e7, e8, e9, e10, e11⟩, z0, z1, z2, hsz⟩ := SO6.out
            dsimp only at e0 e1 e2 e3 e4 e5 e6 e7 e8 e9 e10 e11
            have hw1 : IntKind.i64.wrap (2 * P) = 2 * P := wrapI (by omega) (by omega)
            have hw2 : IntKind.i64.wrap (2 * P + reading) = 2 * P + reading := wrapI (by omega) (by omega)
            by_cases k1 : t < 2 * P + reading
            · have he : e = 22 := HM.out.2.1 rfl (.inl k1)
              subst he
              have k1' : decide (t < 2 * P + reading) = true := by simpa using k1
              refine wp_region_held_drew (S := fun w' => w'.cell? ⟨w.heap.size, 0, none⟩ = some (.int .i64 (owners.length : Int)) ∧ w'.cell? ⟨w.heap.size, 1, none⟩ = some (.slice oA owners.length oC) ∧ w'.cell? ⟨w.heap.size, 2, none⟩ = some (.int .i64 drift) ∧ w'.cell? ⟨w.heap.size, 3, none⟩ = some (.int .i64 reading) ∧ w'.cell? ⟨w.heap.size, 4, none⟩ = some (.int .i64 margin) ∧ w'.cell? ⟨w.heap.size, 5, none⟩ = some (.int .i64 bound) ∧ w'.cell? ⟨w.heap.size, 6, none⟩ = some (.int .i64 rejoin) ∧ w'.cell? ⟨w.heap.size, 7, none⟩ = some (.int .i64 quota) ∧ w'.cell? ⟨w.heap.size, 8, none⟩ = some (.slice pA parts.length pC) ∧ w'.cell? ⟨w.heap.size, 9, none⟩ = some (.slice wA windows.length wC) ∧ w'.cell? ⟨w.heap.size, 10, none⟩ = some (.slice qA ports.length qC) ∧ w'.cell? ⟨w.heap.size, 11, none⟩ = some (.slice lA links.length lC) ∧ w'.cell? ⟨w.heap.size + 1, 0, none⟩ = some (.int .i64 1) ∧ w'.cell? ⟨w.heap.size + 1, 2, none⟩ = some (.int .i64 t)) (by kernel_rfl) (⟨e0, e1, e2, e3, e4, e5, e6, e7, e8, e9, e10, e11, z0, z2⟩) (fun hHeld => ?_)
              refine wpAnyH_take (i := 0) (v := ?v1_0) rfl (by kernel_rfl) (by kernel_rfl) (by kernel_rfl) (fun _ _ _ h => h) (Or.inl ⟨by kernel_rfl, ?y1_0⟩) (by assumption) ?r1_0
              case y1_0 => (intro W hSW; (try dsimp only at hSW); go_simp; (try with_reducible rfl))
              change wpAnyH _ _ _ _ _ _ _ (Act.put _ (some 138) _) _
              (try simp only [Act.put, List.setIfInBounds_toArray, List.set_cons_zero, List.set_cons_succ])
              refine wpAnyH_take (i := 1) (v := ?v1_1) rfl (by kernel_rfl) (by kernel_rfl) (by kernel_rfl) (fun _ _ _ h => h) (Or.inl ⟨by kernel_rfl, ?y1_1⟩) (by assumption) ?r1_1
              case y1_1 => (intro W hSW; (try dsimp only at hSW); go_simp; (try with_reducible rfl))
              change wpAnyH _ _ _ _ _ _ _ (Act.put _ (some 139) _) _
              (try simp only [Act.put, List.setIfInBounds_toArray, List.set_cons_zero, List.set_cons_succ])
              refine wpAnyH_take (i := 2) (v := ?v1_2) rfl (by kernel_rfl) (by kernel_rfl) (by kernel_rfl) (fun _ _ _ h => h) (Or.inl ⟨by kernel_rfl, ?y1_2⟩) (by assumption) ?r1_2
              case y1_2 => (intro W hSW; (try dsimp only at hSW); go_simp; (try with_reducible rfl))
              change wpAnyH _ _ _ _ _ _ _ (Act.put _ (some 140) _) _
              (try simp only [Act.put, List.setIfInBounds_toArray, List.set_cons_zero, List.set_cons_succ])
              refine wpAnyH_take (i := 3) (v := ?v1_3) rfl (by kernel_rfl) (by kernel_rfl) (by kernel_rfl) (fun _ _ _ h => h) (Or.inl ⟨by kernel_rfl, ?y1_3⟩) (by assumption) ?r1_3
              case y1_3 => (intro W hSW; (try dsimp only at hSW); go_simp; (try with_reducible rfl))
              change wpAnyH _ _ _ _ _ _ _ (Act.put _ (some 141) _) _
              (try simp only [Act.put, List.setIfInBounds_toArray, List.set_cons_zero, List.set_cons_succ])
              refine wpAnyH_take (i := 4) (v := ?v1_4) rfl (by kernel_rfl) (by kernel_rfl) (by kernel_rfl) (fun _ _ _ h => h) (Or.inl ⟨by kernel_rfl, ?y1_4⟩) (by assumption) ?r1_4
              case y1_4 => (intro W hSW; (try dsimp only at hSW); go_simp; (try with_reducible rfl))
              change wpAnyH _ _ _ _ _ _ _ (Act.put _ (some 142) _) _
              (try simp only [Act.put, List.setIfInBounds_toArray, List.set_cons_zero, List.set_cons_succ])
              refine wpAnyH_take (i := 5) (v := ?v1_5) rfl (by kernel_rfl) (by kernel_rfl) (by kernel_rfl) (fun _ _ _ h => h) (Or.inl ⟨by kernel_rfl, ?y1_5⟩) (by assumption) ?r1_5
              case y1_5 => (intro W hSW; (try dsimp only at hSW); go_simp; (try with_reducible rfl))
              change wpAnyH _ _ _ _ _ _ _ (Act.put _ (some 143) _) _
              (try simp only [Act.put, List.setIfInBounds_toArray, List.set_cons_zero, List.set_cons_succ])
              refine wpAnyH_take (i := 6) (v := ?v1_6) rfl (by kernel_rfl) (by kernel_rfl) (by kernel_rfl) (fun _ _ _ h => h) (Or.inl ⟨by kernel_rfl, ?y1_6⟩) (by assumption) ?r1_6
              case y1_6 => (intro W hSW; (try dsimp only at hSW); go_simp; (try with_reducible rfl))
              change wpAnyH _ _ _ _ _ _ _ (Act.put _ (some 144) _) _
              (try simp only [Act.put, List.setIfInBounds_toArray, List.set_cons_zero, List.set_cons_succ])
              refine wpAnyH_take (i := 9) (v := ?v1_9) rfl (by kernel_rfl) (by kernel_rfl) (by kernel_rfl) (fun _ _ _ h => h) (Or.inl ⟨by kernel_rfl, ?y1_9⟩) (by assumption) ?r1_9
              case y1_9 => (intro W hSW; (try dsimp only at hSW); go_simp; (try with_reducible rfl))
              change wpAnyH _ _ _ _ _ _ _ (Act.put _ (some 147) _) _
              (try simp only [Act.put, List.setIfInBounds_toArray, List.set_cons_zero, List.set_cons_succ])
              refine wpAnyH_take (i := 10) (v := ?v1_10) rfl (by kernel_rfl) (by kernel_rfl) (by kernel_rfl) (fun _ _ _ h => h) (Or.inl ⟨by kernel_rfl, ?y1_10⟩) (by assumption) ?r1_10
              case y1_10 => (intro W hSW; (try dsimp only at hSW); go_simp; (try with_reducible rfl))
              change wpAnyH _ _ _ _ _ _ _ (Act.put _ (some 148) _) _
              (try simp only [Act.put, List.setIfInBounds_toArray, List.set_cons_zero, List.set_cons_succ])
              refine wpAnyH_ready (rs := [7]) (by kernel_rfl) (by simp) ?_
              refine AllReadyH.cons rfl (fun K hK => ?_) AllReadyH.nil
              rw [if_pos (by rfl)]
              go_simp
              refine (CP.out _ SO6.out.bel).mono ?_
              rintro e1' w7 ⟨rfl, hb7⟩
              have SO7 := hide (SO6.out.below hb7)
              clear hb7 hHeld e0 e1 e2 e3 e4 e5 e6 e7 e8 e9 e10 e11 z0 z1 z2 hsz hx1lt
              obtain ⟨_, ⟨hx1lt, e0, e1, e2, e3, e4, e5, e6, e7, e8, e9, e10, e11⟩, z0, z1, z2, hsz⟩ := SO7.out
              dsimp only at e0 e1 e2 e3 e4 e5 e6 e7 e8 e9 e10 e11
              go_wp2_with fail
              refine hK.out _ _ (⟨e0, e1, e2, e3, e4, e5, e6, e7, e8, e9, e10, e11, z0, z2⟩) (fun hHeld => ?_)
              clear hK K
              (try simp only [Act.put, List.setIfInBounds_toArray, List.set_cons_zero, List.set_cons_succ])
              refine wpAnyH_take (i := 8) (v := ?v1_8) rfl (by kernel_rfl) (by kernel_rfl) (by kernel_rfl) (fun _ _ _ h => h) (Or.inl ⟨by kernel_rfl, ?y1_8⟩) (by assumption) ?r1_8
              case y1_8 => (intro W hSW; (try dsimp only at hSW); go_simp; (try with_reducible rfl))
              change wpAnyH _ _ _ _ _ _ _ (Act.put _ (some 146) _) _
              (try simp only [Act.put, List.setIfInBounds_toArray, List.set_cons_zero, List.set_cons_succ])
              refine wpAnyH_take (i := 11) (v := ?v1_11) rfl (by kernel_rfl) (by kernel_rfl) (by kernel_rfl) (fun _ _ _ h => h) (Or.inl ⟨by kernel_rfl, ?y1_11⟩) (by assumption) ?r1_11
              case y1_11 => (intro W hSW; (try dsimp only at hSW); go_simp; (try with_reducible rfl))
              change wpAnyH _ _ _ _ _ _ _ (Act.put _ (some 149) _) _
              (try simp only [Act.put, List.setIfInBounds_toArray, List.set_cons_zero, List.set_cons_succ])
              refine wpAnyH_take (i := 12) (v := ?v1_12) rfl (by kernel_rfl) (by kernel_rfl) (by kernel_rfl) (fun _ _ _ h => h) (Or.inl ⟨by kernel_rfl, ?y1_12⟩) (by assumption) ?r1_12
              case y1_12 => (intro W hSW; (try dsimp only at hSW); go_simp; (try with_reducible rfl))
              change wpAnyH _ _ _ _ _ _ _ (Act.put _ (some 150) _) _
              (try simp only [Act.put, List.setIfInBounds_toArray, List.set_cons_zero, List.set_cons_succ])
              refine wpAnyH_take (i := 13) (v := ?v1_13) rfl (by kernel_rfl) (by kernel_rfl) (by kernel_rfl) (fun _ _ _ h => h) (Or.inl ⟨by kernel_rfl, ?y1_13⟩) (by assumption) ?r1_13
              case y1_13 => (intro W hSW; (try dsimp only at hSW); go_simp; (try with_reducible rfl))
              change wpAnyH _ _ _ _ _ _ _ (Act.put _ (some 151) _) _
              (try simp only [Act.put, List.setIfInBounds_toArray, List.set_cons_zero, List.set_cons_succ])
              refine wpAnyH_take (i := 14) (v := undef) rfl (by kernel_rfl) (by kernel_rfl) (by kernel_rfl) (fun _ _ _ h => h) (Or.inr ⟨by kernel_rfl, rfl⟩) (by assumption) ?_
              change wpAnyH _ _ _ _ _ _ _ (Act.put _ (some 152) _) _
              (try simp only [Act.put, List.setIfInBounds_toArray, List.set_cons_zero, List.set_cons_succ])
              refine wpAnyH_take (i := 15) (v := undef) rfl (by kernel_rfl) (by kernel_rfl) (by kernel_rfl) (fun _ _ _ h => h) (Or.inr ⟨by kernel_rfl, rfl⟩) (by assumption) ?_
              change wpAnyH _ _ _ _ _ _ _ (Act.put _ (some 153) _) _
              (try simp only [Act.put, List.setIfInBounds_toArray, List.set_cons_zero, List.set_cons_succ])
              refine wpAnyH_take (i := 16) (v := undef) rfl (by kernel_rfl) (by kernel_rfl) (by kernel_rfl) (fun _ _ _ h => h) (Or.inr ⟨by kernel_rfl, rfl⟩) (by assumption) ?_
              change wpAnyH _ _ _ _ _ _ _ (Act.put _ (some 154) _) _
              (try simp only [Act.put, List.setIfInBounds_toArray, List.set_cons_zero, List.set_cons_succ])
              refine wpAnyH_take (i := 17) (v := ?v1_17) rfl (by kernel_rfl) (by kernel_rfl) (by kernel_rfl) (fun _ _ _ h => h) (Or.inl ⟨by kernel_rfl, ?y1_17⟩) (by assumption) ?r1_17
              case y1_17 => (intro W hSW; (try dsimp only at hSW); go_simp; (try with_reducible rfl))
              change wpAnyH _ _ _ _ _ _ _ (Act.put _ (some 155) _) _
              (try simp only [Act.put, List.setIfInBounds_toArray, List.set_cons_zero, List.set_cons_succ])
              refine wpAnyH_take (i := 18) (v := ?v1_18) rfl (by kernel_rfl) (by kernel_rfl) (by kernel_rfl) (fun _ _ _ h => h) (Or.inl ⟨by kernel_rfl, ?y1_18⟩) (by assumption) ?r1_18
              case y1_18 => (intro W hSW; (try dsimp only at hSW); go_simp; (try with_reducible rfl))
              change wpAnyH _ _ _ _ _ _ _ (Act.put _ (some 156) _) _
              (try simp only [Act.put, List.setIfInBounds_toArray, List.set_cons_zero, List.set_cons_succ])
              refine wpAnyH_take (i := 19) (v := ?v1_19) rfl (by kernel_rfl) (by kernel_rfl) (by kernel_rfl) (fun _ _ _ h => h) (Or.inl ⟨by kernel_rfl, ?y1_19⟩) (by assumption) ?r1_19
              case y1_19 => (intro W hSW; (try dsimp only at hSW); go_simp; (try with_reducible rfl))
              change wpAnyH _ _ _ _ _ _ _ (Act.put _ (some 157) _) _
              (try simp only [Act.put, List.setIfInBounds_toArray, List.set_cons_zero, List.set_cons_succ])
              refine wpAnyH_take (i := 20) (v := ?v1_20) rfl (by kernel_rfl) (by kernel_rfl) (by kernel_rfl) (fun _ _ _ h => h) (Or.inl ⟨by kernel_rfl, ?y1_20⟩) (by assumption) ?r1_20
              case y1_20 => (intro W hSW; (try dsimp only at hSW); go_simp; (try with_reducible rfl))
              change wpAnyH _ _ _ _ _ _ _ (Act.put _ (some 158) _) _
              (try simp only [Act.put, List.setIfInBounds_toArray, List.set_cons_zero, List.set_cons_succ])
              refine wpAnyH_take (i := 21) (v := ?v1_21) rfl (by kernel_rfl) (by kernel_rfl) (by kernel_rfl) (fun _ _ _ h => h) (Or.inl ⟨by kernel_rfl, ?y1_21⟩) (by assumption) ?r1_21
              case y1_21 => (intro W hSW; (try dsimp only at hSW); go_simp; (try with_reducible rfl))
              change wpAnyH _ _ _ _ _ _ _ (Act.put _ (some 159) _) _
              (try simp only [Act.put, List.setIfInBounds_toArray, List.set_cons_zero, List.set_cons_succ])
              refine wpAnyH_take (i := 22) (v := ?v1_22) rfl (by kernel_rfl) (by kernel_rfl) (by kernel_rfl) (fun _ _ _ h => h) (Or.inl ⟨by kernel_rfl, ?y1_22⟩) (by assumption) ?r1_22
              case y1_22 => (intro W hSW; (try dsimp only at hSW); go_simp; (try with_reducible rfl))
              change wpAnyH _ _ _ _ _ _ _ (Act.put _ (some 160) _) _
              (try simp only [Act.put, List.setIfInBounds_toArray, List.set_cons_zero, List.set_cons_succ])
              refine wpAnyH_take (i := 23) (v := ?v1_23) rfl (by kernel_rfl) (by kernel_rfl) (by kernel_rfl) (fun _ _ _ h => h) (Or.inl ⟨by kernel_rfl, ?y1_23⟩) (by assumption) ?r1_23
              case y1_23 => (intro W hSW; (try dsimp only at hSW); go_simp; (try with_reducible rfl))
              change wpAnyH _ _ _ _ _ _ _ (Act.put _ (some 161) _) _
              (try simp only [Act.put, List.setIfInBounds_toArray, List.set_cons_zero, List.set_cons_succ])
              refine wpAnyH_take (i := 24) (v := ?v1_24) rfl (by kernel_rfl) (by kernel_rfl) (by kernel_rfl) (fun _ _ _ h => h) (Or.inl ⟨by kernel_rfl, ?y1_24⟩) (by assumption) ?r1_24
              case y1_24 => (intro W hSW; (try dsimp only at hSW); go_simp; (try with_reducible rfl))
              change wpAnyH _ _ _ _ _ _ _ (Act.put _ (some 162) _) _
              (try simp only [Act.put, List.setIfInBounds_toArray, List.set_cons_zero, List.set_cons_succ])
              refine wpAnyH_take (i := 25) (v := ?v1_25) rfl (by kernel_rfl) (by kernel_rfl) (by kernel_rfl) (fun _ _ _ h => h) (Or.inl ⟨by kernel_rfl, ?y1_25⟩) (by assumption) ?r1_25
              case y1_25 => (intro W hSW; (try dsimp only at hSW); go_simp; (try with_reducible rfl))
              change wpAnyH _ _ _ _ _ _ _ (Act.put _ (some 163) _) _
              (try simp only [Act.put, List.setIfInBounds_toArray, List.set_cons_zero, List.set_cons_succ])
              refine wpAnyH_take (i := 26) (v := ?v1_26) rfl (by kernel_rfl) (by kernel_rfl) (by kernel_rfl) (fun _ _ _ h => h) (Or.inl ⟨by kernel_rfl, ?y1_26⟩) (by assumption) ?r1_26
              case y1_26 => (intro W hSW; (try dsimp only at hSW); go_simp; (try with_reducible rfl))
              change wpAnyH _ _ _ _ _ _ _ (Act.put _ (some 164) _) _
              (try simp only [Act.put, List.setIfInBounds_toArray, List.set_cons_zero, List.set_cons_succ])
              refine wpAnyH_take (i := 27) (v := ?v1_27) rfl (by kernel_rfl) (by kernel_rfl) (by kernel_rfl) (fun _ _ _ h => h) (Or.inl ⟨by kernel_rfl, ?y1_27⟩) (by assumption) ?r1_27
              case y1_27 => (intro W hSW; (try dsimp only at hSW); go_simp; (try with_reducible rfl))
              change wpAnyH _ _ _ _ _ _ _ (Act.put _ (some 165) _) _
              (try simp only [Act.put, List.setIfInBounds_toArray, List.set_cons_zero, List.set_cons_succ])
              refine wpAnyH_take (i := 28) (v := undef) rfl (by kernel_rfl) (by kernel_rfl) (by kernel_rfl) (fun _ _ _ h => h) (Or.inr ⟨by kernel_rfl, rfl⟩) (by assumption) ?_
              change wpAnyH _ _ _ _ _ _ _ (Act.put _ (some 166) _) _
              (try simp only [Act.put, List.setIfInBounds_toArray, List.set_cons_zero, List.set_cons_succ])
              refine wpAnyH_take (i := 29) (v := undef) rfl (by kernel_rfl) (by kernel_rfl) (by kernel_rfl) (fun _ _ _ h => h) (Or.inr ⟨by kernel_rfl, rfl⟩) (by assumption) ?_
              change wpAnyH _ _ _ _ _ _ _ (Act.put _ (some 167) _) _
              (try simp only [Act.put, List.setIfInBounds_toArray, List.set_cons_zero, List.set_cons_succ])
              refine wpAnyH_take (i := 30) (v := undef) rfl (by kernel_rfl) (by kernel_rfl) (by kernel_rfl) (fun _ _ _ h => h) (Or.inr ⟨by kernel_rfl, rfl⟩) (by assumption) ?_
              change wpAnyH _ _ _ _ _ _ _ (Act.put _ (some 168) _) _
              (try simp only [Act.put, List.setIfInBounds_toArray, List.set_cons_zero, List.set_cons_succ])
              refine wpAnyH_take (i := 31) (v := undef) rfl (by kernel_rfl) (by kernel_rfl) (by kernel_rfl) (fun _ _ _ h => h) (Or.inr ⟨by kernel_rfl, rfl⟩) (by assumption) ?_
              change wpAnyH _ _ _ _ _ _ _ (Act.put _ (some 169) _) _
              (try simp only [Act.put, List.setIfInBounds_toArray, List.set_cons_zero, List.set_cons_succ])
              refine wpAnyH_take (i := 32) (v := undef) rfl (by kernel_rfl) (by kernel_rfl) (by kernel_rfl) (fun _ _ _ h => h) (Or.inr ⟨by kernel_rfl, rfl⟩) (by assumption) ?_
              change wpAnyH _ _ _ _ _ _ _ (Act.put _ (some 170) _) _
              (try simp only [Act.put, List.setIfInBounds_toArray, List.set_cons_zero, List.set_cons_succ])
              refine wpAnyH_take (i := 33) (v := undef) rfl (by kernel_rfl) (by kernel_rfl) (by kernel_rfl) (fun _ _ _ h => h) (Or.inr ⟨by kernel_rfl, rfl⟩) (by assumption) ?_
              change wpAnyH _ _ _ _ _ _ _ (Act.put _ (some 171) _) _
              (try simp only [Act.put, List.setIfInBounds_toArray, List.set_cons_zero, List.set_cons_succ])
              refine wpAnyH_take (i := 34) (v := undef) rfl (by kernel_rfl) (by kernel_rfl) (by kernel_rfl) (fun _ _ _ h => h) (Or.inr ⟨by kernel_rfl, rfl⟩) (by assumption) ?_
              change wpAnyH _ _ _ _ _ _ _ (Act.put _ (some 172) _) _
              (try simp only [Act.put, List.setIfInBounds_toArray, List.set_cons_zero, List.set_cons_succ])
              refine wpAnyH_take (i := 35) (v := undef) rfl (by kernel_rfl) (by kernel_rfl) (by kernel_rfl) (fun _ _ _ h => h) (Or.inr ⟨by kernel_rfl, rfl⟩) (by assumption) ?_
              change wpAnyH _ _ _ _ _ _ _ (Act.put _ (some 173) _) _
              (try simp only [Act.put, List.setIfInBounds_toArray, List.set_cons_zero, List.set_cons_succ])
              refine wpAnyH_take (i := 36) (v := undef) rfl (by kernel_rfl) (by kernel_rfl) (by kernel_rfl) (fun _ _ _ h => h) (Or.inr ⟨by kernel_rfl, rfl⟩) (by assumption) ?_
              change wpAnyH _ _ _ _ _ _ _ (Act.put _ (some 174) _) _
              (try simp only [Act.put, List.setIfInBounds_toArray, List.set_cons_zero, List.set_cons_succ])
              refine wpAnyH_take (i := 37) (v := undef) rfl (by kernel_rfl) (by kernel_rfl) (by kernel_rfl) (fun _ _ _ h => h) (Or.inr ⟨by kernel_rfl, rfl⟩) (by assumption) ?_
              change wpAnyH _ _ _ _ _ _ _ (Act.put _ (some 175) _) _
              (try simp only [Act.put, List.setIfInBounds_toArray, List.set_cons_zero, List.set_cons_succ])
              refine wpAnyH_take (i := 38) (v := undef) rfl (by kernel_rfl) (by kernel_rfl) (by kernel_rfl) (fun _ _ _ h => h) (Or.inr ⟨by kernel_rfl, rfl⟩) (by assumption) ?_
              change wpAnyH _ _ _ _ _ _ _ (Act.put _ (some 176) _) _
              (try simp only [Act.put, List.setIfInBounds_toArray, List.set_cons_zero, List.set_cons_succ])
              refine wpAnyH_take (i := 39) (v := ?v1_39) rfl (by kernel_rfl) (by kernel_rfl) (by kernel_rfl) (fun _ _ _ h => h) (Or.inl ⟨by kernel_rfl, ?y1_39⟩) (by assumption) ?r1_39
              case y1_39 => (intro W hSW; (try dsimp only at hSW); go_simp; (try with_reducible rfl))
              change wpAnyH _ _ _ _ _ _ _ (Act.put _ (some 177) _) _
              (try simp only [Act.put, List.setIfInBounds_toArray, List.set_cons_zero, List.set_cons_succ])
              refine wpAnyH_take (i := 40) (v := ?v1_40) rfl (by kernel_rfl) (by kernel_rfl) (by kernel_rfl) (fun _ _ _ h => h) (Or.inl ⟨by kernel_rfl, ?y1_40⟩) (by assumption) ?r1_40
              case y1_40 => (intro W hSW; (try dsimp only at hSW); go_simp; (try with_reducible rfl))
              change wpAnyH _ _ _ _ _ _ _ (Act.put _ (some 178) _) _
              (try simp only [Act.put, List.setIfInBounds_toArray, List.set_cons_zero, List.set_cons_succ])
              refine wpAnyH_done (by kernel_rfl) ?_ _
              go_wp2_with fail
              go_meet
              exact SO7.out.fin
            · have k1' : decide (t < 2 * P + reading) = false := by simpa using k1
              by_cases k2 : 16777216 < t
              · have he : e = 22 := HM.out.2.1 rfl (.inr k2)
                subst he
                have k2' : decide (16777216 < t) = true := by simpa using k2
                clear k1
                refine wp_region_held_drew (S := fun w' => w'.cell? ⟨w.heap.size, 0, none⟩ = some (.int .i64 (owners.length : Int)) ∧ w'.cell? ⟨w.heap.size, 1, none⟩ = some (.slice oA owners.length oC) ∧ w'.cell? ⟨w.heap.size, 2, none⟩ = some (.int .i64 drift) ∧ w'.cell? ⟨w.heap.size, 3, none⟩ = some (.int .i64 reading) ∧ w'.cell? ⟨w.heap.size, 4, none⟩ = some (.int .i64 margin) ∧ w'.cell? ⟨w.heap.size, 5, none⟩ = some (.int .i64 bound) ∧ w'.cell? ⟨w.heap.size, 6, none⟩ = some (.int .i64 rejoin) ∧ w'.cell? ⟨w.heap.size, 7, none⟩ = some (.int .i64 quota) ∧ w'.cell? ⟨w.heap.size, 8, none⟩ = some (.slice pA parts.length pC) ∧ w'.cell? ⟨w.heap.size, 9, none⟩ = some (.slice wA windows.length wC) ∧ w'.cell? ⟨w.heap.size, 10, none⟩ = some (.slice qA ports.length qC) ∧ w'.cell? ⟨w.heap.size, 11, none⟩ = some (.slice lA links.length lC) ∧ w'.cell? ⟨w.heap.size + 1, 0, none⟩ = some (.int .i64 1) ∧ w'.cell? ⟨w.heap.size + 1, 2, none⟩ = some (.int .i64 t)) (by kernel_rfl) (⟨e0, e1, e2, e3, e4, e5, e6, e7, e8, e9, e10, e11, z0, z2⟩) (fun hHeld => ?_)
                refine wpAnyH_take (i := 0) (v := ?v2_0) rfl (by kernel_rfl) (by kernel_rfl) (by kernel_rfl) (fun _ _ _ h => h) (Or.inl ⟨by kernel_rfl, ?y2_0⟩) (by assumption) ?r2_0
                case y2_0 => (intro W hSW; (try dsimp only at hSW); go_simp; (try with_reducible rfl))
                change wpAnyH _ _ _ _ _ _ _ (Act.put _ (some 138) _) _
                (try simp only [Act.put, List.setIfInBounds_toArray, List.set_cons_zero, List.set_cons_succ])
                refine wpAnyH_take (i := 1) (v := ?v2_1) rfl (by kernel_rfl) (by kernel_rfl) (by kernel_rfl) (fun _ _ _ h => h) (Or.inl ⟨by kernel_rfl, ?y2_1⟩) (by assumption) ?r2_1
                case y2_1 => (intro W hSW; (try dsimp only at hSW); go_simp; (try with_reducible rfl))
                change wpAnyH _ _ _ _ _ _ _ (Act.put _ (some 139) _) _
                (try simp only [Act.put, List.setIfInBounds_toArray, List.set_cons_zero, List.set_cons_succ])
                refine wpAnyH_take (i := 2) (v := ?v2_2) rfl (by kernel_rfl) (by kernel_rfl) (by kernel_rfl) (fun _ _ _ h => h) (Or.inl ⟨by kernel_rfl, ?y2_2⟩) (by assumption) ?r2_2
                case y2_2 => (intro W hSW; (try dsimp only at hSW); go_simp; (try with_reducible rfl))
                change wpAnyH _ _ _ _ _ _ _ (Act.put _ (some 140) _) _
                (try simp only [Act.put, List.setIfInBounds_toArray, List.set_cons_zero, List.set_cons_succ])
                refine wpAnyH_take (i := 3) (v := ?v2_3) rfl (by kernel_rfl) (by kernel_rfl) (by kernel_rfl) (fun _ _ _ h => h) (Or.inl ⟨by kernel_rfl, ?y2_3⟩) (by assumption) ?r2_3
                case y2_3 => (intro W hSW; (try dsimp only at hSW); go_simp; (try with_reducible rfl))
                change wpAnyH _ _ _ _ _ _ _ (Act.put _ (some 141) _) _
                (try simp only [Act.put, List.setIfInBounds_toArray, List.set_cons_zero, List.set_cons_succ])
                refine wpAnyH_take (i := 4) (v := ?v2_4) rfl (by kernel_rfl) (by kernel_rfl) (by kernel_rfl) (fun _ _ _ h => h) (Or.inl ⟨by kernel_rfl, ?y2_4⟩) (by assumption) ?r2_4
                case y2_4 => (intro W hSW; (try dsimp only at hSW); go_simp; (try with_reducible rfl))
                change wpAnyH _ _ _ _ _ _ _ (Act.put _ (some 142) _) _
                (try simp only [Act.put, List.setIfInBounds_toArray, List.set_cons_zero, List.set_cons_succ])
                refine wpAnyH_take (i := 5) (v := ?v2_5) rfl (by kernel_rfl) (by kernel_rfl) (by kernel_rfl) (fun _ _ _ h => h) (Or.inl ⟨by kernel_rfl, ?y2_5⟩) (by assumption) ?r2_5
                case y2_5 => (intro W hSW; (try dsimp only at hSW); go_simp; (try with_reducible rfl))
                change wpAnyH _ _ _ _ _ _ _ (Act.put _ (some 143) _) _
                (try simp only [Act.put, List.setIfInBounds_toArray, List.set_cons_zero, List.set_cons_succ])
                refine wpAnyH_take (i := 6) (v := ?v2_6) rfl (by kernel_rfl) (by kernel_rfl) (by kernel_rfl) (fun _ _ _ h => h) (Or.inl ⟨by kernel_rfl, ?y2_6⟩) (by assumption) ?r2_6
                case y2_6 => (intro W hSW; (try dsimp only at hSW); go_simp; (try with_reducible rfl))
                change wpAnyH _ _ _ _ _ _ _ (Act.put _ (some 144) _) _
                (try simp only [Act.put, List.setIfInBounds_toArray, List.set_cons_zero, List.set_cons_succ])
                refine wpAnyH_take (i := 9) (v := ?v2_9) rfl (by kernel_rfl) (by kernel_rfl) (by kernel_rfl) (fun _ _ _ h => h) (Or.inl ⟨by kernel_rfl, ?y2_9⟩) (by assumption) ?r2_9
                case y2_9 => (intro W hSW; (try dsimp only at hSW); go_simp; (try with_reducible rfl))
                change wpAnyH _ _ _ _ _ _ _ (Act.put _ (some 147) _) _
                (try simp only [Act.put, List.setIfInBounds_toArray, List.set_cons_zero, List.set_cons_succ])
                refine wpAnyH_take (i := 10) (v := ?v2_10) rfl (by kernel_rfl) (by kernel_rfl) (by kernel_rfl) (fun _ _ _ h => h) (Or.inl ⟨by kernel_rfl, ?y2_10⟩) (by assumption) ?r2_10
                case y2_10 => (intro W hSW; (try dsimp only at hSW); go_simp; (try with_reducible rfl))
                change wpAnyH _ _ _ _ _ _ _ (Act.put _ (some 148) _) _
                (try simp only [Act.put, List.setIfInBounds_toArray, List.set_cons_zero, List.set_cons_succ])
                refine wpAnyH_ready (rs := [7]) (by kernel_rfl) (by simp) ?_
                refine AllReadyH.cons rfl (fun K hK => ?_) AllReadyH.nil
                rw [if_pos (by rfl)]
                go_simp
                refine (CP.out _ SO6.out.bel).mono ?_
                rintro e1' w7 ⟨rfl, hb7⟩
                have SO7 := hide (SO6.out.below hb7)
                clear hb7 hHeld e0 e1 e2 e3 e4 e5 e6 e7 e8 e9 e10 e11 z0 z1 z2 hsz hx1lt
                obtain ⟨_, ⟨hx1lt, e0, e1, e2, e3, e4, e5, e6, e7, e8, e9, e10, e11⟩, z0, z1, z2, hsz⟩ := SO7.out
                dsimp only at e0 e1 e2 e3 e4 e5 e6 e7 e8 e9 e10 e11
                go_wp2_with fail
                refine hK.out _ _ (⟨e0, e1, e2, e3, e4, e5, e6, e7, e8, e9, e10, e11, z0, z2⟩) (fun hHeld => ?_)
                clear hK K
                (try simp only [Act.put, List.setIfInBounds_toArray, List.set_cons_zero, List.set_cons_succ])
                refine wpAnyH_take (i := 8) (v := ?v2_8) rfl (by kernel_rfl) (by kernel_rfl) (by kernel_rfl) (fun _ _ _ h => h) (Or.inl ⟨by kernel_rfl, ?y2_8⟩) (by assumption) ?r2_8
                case y2_8 => (intro W hSW; (try dsimp only at hSW); go_simp; (try with_reducible rfl))
                change wpAnyH _ _ _ _ _ _ _ (Act.put _ (some 146) _) _
                (try simp only [Act.put, List.setIfInBounds_toArray, List.set_cons_zero, List.set_cons_succ])
                refine wpAnyH_take (i := 11) (v := ?v2_11) rfl (by kernel_rfl) (by kernel_rfl) (by kernel_rfl) (fun _ _ _ h => h) (Or.inl ⟨by kernel_rfl, ?y2_11⟩) (by assumption) ?r2_11
                case y2_11 => (intro W hSW; (try dsimp only at hSW); go_simp; (try with_reducible rfl))
                change wpAnyH _ _ _ _ _ _ _ (Act.put _ (some 149) _) _
                (try simp only [Act.put, List.setIfInBounds_toArray, List.set_cons_zero, List.set_cons_succ])
                refine wpAnyH_take (i := 12) (v := ?v2_12) rfl (by kernel_rfl) (by kernel_rfl) (by kernel_rfl) (fun _ _ _ h => h) (Or.inl ⟨by kernel_rfl, ?y2_12⟩) (by assumption) ?r2_12
                case y2_12 => (intro W hSW; (try dsimp only at hSW); go_simp; (try with_reducible rfl))
                change wpAnyH _ _ _ _ _ _ _ (Act.put _ (some 150) _) _
                (try simp only [Act.put, List.setIfInBounds_toArray, List.set_cons_zero, List.set_cons_succ])
                refine wpAnyH_take (i := 13) (v := ?v2_13) rfl (by kernel_rfl) (by kernel_rfl) (by kernel_rfl) (fun _ _ _ h => h) (Or.inl ⟨by kernel_rfl, ?y2_13⟩) (by assumption) ?r2_13
                case y2_13 => (intro W hSW; (try dsimp only at hSW); go_simp; (try with_reducible rfl))
                change wpAnyH _ _ _ _ _ _ _ (Act.put _ (some 151) _) _
                (try simp only [Act.put, List.setIfInBounds_toArray, List.set_cons_zero, List.set_cons_succ])
                refine wpAnyH_take (i := 14) (v := ?v2_14) rfl (by kernel_rfl) (by kernel_rfl) (by kernel_rfl) (fun _ _ _ h => h) (Or.inl ⟨by kernel_rfl, ?y2_14⟩) (by assumption) ?r2_14
                case y2_14 => (intro W hSW; (try dsimp only at hSW); go_simp; (try with_reducible rfl))
                change wpAnyH _ _ _ _ _ _ _ (Act.put _ (some 152) _) _
                (try simp only [Act.put, List.setIfInBounds_toArray, List.set_cons_zero, List.set_cons_succ])
                refine wpAnyH_take (i := 15) (v := ?v2_15) rfl (by kernel_rfl) (by kernel_rfl) (by kernel_rfl) (fun _ _ _ h => h) (Or.inl ⟨by kernel_rfl, ?y2_15⟩) (by assumption) ?r2_15
                case y2_15 => (intro W hSW; (try dsimp only at hSW); go_simp; (try with_reducible rfl))
                change wpAnyH _ _ _ _ _ _ _ (Act.put _ (some 153) _) _
                (try simp only [Act.put, List.setIfInBounds_toArray, List.set_cons_zero, List.set_cons_succ])
                refine wpAnyH_take (i := 16) (v := ?v2_16) rfl (by kernel_rfl) (by kernel_rfl) (by kernel_rfl) (fun _ _ _ h => h) (Or.inl ⟨by kernel_rfl, ?y2_16⟩) (by assumption) ?r2_16
                case y2_16 => (intro W hSW; (try dsimp only at hSW); go_simp; (try with_reducible rfl))
                change wpAnyH _ _ _ _ _ _ _ (Act.put _ (some 154) _) _
                (try simp only [Act.put, List.setIfInBounds_toArray, List.set_cons_zero, List.set_cons_succ])
                refine wpAnyH_take (i := 17) (v := ?v2_17) rfl (by kernel_rfl) (by kernel_rfl) (by kernel_rfl) (fun _ _ _ h => h) (Or.inl ⟨by kernel_rfl, ?y2_17⟩) (by assumption) ?r2_17
                case y2_17 => (intro W hSW; (try dsimp only at hSW); go_simp; (try with_reducible rfl))
                change wpAnyH _ _ _ _ _ _ _ (Act.put _ (some 155) _) _
                (try simp only [Act.put, List.setIfInBounds_toArray, List.set_cons_zero, List.set_cons_succ])
                refine wpAnyH_take (i := 18) (v := ?v2_18) rfl (by kernel_rfl) (by kernel_rfl) (by kernel_rfl) (fun _ _ _ h => h) (Or.inl ⟨by kernel_rfl, ?y2_18⟩) (by assumption) ?r2_18
                case y2_18 => (intro W hSW; (try dsimp only at hSW); go_simp; (try with_reducible rfl))
                change wpAnyH _ _ _ _ _ _ _ (Act.put _ (some 156) _) _
                (try simp only [Act.put, List.setIfInBounds_toArray, List.set_cons_zero, List.set_cons_succ])
                refine wpAnyH_take (i := 19) (v := ?v2_19) rfl (by kernel_rfl) (by kernel_rfl) (by kernel_rfl) (fun _ _ _ h => h) (Or.inl ⟨by kernel_rfl, ?y2_19⟩) (by assumption) ?r2_19
                case y2_19 => (intro W hSW; (try dsimp only at hSW); go_simp; (try with_reducible rfl))
                change wpAnyH _ _ _ _ _ _ _ (Act.put _ (some 157) _) _
                (try simp only [Act.put, List.setIfInBounds_toArray, List.set_cons_zero, List.set_cons_succ])
                refine wpAnyH_take (i := 20) (v := ?v2_20) rfl (by kernel_rfl) (by kernel_rfl) (by kernel_rfl) (fun _ _ _ h => h) (Or.inl ⟨by kernel_rfl, ?y2_20⟩) (by assumption) ?r2_20
                case y2_20 => (intro W hSW; (try dsimp only at hSW); go_simp; (try with_reducible rfl))
                change wpAnyH _ _ _ _ _ _ _ (Act.put _ (some 158) _) _
                (try simp only [Act.put, List.setIfInBounds_toArray, List.set_cons_zero, List.set_cons_succ])
                refine wpAnyH_take (i := 21) (v := ?v2_21) rfl (by kernel_rfl) (by kernel_rfl) (by kernel_rfl) (fun _ _ _ h => h) (Or.inl ⟨by kernel_rfl, ?y2_21⟩) (by assumption) ?r2_21
                case y2_21 => (intro W hSW; (try dsimp only at hSW); go_simp; (try with_reducible rfl))
                change wpAnyH _ _ _ _ _ _ _ (Act.put _ (some 159) _) _
                (try simp only [Act.put, List.setIfInBounds_toArray, List.set_cons_zero, List.set_cons_succ])
                refine wpAnyH_take (i := 22) (v := ?v2_22) rfl (by kernel_rfl) (by kernel_rfl) (by kernel_rfl) (fun _ _ _ h => h) (Or.inl ⟨by kernel_rfl, ?y2_22⟩) (by assumption) ?r2_22
                case y2_22 => (intro W hSW; (try dsimp only at hSW); go_simp; (try with_reducible rfl))
                change wpAnyH _ _ _ _ _ _ _ (Act.put _ (some 160) _) _
                (try simp only [Act.put, List.setIfInBounds_toArray, List.set_cons_zero, List.set_cons_succ])
                refine wpAnyH_take (i := 23) (v := ?v2_23) rfl (by kernel_rfl) (by kernel_rfl) (by kernel_rfl) (fun _ _ _ h => h) (Or.inl ⟨by kernel_rfl, ?y2_23⟩) (by assumption) ?r2_23
                case y2_23 => (intro W hSW; (try dsimp only at hSW); go_simp; (try with_reducible rfl))
                change wpAnyH _ _ _ _ _ _ _ (Act.put _ (some 161) _) _
                (try simp only [Act.put, List.setIfInBounds_toArray, List.set_cons_zero, List.set_cons_succ])
                refine wpAnyH_take (i := 24) (v := ?v2_24) rfl (by kernel_rfl) (by kernel_rfl) (by kernel_rfl) (fun _ _ _ h => h) (Or.inl ⟨by kernel_rfl, ?y2_24⟩) (by assumption) ?r2_24
                case y2_24 => (intro W hSW; (try dsimp only at hSW); go_simp; (try with_reducible rfl))
                change wpAnyH _ _ _ _ _ _ _ (Act.put _ (some 162) _) _
                (try simp only [Act.put, List.setIfInBounds_toArray, List.set_cons_zero, List.set_cons_succ])
                refine wpAnyH_take (i := 25) (v := ?v2_25) rfl (by kernel_rfl) (by kernel_rfl) (by kernel_rfl) (fun _ _ _ h => h) (Or.inl ⟨by kernel_rfl, ?y2_25⟩) (by assumption) ?r2_25
                case y2_25 => (intro W hSW; (try dsimp only at hSW); go_simp; (try with_reducible rfl))
                change wpAnyH _ _ _ _ _ _ _ (Act.put _ (some 163) _) _
                (try simp only [Act.put, List.setIfInBounds_toArray, List.set_cons_zero, List.set_cons_succ])
                refine wpAnyH_take (i := 26) (v := ?v2_26) rfl (by kernel_rfl) (by kernel_rfl) (by kernel_rfl) (fun _ _ _ h => h) (Or.inl ⟨by kernel_rfl, ?y2_26⟩) (by assumption) ?r2_26
                case y2_26 => (intro W hSW; (try dsimp only at hSW); go_simp; (try with_reducible rfl))
                change wpAnyH _ _ _ _ _ _ _ (Act.put _ (some 164) _) _
                (try simp only [Act.put, List.setIfInBounds_toArray, List.set_cons_zero, List.set_cons_succ])
                refine wpAnyH_take (i := 27) (v := ?v2_27) rfl (by kernel_rfl) (by kernel_rfl) (by kernel_rfl) (fun _ _ _ h => h) (Or.inl ⟨by kernel_rfl, ?y2_27⟩) (by assumption) ?r2_27
                case y2_27 => (intro W hSW; (try dsimp only at hSW); go_simp; (try with_reducible rfl))
                change wpAnyH _ _ _ _ _ _ _ (Act.put _ (some 165) _) _
                (try simp only [Act.put, List.setIfInBounds_toArray, List.set_cons_zero, List.set_cons_succ])
                refine wpAnyH_take (i := 28) (v := undef) rfl (by kernel_rfl) (by kernel_rfl) (by kernel_rfl) (fun _ _ _ h => h) (Or.inr ⟨by kernel_rfl, rfl⟩) (by assumption) ?_
                change wpAnyH _ _ _ _ _ _ _ (Act.put _ (some 166) _) _
                (try simp only [Act.put, List.setIfInBounds_toArray, List.set_cons_zero, List.set_cons_succ])
                refine wpAnyH_take (i := 29) (v := undef) rfl (by kernel_rfl) (by kernel_rfl) (by kernel_rfl) (fun _ _ _ h => h) (Or.inr ⟨by kernel_rfl, rfl⟩) (by assumption) ?_
                change wpAnyH _ _ _ _ _ _ _ (Act.put _ (some 167) _) _
                (try simp only [Act.put, List.setIfInBounds_toArray, List.set_cons_zero, List.set_cons_succ])
                refine wpAnyH_take (i := 30) (v := undef) rfl (by kernel_rfl) (by kernel_rfl) (by kernel_rfl) (fun _ _ _ h => h) (Or.inr ⟨by kernel_rfl, rfl⟩) (by assumption) ?_
                change wpAnyH _ _ _ _ _ _ _ (Act.put _ (some 168) _) _
                (try simp only [Act.put, List.setIfInBounds_toArray, List.set_cons_zero, List.set_cons_succ])
                refine wpAnyH_take (i := 31) (v := undef) rfl (by kernel_rfl) (by kernel_rfl) (by kernel_rfl) (fun _ _ _ h => h) (Or.inr ⟨by kernel_rfl, rfl⟩) (by assumption) ?_
                change wpAnyH _ _ _ _ _ _ _ (Act.put _ (some 169) _) _
                (try simp only [Act.put, List.setIfInBounds_toArray, List.set_cons_zero, List.set_cons_succ])
                refine wpAnyH_take (i := 32) (v := undef) rfl (by kernel_rfl) (by kernel_rfl) (by kernel_rfl) (fun _ _ _ h => h) (Or.inr ⟨by kernel_rfl, rfl⟩) (by assumption) ?_
                change wpAnyH _ _ _ _ _ _ _ (Act.put _ (some 170) _) _
                (try simp only [Act.put, List.setIfInBounds_toArray, List.set_cons_zero, List.set_cons_succ])
                refine wpAnyH_take (i := 33) (v := undef) rfl (by kernel_rfl) (by kernel_rfl) (by kernel_rfl) (fun _ _ _ h => h) (Or.inr ⟨by kernel_rfl, rfl⟩) (by assumption) ?_
                change wpAnyH _ _ _ _ _ _ _ (Act.put _ (some 171) _) _
                (try simp only [Act.put, List.setIfInBounds_toArray, List.set_cons_zero, List.set_cons_succ])
                refine wpAnyH_take (i := 34) (v := undef) rfl (by kernel_rfl) (by kernel_rfl) (by kernel_rfl) (fun _ _ _ h => h) (Or.inr ⟨by kernel_rfl, rfl⟩) (by assumption) ?_
                change wpAnyH _ _ _ _ _ _ _ (Act.put _ (some 172) _) _
                (try simp only [Act.put, List.setIfInBounds_toArray, List.set_cons_zero, List.set_cons_succ])
                refine wpAnyH_take (i := 35) (v := undef) rfl (by kernel_rfl) (by kernel_rfl) (by kernel_rfl) (fun _ _ _ h => h) (Or.inr ⟨by kernel_rfl, rfl⟩) (by assumption) ?_
                change wpAnyH _ _ _ _ _ _ _ (Act.put _ (some 173) _) _
                (try simp only [Act.put, List.setIfInBounds_toArray, List.set_cons_zero, List.set_cons_succ])
                refine wpAnyH_take (i := 36) (v := undef) rfl (by kernel_rfl) (by kernel_rfl) (by kernel_rfl) (fun _ _ _ h => h) (Or.inr ⟨by kernel_rfl, rfl⟩) (by assumption) ?_
                change wpAnyH _ _ _ _ _ _ _ (Act.put _ (some 174) _) _
                (try simp only [Act.put, List.setIfInBounds_toArray, List.set_cons_zero, List.set_cons_succ])
                refine wpAnyH_take (i := 37) (v := undef) rfl (by kernel_rfl) (by kernel_rfl) (by kernel_rfl) (fun _ _ _ h => h) (Or.inr ⟨by kernel_rfl, rfl⟩) (by assumption) ?_
                change wpAnyH _ _ _ _ _ _ _ (Act.put _ (some 175) _) _
                (try simp only [Act.put, List.setIfInBounds_toArray, List.set_cons_zero, List.set_cons_succ])
                refine wpAnyH_take (i := 38) (v := undef) rfl (by kernel_rfl) (by kernel_rfl) (by kernel_rfl) (fun _ _ _ h => h) (Or.inr ⟨by kernel_rfl, rfl⟩) (by assumption) ?_
                change wpAnyH _ _ _ _ _ _ _ (Act.put _ (some 176) _) _
                (try simp only [Act.put, List.setIfInBounds_toArray, List.set_cons_zero, List.set_cons_succ])
                refine wpAnyH_take (i := 39) (v := ?v2_39) rfl (by kernel_rfl) (by kernel_rfl) (by kernel_rfl) (fun _ _ _ h => h) (Or.inl ⟨by kernel_rfl, ?y2_39⟩) (by assumption) ?r2_39
                case y2_39 => (intro W hSW; (try dsimp only at hSW); go_simp; (try with_reducible rfl))
                change wpAnyH _ _ _ _ _ _ _ (Act.put _ (some 177) _) _
                (try simp only [Act.put, List.setIfInBounds_toArray, List.set_cons_zero, List.set_cons_succ])
                refine wpAnyH_take (i := 40) (v := ?v2_40) rfl (by kernel_rfl) (by kernel_rfl) (by kernel_rfl) (fun _ _ _ h => h) (Or.inl ⟨by kernel_rfl, ?y2_40⟩) (by assumption) ?r2_40
                case y2_40 => (intro W hSW; (try dsimp only at hSW); go_simp; (try with_reducible rfl))
                change wpAnyH _ _ _ _ _ _ _ (Act.put _ (some 178) _) _
                (try simp only [Act.put, List.setIfInBounds_toArray, List.set_cons_zero, List.set_cons_succ])
                refine wpAnyH_done (by kernel_rfl) ?_ _
                go_wp2_with fail
                go_meet
                exact SO7.out.fin
              · have k2' : decide (16777216 < t) = false := by simpa using k2
                clear k1 k2
                refine wp_region_held_drew (S := fun w' => w'.cell? ⟨w.heap.size, 0, none⟩ = some (.int .i64 (owners.length : Int)) ∧ w'.cell? ⟨w.heap.size, 1, none⟩ = some (.slice oA owners.length oC) ∧ w'.cell? ⟨w.heap.size, 2, none⟩ = some (.int .i64 drift) ∧ w'.cell? ⟨w.heap.size, 3, none⟩ = some (.int .i64 reading) ∧ w'.cell? ⟨w.heap.size, 4, none⟩ = some (.int .i64 margin) ∧ w'.cell? ⟨w.heap.size, 5, none⟩ = some (.int .i64 bound) ∧ w'.cell? ⟨w.heap.size, 6, none⟩ = some (.int .i64 rejoin) ∧ w'.cell? ⟨w.heap.size, 7, none⟩ = some (.int .i64 quota) ∧ w'.cell? ⟨w.heap.size, 8, none⟩ = some (.slice pA parts.length pC) ∧ w'.cell? ⟨w.heap.size, 9, none⟩ = some (.slice wA windows.length wC) ∧ w'.cell? ⟨w.heap.size, 10, none⟩ = some (.slice qA ports.length qC) ∧ w'.cell? ⟨w.heap.size, 11, none⟩ = some (.slice lA links.length lC) ∧ w'.cell? ⟨w.heap.size + 1, 0, none⟩ = some (.int .i64 1) ∧ w'.cell? ⟨w.heap.size + 1, 2, none⟩ = some (.int .i64 t)) (by kernel_rfl) (⟨e0, e1, e2, e3, e4, e5, e6, e7, e8, e9, e10, e11, z0, z2⟩) (fun hHeld => ?_)
                refine wpAnyH_take (i := 0) (v := ?v3_0) rfl (by kernel_rfl) (by kernel_rfl) (by kernel_rfl) (fun _ _ _ h => h) (Or.inl ⟨by kernel_rfl, ?y3_0⟩) (by assumption) ?r3_0
                case y3_0 => (intro W hSW; (try dsimp only at hSW); go_simp; (try with_reducible rfl))
                change wpAnyH _ _ _ _ _ _ _ (Act.put _ (some 138) _) _
                (try simp only [Act.put, List.setIfInBounds_toArray, List.set_cons_zero, List.set_cons_succ])
                refine wpAnyH_take (i := 1) (v := ?v3_1) rfl (by kernel_rfl) (by kernel_rfl) (by kernel_rfl) (fun _ _ _ h => h) (Or.inl ⟨by kernel_rfl, ?y3_1⟩) (by assumption) ?r3_1
                case y3_1 => (intro W hSW; (try dsimp only at hSW); go_simp; (try with_reducible rfl))
                change wpAnyH _ _ _ _ _ _ _ (Act.put _ (some 139) _) _
                (try simp only [Act.put, List.setIfInBounds_toArray, List.set_cons_zero, List.set_cons_succ])
                refine wpAnyH_take (i := 2) (v := ?v3_2) rfl (by kernel_rfl) (by kernel_rfl) (by kernel_rfl) (fun _ _ _ h => h) (Or.inl ⟨by kernel_rfl, ?y3_2⟩) (by assumption) ?r3_2
                case y3_2 => (intro W hSW; (try dsimp only at hSW); go_simp; (try with_reducible rfl))
                change wpAnyH _ _ _ _ _ _ _ (Act.put _ (some 140) _) _
                (try simp only [Act.put, List.setIfInBounds_toArray, List.set_cons_zero, List.set_cons_succ])
                refine wpAnyH_take (i := 3) (v := ?v3_3) rfl (by kernel_rfl) (by kernel_rfl) (by kernel_rfl) (fun _ _ _ h => h) (Or.inl ⟨by kernel_rfl, ?y3_3⟩) (by assumption) ?r3_3
                case y3_3 => (intro W hSW; (try dsimp only at hSW); go_simp; (try with_reducible rfl))
                change wpAnyH _ _ _ _ _ _ _ (Act.put _ (some 141) _) _
                (try simp only [Act.put, List.setIfInBounds_toArray, List.set_cons_zero, List.set_cons_succ])
                refine wpAnyH_take (i := 4) (v := ?v3_4) rfl (by kernel_rfl) (by kernel_rfl) (by kernel_rfl) (fun _ _ _ h => h) (Or.inl ⟨by kernel_rfl, ?y3_4⟩) (by assumption) ?r3_4
                case y3_4 => (intro W hSW; (try dsimp only at hSW); go_simp; (try with_reducible rfl))
                change wpAnyH _ _ _ _ _ _ _ (Act.put _ (some 142) _) _
                (try simp only [Act.put, List.setIfInBounds_toArray, List.set_cons_zero, List.set_cons_succ])
                refine wpAnyH_take (i := 5) (v := ?v3_5) rfl (by kernel_rfl) (by kernel_rfl) (by kernel_rfl) (fun _ _ _ h => h) (Or.inl ⟨by kernel_rfl, ?y3_5⟩) (by assumption) ?r3_5
                case y3_5 => (intro W hSW; (try dsimp only at hSW); go_simp; (try with_reducible rfl))
                change wpAnyH _ _ _ _ _ _ _ (Act.put _ (some 143) _) _
                (try simp only [Act.put, List.setIfInBounds_toArray, List.set_cons_zero, List.set_cons_succ])
                refine wpAnyH_take (i := 6) (v := ?v3_6) rfl (by kernel_rfl) (by kernel_rfl) (by kernel_rfl) (fun _ _ _ h => h) (Or.inl ⟨by kernel_rfl, ?y3_6⟩) (by assumption) ?r3_6
                case y3_6 => (intro W hSW; (try dsimp only at hSW); go_simp; (try with_reducible rfl))
                change wpAnyH _ _ _ _ _ _ _ (Act.put _ (some 144) _) _
                (try simp only [Act.put, List.setIfInBounds_toArray, List.set_cons_zero, List.set_cons_succ])
                refine wpAnyH_take (i := 9) (v := ?v3_9) rfl (by kernel_rfl) (by kernel_rfl) (by kernel_rfl) (fun _ _ _ h => h) (Or.inl ⟨by kernel_rfl, ?y3_9⟩) (by assumption) ?r3_9
                case y3_9 => (intro W hSW; (try dsimp only at hSW); go_simp; (try with_reducible rfl))
                change wpAnyH _ _ _ _ _ _ _ (Act.put _ (some 147) _) _
                (try simp only [Act.put, List.setIfInBounds_toArray, List.set_cons_zero, List.set_cons_succ])
                refine wpAnyH_take (i := 10) (v := ?v3_10) rfl (by kernel_rfl) (by kernel_rfl) (by kernel_rfl) (fun _ _ _ h => h) (Or.inl ⟨by kernel_rfl, ?y3_10⟩) (by assumption) ?r3_10
                case y3_10 => (intro W hSW; (try dsimp only at hSW); go_simp; (try with_reducible rfl))
                change wpAnyH _ _ _ _ _ _ _ (Act.put _ (some 148) _) _
                (try simp only [Act.put, List.setIfInBounds_toArray, List.set_cons_zero, List.set_cons_succ])
                refine wpAnyH_ready (rs := [7]) (by kernel_rfl) (by simp) ?_
                refine AllReadyH.cons rfl (fun K hK => ?_) AllReadyH.nil
                rw [if_pos (by rfl)]
                go_simp
                refine (CP.out _ SO6.out.bel).mono ?_
                rintro e1' w7 ⟨rfl, hb7⟩
                have SO7 := hide (SO6.out.below hb7)
                clear hb7 hHeld e0 e1 e2 e3 e4 e5 e6 e7 e8 e9 e10 e11 z0 z1 z2 hsz hx1lt
                obtain ⟨_, ⟨hx1lt, e0, e1, e2, e3, e4, e5, e6, e7, e8, e9, e10, e11⟩, z0, z1, z2, hsz⟩ := SO7.out
                dsimp only at e0 e1 e2 e3 e4 e5 e6 e7 e8 e9 e10 e11
                go_wp2_with fail
                refine hK.out _ _ (⟨e0, e1, e2, e3, e4, e5, e6, e7, e8, e9, e10, e11, z0, z2⟩) (fun hHeld => ?_)
                clear hK K
                (try simp only [Act.put, List.setIfInBounds_toArray, List.set_cons_zero, List.set_cons_succ])
                refine wpAnyH_take (i := 8) (v := ?v3_8) rfl (by kernel_rfl) (by kernel_rfl) (by kernel_rfl) (fun _ _ _ h => h) (Or.inl ⟨by kernel_rfl, ?y3_8⟩) (by assumption) ?r3_8
                case y3_8 => (intro W hSW; (try dsimp only at hSW); go_simp; (try with_reducible rfl))
                change wpAnyH _ _ _ _ _ _ _ (Act.put _ (some 146) _) _
                (try simp only [Act.put, List.setIfInBounds_toArray, List.set_cons_zero, List.set_cons_succ])
                refine wpAnyH_take (i := 11) (v := ?v3_11) rfl (by kernel_rfl) (by kernel_rfl) (by kernel_rfl) (fun _ _ _ h => h) (Or.inl ⟨by kernel_rfl, ?y3_11⟩) (by assumption) ?r3_11
                case y3_11 => (intro W hSW; (try dsimp only at hSW); go_simp; (try with_reducible rfl))
                change wpAnyH _ _ _ _ _ _ _ (Act.put _ (some 149) _) _
                (try simp only [Act.put, List.setIfInBounds_toArray, List.set_cons_zero, List.set_cons_succ])
                refine wpAnyH_take (i := 12) (v := ?v3_12) rfl (by kernel_rfl) (by kernel_rfl) (by kernel_rfl) (fun _ _ _ h => h) (Or.inl ⟨by kernel_rfl, ?y3_12⟩) (by assumption) ?r3_12
                case y3_12 => (intro W hSW; (try dsimp only at hSW); go_simp; (try with_reducible rfl))
                change wpAnyH _ _ _ _ _ _ _ (Act.put _ (some 150) _) _
                (try simp only [Act.put, List.setIfInBounds_toArray, List.set_cons_zero, List.set_cons_succ])
                refine wpAnyH_take (i := 13) (v := ?v3_13) rfl (by kernel_rfl) (by kernel_rfl) (by kernel_rfl) (fun _ _ _ h => h) (Or.inl ⟨by kernel_rfl, ?y3_13⟩) (by assumption) ?r3_13
                case y3_13 => (intro W hSW; (try dsimp only at hSW); go_simp; (try with_reducible rfl))
                change wpAnyH _ _ _ _ _ _ _ (Act.put _ (some 151) _) _
                (try simp only [Act.put, List.setIfInBounds_toArray, List.set_cons_zero, List.set_cons_succ])
                refine wpAnyH_take (i := 14) (v := ?v3_14) rfl (by kernel_rfl) (by kernel_rfl) (by kernel_rfl) (fun _ _ _ h => h) (Or.inl ⟨by kernel_rfl, ?y3_14⟩) (by assumption) ?r3_14
                case y3_14 => (intro W hSW; (try dsimp only at hSW); go_simp; (try with_reducible rfl))
                change wpAnyH _ _ _ _ _ _ _ (Act.put _ (some 152) _) _
                (try simp only [Act.put, List.setIfInBounds_toArray, List.set_cons_zero, List.set_cons_succ])
                refine wpAnyH_take (i := 15) (v := ?v3_15) rfl (by kernel_rfl) (by kernel_rfl) (by kernel_rfl) (fun _ _ _ h => h) (Or.inl ⟨by kernel_rfl, ?y3_15⟩) (by assumption) ?r3_15
                case y3_15 => (intro W hSW; (try dsimp only at hSW); go_simp; (try with_reducible rfl))
                change wpAnyH _ _ _ _ _ _ _ (Act.put _ (some 153) _) _
                (try simp only [Act.put, List.setIfInBounds_toArray, List.set_cons_zero, List.set_cons_succ])
                refine wpAnyH_take (i := 16) (v := ?v3_16) rfl (by kernel_rfl) (by kernel_rfl) (by kernel_rfl) (fun _ _ _ h => h) (Or.inl ⟨by kernel_rfl, ?y3_16⟩) (by assumption) ?r3_16
                case y3_16 => (intro W hSW; (try dsimp only at hSW); go_simp; (try with_reducible rfl))
                change wpAnyH _ _ _ _ _ _ _ (Act.put _ (some 154) _) _
                (try simp only [Act.put, List.setIfInBounds_toArray, List.set_cons_zero, List.set_cons_succ])
                refine wpAnyH_take (i := 17) (v := ?v3_17) rfl (by kernel_rfl) (by kernel_rfl) (by kernel_rfl) (fun _ _ _ h => h) (Or.inl ⟨by kernel_rfl, ?y3_17⟩) (by assumption) ?r3_17
                case y3_17 => (intro W hSW; (try dsimp only at hSW); go_simp; (try with_reducible rfl))
                change wpAnyH _ _ _ _ _ _ _ (Act.put _ (some 155) _) _
                (try simp only [Act.put, List.setIfInBounds_toArray, List.set_cons_zero, List.set_cons_succ])
                refine wpAnyH_take (i := 18) (v := ?v3_18) rfl (by kernel_rfl) (by kernel_rfl) (by kernel_rfl) (fun _ _ _ h => h) (Or.inl ⟨by kernel_rfl, ?y3_18⟩) (by assumption) ?r3_18
                case y3_18 => (intro W hSW; (try dsimp only at hSW); go_simp; (try with_reducible rfl))
                change wpAnyH _ _ _ _ _ _ _ (Act.put _ (some 156) _) _
                (try simp only [Act.put, List.setIfInBounds_toArray, List.set_cons_zero, List.set_cons_succ])
                refine wpAnyH_take (i := 19) (v := ?v3_19) rfl (by kernel_rfl) (by kernel_rfl) (by kernel_rfl) (fun _ _ _ h => h) (Or.inl ⟨by kernel_rfl, ?y3_19⟩) (by assumption) ?r3_19
                case y3_19 => (intro W hSW; (try dsimp only at hSW); go_simp; (try with_reducible rfl))
                change wpAnyH _ _ _ _ _ _ _ (Act.put _ (some 157) _) _
                (try simp only [Act.put, List.setIfInBounds_toArray, List.set_cons_zero, List.set_cons_succ])
                refine wpAnyH_take (i := 20) (v := undef) rfl (by kernel_rfl) (by kernel_rfl) (by kernel_rfl) (fun _ _ _ h => h) (Or.inr ⟨by kernel_rfl, rfl⟩) (by assumption) ?_
                change wpAnyH _ _ _ _ _ _ _ (Act.put _ (some 158) _) _
                (try simp only [Act.put, List.setIfInBounds_toArray, List.set_cons_zero, List.set_cons_succ])
                refine wpAnyH_take (i := 21) (v := undef) rfl (by kernel_rfl) (by kernel_rfl) (by kernel_rfl) (fun _ _ _ h => h) (Or.inr ⟨by kernel_rfl, rfl⟩) (by assumption) ?_
                change wpAnyH _ _ _ _ _ _ _ (Act.put _ (some 159) _) _
                (try simp only [Act.put, List.setIfInBounds_toArray, List.set_cons_zero, List.set_cons_succ])
                refine wpAnyH_take (i := 22) (v := ?v3_22) rfl (by kernel_rfl) (by kernel_rfl) (by kernel_rfl) (fun _ _ _ h => h) (Or.inl ⟨by kernel_rfl, ?y3_22⟩) (by assumption) ?r3_22
                case y3_22 => (intro W hSW; (try dsimp only at hSW); go_simp; (try with_reducible rfl))
                change wpAnyH _ _ _ _ _ _ _ (Act.put _ (some 160) _) _
                (try simp only [Act.put, List.setIfInBounds_toArray, List.set_cons_zero, List.set_cons_succ])
                refine wpAnyH_take (i := 23) (v := ?v3_23) rfl (by kernel_rfl) (by kernel_rfl) (by kernel_rfl) (fun _ _ _ h => h) (Or.inl ⟨by kernel_rfl, ?y3_23⟩) (by assumption) ?r3_23
                case y3_23 => (intro W hSW; (try dsimp only at hSW); go_simp; (try with_reducible rfl))
                change wpAnyH _ _ _ _ _ _ _ (Act.put _ (some 161) _) _
                (try simp only [Act.put, List.setIfInBounds_toArray, List.set_cons_zero, List.set_cons_succ])
                refine wpAnyH_take (i := 24) (v := ?v3_24) rfl (by kernel_rfl) (by kernel_rfl) (by kernel_rfl) (fun _ _ _ h => h) (Or.inl ⟨by kernel_rfl, ?y3_24⟩) (by assumption) ?r3_24
                case y3_24 => (intro W hSW; (try dsimp only at hSW); go_simp; (try with_reducible rfl))
                change wpAnyH _ _ _ _ _ _ _ (Act.put _ (some 162) _) _
                (try simp only [Act.put, List.setIfInBounds_toArray, List.set_cons_zero, List.set_cons_succ])
                refine wpAnyH_take (i := 25) (v := ?v3_25) rfl (by kernel_rfl) (by kernel_rfl) (by kernel_rfl) (fun _ _ _ h => h) (Or.inl ⟨by kernel_rfl, ?y3_25⟩) (by assumption) ?r3_25
                case y3_25 => (intro W hSW; (try dsimp only at hSW); go_simp; (try with_reducible rfl))
                change wpAnyH _ _ _ _ _ _ _ (Act.put _ (some 163) _) _
                (try simp only [Act.put, List.setIfInBounds_toArray, List.set_cons_zero, List.set_cons_succ])
                refine wpAnyH_take (i := 26) (v := ?v3_26) rfl (by kernel_rfl) (by kernel_rfl) (by kernel_rfl) (fun _ _ _ h => h) (Or.inl ⟨by kernel_rfl, ?y3_26⟩) (by assumption) ?r3_26
                case y3_26 => (intro W hSW; (try dsimp only at hSW); go_simp; (try with_reducible rfl))
                change wpAnyH _ _ _ _ _ _ _ (Act.put _ (some 164) _) _
                (try simp only [Act.put, List.setIfInBounds_toArray, List.set_cons_zero, List.set_cons_succ])
                refine wpAnyH_take (i := 27) (v := ?v3_27) rfl (by kernel_rfl) (by kernel_rfl) (by kernel_rfl) (fun _ _ _ h => h) (Or.inl ⟨by kernel_rfl, ?y3_27⟩) (by assumption) ?r3_27
                case y3_27 => (intro W hSW; (try dsimp only at hSW); go_simp; (try with_reducible rfl))
                change wpAnyH _ _ _ _ _ _ _ (Act.put _ (some 165) _) _
                (try simp only [Act.put, List.setIfInBounds_toArray, List.set_cons_zero, List.set_cons_succ])
                refine wpAnyH_take (i := 28) (v := undef) rfl (by kernel_rfl) (by kernel_rfl) (by kernel_rfl) (fun _ _ _ h => h) (Or.inr ⟨by kernel_rfl, rfl⟩) (by assumption) ?_
                change wpAnyH _ _ _ _ _ _ _ (Act.put _ (some 166) _) _
                (try simp only [Act.put, List.setIfInBounds_toArray, List.set_cons_zero, List.set_cons_succ])
                refine wpAnyH_take (i := 29) (v := undef) rfl (by kernel_rfl) (by kernel_rfl) (by kernel_rfl) (fun _ _ _ h => h) (Or.inr ⟨by kernel_rfl, rfl⟩) (by assumption) ?_
                change wpAnyH _ _ _ _ _ _ _ (Act.put _ (some 167) _) _
                (try simp only [Act.put, List.setIfInBounds_toArray, List.set_cons_zero, List.set_cons_succ])
                refine wpAnyH_take (i := 30) (v := undef) rfl (by kernel_rfl) (by kernel_rfl) (by kernel_rfl) (fun _ _ _ h => h) (Or.inr ⟨by kernel_rfl, rfl⟩) (by assumption) ?_
                change wpAnyH _ _ _ _ _ _ _ (Act.put _ (some 168) _) _
                (try simp only [Act.put, List.setIfInBounds_toArray, List.set_cons_zero, List.set_cons_succ])
                refine wpAnyH_take (i := 31) (v := undef) rfl (by kernel_rfl) (by kernel_rfl) (by kernel_rfl) (fun _ _ _ h => h) (Or.inr ⟨by kernel_rfl, rfl⟩) (by assumption) ?_
                change wpAnyH _ _ _ _ _ _ _ (Act.put _ (some 169) _) _
                (try simp only [Act.put, List.setIfInBounds_toArray, List.set_cons_zero, List.set_cons_succ])
                refine wpAnyH_take (i := 32) (v := undef) rfl (by kernel_rfl) (by kernel_rfl) (by kernel_rfl) (fun _ _ _ h => h) (Or.inr ⟨by kernel_rfl, rfl⟩) (by assumption) ?_
                change wpAnyH _ _ _ _ _ _ _ (Act.put _ (some 170) _) _
                (try simp only [Act.put, List.setIfInBounds_toArray, List.set_cons_zero, List.set_cons_succ])
                refine wpAnyH_take (i := 33) (v := undef) rfl (by kernel_rfl) (by kernel_rfl) (by kernel_rfl) (fun _ _ _ h => h) (Or.inr ⟨by kernel_rfl, rfl⟩) (by assumption) ?_
                change wpAnyH _ _ _ _ _ _ _ (Act.put _ (some 171) _) _
                (try simp only [Act.put, List.setIfInBounds_toArray, List.set_cons_zero, List.set_cons_succ])
                refine wpAnyH_take (i := 34) (v := undef) rfl (by kernel_rfl) (by kernel_rfl) (by kernel_rfl) (fun _ _ _ h => h) (Or.inr ⟨by kernel_rfl, rfl⟩) (by assumption) ?_
                change wpAnyH _ _ _ _ _ _ _ (Act.put _ (some 172) _) _
                (try simp only [Act.put, List.setIfInBounds_toArray, List.set_cons_zero, List.set_cons_succ])
                refine wpAnyH_take (i := 35) (v := undef) rfl (by kernel_rfl) (by kernel_rfl) (by kernel_rfl) (fun _ _ _ h => h) (Or.inr ⟨by kernel_rfl, rfl⟩) (by assumption) ?_
                change wpAnyH _ _ _ _ _ _ _ (Act.put _ (some 173) _) _
                (try simp only [Act.put, List.setIfInBounds_toArray, List.set_cons_zero, List.set_cons_succ])
                refine wpAnyH_take (i := 36) (v := undef) rfl (by kernel_rfl) (by kernel_rfl) (by kernel_rfl) (fun _ _ _ h => h) (Or.inr ⟨by kernel_rfl, rfl⟩) (by assumption) ?_
                change wpAnyH _ _ _ _ _ _ _ (Act.put _ (some 174) _) _
                (try simp only [Act.put, List.setIfInBounds_toArray, List.set_cons_zero, List.set_cons_succ])
                refine wpAnyH_take (i := 37) (v := undef) rfl (by kernel_rfl) (by kernel_rfl) (by kernel_rfl) (fun _ _ _ h => h) (Or.inr ⟨by kernel_rfl, rfl⟩) (by assumption) ?_
                change wpAnyH _ _ _ _ _ _ _ (Act.put _ (some 175) _) _
                (try simp only [Act.put, List.setIfInBounds_toArray, List.set_cons_zero, List.set_cons_succ])
                refine wpAnyH_take (i := 38) (v := undef) rfl (by kernel_rfl) (by kernel_rfl) (by kernel_rfl) (fun _ _ _ h => h) (Or.inr ⟨by kernel_rfl, rfl⟩) (by assumption) ?_
                change wpAnyH _ _ _ _ _ _ _ (Act.put _ (some 176) _) _
                (try simp only [Act.put, List.setIfInBounds_toArray, List.set_cons_zero, List.set_cons_succ])
                refine wpAnyH_take (i := 39) (v := ?v3_39) rfl (by kernel_rfl) (by kernel_rfl) (by kernel_rfl) (fun _ _ _ h => h) (Or.inl ⟨by kernel_rfl, ?y3_39⟩) (by assumption) ?r3_39
                case y3_39 => (intro W hSW; (try dsimp only at hSW); go_simp; (try with_reducible rfl))
                change wpAnyH _ _ _ _ _ _ _ (Act.put _ (some 177) _) _
                (try simp only [Act.put, List.setIfInBounds_toArray, List.set_cons_zero, List.set_cons_succ])
                refine wpAnyH_take (i := 40) (v := ?v3_40) rfl (by kernel_rfl) (by kernel_rfl) (by kernel_rfl) (fun _ _ _ h => h) (Or.inl ⟨by kernel_rfl, ?y3_40⟩) (by assumption) ?r3_40
                case y3_40 => (intro W hSW; (try dsimp only at hSW); go_simp; (try with_reducible rfl))
                change wpAnyH _ _ _ _ _ _ _ (Act.put _ (some 178) _) _
                (try simp only [Act.put, List.setIfInBounds_toArray, List.set_cons_zero, List.set_cons_succ])
                refine wpAnyH_done (by kernel_rfl) ?_ _
                go_wp2_with fail
                go_meet
                exact SO7.out.fin
          · have u1 : (f == 1) = false := by simpa using h1
            by_cases h2 : f = 2
            · subst h2
              have HM2 := HM.out.2.2 rfl
              by_cases k1 : t < 1
              · have he : e = 22 := HM2.1 (.inl k1)
                subst he
                clear HM2
                have k1' : decide (t < 1) = true := by simpa using k1
                go_quiet (fail)
                go_wp2_with fail
                go_meet
                exact (SO6.out.below (below_drewN (Below.refl _ _) _)).fin
              · have k1' : decide (t < 1) = false := by simpa using k1
                by_cases k2 : 8 < t
                · have he : e = 22 := HM2.1 (.inr k2)
                  subst he
                  clear HM2 k1
                  have k2' : decide (8 < t) = true := by simpa using k2
                  go_quiet (fail)
                  go_wp2_with fail
                  go_meet
                  exact (SO6.out.below (below_drewN (Below.refl _ _) _)).fin
                · have he : (e == 22) = false := by
                    simp only [beq_eq_false_iff_ne]
                    intro he
                    have := HM2.2 he
                    omega
                  have k2' : decide (8 < t) = false := by simpa using k2
                  clear HM2 k1 k2
                  go_quiet (fail)
                  go_wp2_with fail
                  go_meet
                  exact (SO6.out.below (below_drewN (Below.refl _ _) _)).fin
            · have u2 : (f == 2) = false := by simpa using h2
              clear h1 h2
              go_quiet (fail)
              go_wp2_with fail
              go_meet
              exact (SO6.out.below (below_drewN (Below.refl _ _) _)).fin
        case rest =>
          obtain ⟨rfl, hbel, hx⟩ := hcut
          clear e0 e1 e2 e3 e4 e5 e6 e7 e8 e9 e10 e11 z0 z1 z2 hsz hx1lt
          obtain ⟨hx1lt, e0, e1, e2, e3, e4, e5, e6, e7, e8, e9, e10, e11⟩ := hx
          dsimp only at e0 e1 e2 e3 e4 e5 e6 e7 e8 e9 e10 e11
          have HB := hide hbel
          rcases HM.out.1 with he | ⟨he1, he2⟩
          · subst he
            go_wp2_with (go_at_call 9; refine (CC2.out _ HB.out).mono ?_; rintro e w8 ⟨rfl, hb8⟩; have HB8 := hide (HB.out.trans (hb8.mono HB.out.size)); clear hb8)
            go_ret
            exact ⟨rfl, HB8.out⟩
          · by_cases he : e = 0
            · subst he
              go_wp2_with (go_at_call 9; refine (CC2.out _ HB.out).mono ?_; rintro e w8 ⟨rfl, hb8⟩; have HB8 := hide (HB.out.trans (hb8.mono HB.out.size)); clear hb8)
              go_ret
              exact ⟨rfl, HB8.out⟩
            · have he' : (e == 0) = false := by simpa using he
              have he3 : decide (L ≤ e) = true := by simpa using he1
              have he4 : decide (e ≤ 26) = true := by simpa using he2
              go_wp2_with (go_at_call 9; refine (CC2.out _ HB.out).mono ?_; rintro e w8 ⟨rfl, hb8⟩; have HB8 := hide (HB.out.trans (hb8.mono HB.out.size)); clear hb8)
              go_ret
              exact ⟨rfl, HB8.out⟩
    · go_wp2
      go_ret
      exact ⟨rfl, S2.out.bel⟩
  · have hz : (checkF c != 0) = true := by simpa using hc
    generalize checkF c = z at hz CC
    clear HA hg h hc
    obtain ⟨oA, oC, pA, pC, wA, wC, qA, qC, lA, lC⟩ := d
    obtain ⟨nodes, owners, drift, reading, margin, bound, rejoin, quota, parts, windows, ports, links⟩ := c
    obtain ⟨hl, e0, e1, e2, e3, e4, e5, e6, e7, e8, e9, e10, e11⟩ := CX.out _ S0.out

    unfold Conf.val at CC CG ⊢
    unfold Conf.cells at S0 e0 e1 e2 e3 e4 e5 e6 e7 e8 e9 e10 e11 hl
    dsimp only at CC CG S0 e0 e1 e2 e3 e4 e5 e6 e7 e8 e9 e10 e11 ⊢
    go_enter Tryd.func6, Tryd.ntmps6
    go_wp2_with (first
      | (go_at_call 20; refine (CA.out _ S0.out).mono ?_; rintro e w1 ⟨rfl, hb⟩; have S1 := hide (S0.out.below hb); clear hb e0 e1 e2 e3 e4 e5 e6 e7 e8 e9 e10 e11 hl; obtain ⟨hl, e0, e1, e2, e3, e4, e5, e6, e7, e8, e9, e10, e11⟩ := CX.out _ S1.out; dsimp only at e0 e1 e2 e3 e4 e5 e6 e7 e8 e9 e10 e11)
      | (go_at_call 7; refine (CG.out _ S1.out).mono ?_; rintro e w2 ⟨⟨b, rfl⟩, hb⟩; have S2 := hide (S1.out.below hb); clear hb e0 e1 e2 e3 e4 e5 e6 e7 e8 e9 e10 e11 hl; obtain ⟨hl, e0, e1, e2, e3, e4, e5, e6, e7, e8, e9, e10, e11⟩ := CX.out _ S2.out; dsimp only at e0 e1 e2 e3 e4 e5 e6 e7 e8 e9 e10 e11; cases b)
      | (go_at_call 9; refine (CC.out _ S2.out).mono ?_; rintro e w3 ⟨rfl, hb⟩; have S3 := hide (S2.out.below hb); clear hb e0 e1 e2 e3 e4 e5 e6 e7 e8 e9 e10 e11 hl; obtain ⟨hl, e0, e1, e2, e3, e4, e5, e6, e7, e8, e9, e10, e11⟩ := CX.out _ S3.out; dsimp only at e0 e1 e2 e3 e4 e5 e6 e7 e8 e9 e10 e11))
    all_goals go_ret
    · exact ⟨rfl, S3.out.bel⟩
    · exact ⟨rfl, S2.out.bel⟩
end Go.Proofs.YteakpfgociakdaaDoor
