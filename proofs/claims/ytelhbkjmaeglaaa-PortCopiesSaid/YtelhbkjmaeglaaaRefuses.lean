/-
  The walk of PortRefuses.
-/
import Derived.Test.YtelhbkjmaeglaaaArgs
namespace Go.Proofs.Ytelhbkjmaeglaaa
open Go.RowKit Go.Shelf Go.ChangeShapes
set_option linter.unusedVariables false

theorem putF_code (P : Prm) (S : St) (x : List Nat × Int) : (putF P S x).1 = 0 ∨ (putF P S x).1 = 41 := by
  unfold putF
  split
  · exact .inl rfl
  · split
    · exact .inr rfl
    · exact .inl rfl
theorem getF_code (P : Prm) (S : St) (z : Int) : (getF P S z).1.2 = 0 ∨ (getF P S z).1.2 = 42 ∨ (getF P S z).1.2 = 43 ∨ (getF P S z).1.2 = 44 := by
  unfold getF
  split
  · simp
  · split
    · simp
    · split <;> simp
/-- what is refused changes nothing -/
theorem refused_same (P : Prm) (S : St) (k : Int) (l : List Nat) (z : Int) (hk : k = 0 ∨ k = 2 ∨ k = 3) (hf : (askF P S k l z).1.2 = 40 ∨ (askF P S k l z).1.2 = 45 ∨ (askF P S k l z).1.2 = 2) : (askF P S k l z).2 = S := by
  rcases hk with rfl | rfl | rfl
  · have he : askF P S 0 l z = (([], (sendF P S l).1), (sendF P S l).2) := rfl
    rw [he] at hf ⊢
    simp only at hf ⊢
    unfold sendF at hf ⊢
    split
    · rfl
    · rename_i h1
      rw [if_neg h1] at hf
      split
      · rfl
      · rename_i h2
        rw [if_neg h2] at hf
        have := putF_code P S (l, 0); omega
  · have he : askF P S 2 l z = (([], (arriveF P S l z).1), (arriveF P S l z).2) := rfl
    rw [he] at hf ⊢
    simp only at hf ⊢
    unfold arriveF at hf ⊢
    split
    · rfl
    · rename_i h1
      rw [if_neg h1] at hf
      split
      · rfl
      · rename_i h2
        rw [if_neg h2] at hf
        split
        · rfl
        · rename_i h3
          rw [if_neg h3] at hf
          have := putF_code P S (l, z); omega
  · have he : askF P S 3 l z = recvF P S z := rfl
    rw [he] at hf ⊢
    unfold recvF at hf ⊢
    split
    · rfl
    · rename_i h1
      rw [if_neg h1] at hf
      split
      · rfl
      · rename_i h2
        rw [if_neg h2] at hf
        have := getF_code P S z; omega
/-- a copy beside its box -/
theorem pair_of {W W' : World} {base b b2 : Nat} {P : Prm} {h h2 : Value} {ms ms2 : List Msg} {S : St} (x : BoxS W base b P h ms S) (hb : Below W.heap.size W W') (y : BoxW W' W.heap.size b2 P h2 ms2 S.2) (ht : ms2.map Msg.tell = ms.map Msg.tell) :
    Pair W' base b b2 P h h2 ms ms2 S S := by
  have hbl := x.box.lt; have hbo := x.box.lo
  have hlen : ms2.length = ms.length := by have := congrArg List.length ht; simpa using this
  have hmem : ∀ m ∈ ms2, ∃ m' ∈ ms, m'.txt = m.txt ∧ m'.slot = m.slot := by
    intro m hm
    have h1 : m.tell ∈ ms.map Msg.tell := ht ▸ List.mem_map_of_mem hm
    obtain ⟨m', hm', h2⟩ := List.mem_map.1 h1
    simp only [Msg.tell, Prod.mk.injEq] at h2
    exact ⟨m', hm', h2.1, h2.2⟩
  refine ⟨x.later hb, ⟨y.from (by omega), ht.trans x.is, fun m hm => ?_, fun m hm => ?_, by rw [hlen]; exact x.few, fun hk => by rw [hlen]; exact x.one hk⟩, by have := y.lo; omega, fun k hk e => ?_⟩
  · obtain ⟨m', hm', h1, h3⟩ := hmem m hm
    rw [← h1]; exact x.size m' hm'
  · obtain ⟨m', hm', h1, h3⟩ := hmem m hm
    rw [← h3]; exact x.slot m' hm'
  · have h1 := (x.box.own_lt hk).1
    have h3 := (y.own_lt e).2.1
    omega
theorem BoxS.copies {W : World} {base b : Nat} {P : Prm} {h : Value} {ms : List Msg} {S : St} (x : BoxS W base b P h ms S) (ok : Okay P) :
    Calls Try.prog 21 #[.pointer (some ⟨b, 0, none⟩)] W fun e W' => (∃ (b2 : Nat) (h2 : Value) (ms2 : List Msg), e = .returned (.pointer (some ⟨b2, 0, none⟩)) ∧ Pair W' base b b2 P h h2 ms ms2 S S) ∧ Below W.heap.size W W' := by
  have h1 : P.p.oneCell' = true ∧ P.g.oneCell' = true := by
    rcases ok.is with ⟨_, _, hp, hg⟩ | ⟨_, _, hp, hg, _⟩ | ⟨_, _, hp, hg, _⟩ | ⟨_, _, hp, hg, _⟩ <;> rw [hp, hg] <;> exact ⟨rfl, rfl⟩
  have h2 := ok.s2
  refine (copy_at x.box h1.1 h1.2 (fun m hm => by have := x.size m hm; omega) (by have := x.few; omega)).mono ?_
  rintro e W' ⟨⟨b2, h', ms', rfl, y, ht⟩, hb⟩
  exact ⟨⟨b2, h', ms', rfl, pair_of x hb y ht⟩, hb⟩
theorem I64.le {z : Int} (h : I64 z) : z ≤ 9223372036854775807 := h.2

set_option maxRecDepth 100000 in
set_option maxHeartbeats 4000000 in
theorem refuses_any (pt k d s e f : Int) (L : List OpD) (N : Nat) (A : Option Addr) (cap : Nat) (x : OpD) (n2 : Nat) (A2 : Option Addr) (c2 : Nat) (w : World) (hN : L.length = N) (hcap : N ≤ cap) (hmax : cap ≤ maxLen) (hL : Ops w A L) (hn2 : x.l.length = n2) (hx : Bytes w A2 x.l) (hz : I64 x.z) :
    Calls Try.prog 8 #[.agg #[.int .i64 pt, .int .i64 k, .int .i64 d, .int .i64 s, .int .i64 e, .int .i64 f], .slice A N cap, .agg #[.int .i64 x.k, .slice A2 n2 c2, .int .i64 x.z]] w fun e w' => e = .returned (.bool true) ∧ Below w.heap.size w w' := by
  unfold maxLen at hmax
  obtain ⟨kx, hkx⟩ : ∃ kx, x.k = kx := ⟨_, rfl⟩
  obtain ⟨zx, hzx⟩ : ∃ zx, x.z = zx := ⟨_, rfl⟩
  obtain ⟨lx, hlx⟩ : ∃ lx, x.l = lx := ⟨_, rfl⟩
  rw [hkx, hzx]
  rw [hlx] at hx hn2
  rw [hzx] at hz
  clear hkx hzx hlx
  have HL := hide hL; have HN := hide hN; have HX := hide hx; have HN2 := hide hn2; have HZ := hide hz.le
  clear hL hN hx hn2 hz
  have hb1 := (bal w (.cells #[.int .i64 pt, .int .i64 k, .int .i64 d, .int .i64 s, .int .i64 e, .int .i64 f] 23)).alloc (by simp) (.cells #[.int .i64 kx, .slice A2 n2 c2, .int .i64 zx] 39)
  have hr1 := heap_alloc2_old w (.cells #[.int .i64 pt, .int .i64 k, .int .i64 d, .int .i64 s, .int .i64 e, .int .i64 f] 23) (.cells #[.int .i64 kx, .slice A2 n2 c2, .int .i64 zx] 39)
  have hr2 := heap_alloc2_new w (.cells #[.int .i64 pt, .int .i64 k, .int .i64 d, .int .i64 s, .int .i64 e, .int .i64 f] 23) (.cells #[.int .i64 kx, .slice A2 n2 c2, .int .i64 zx] 39)
  have hz1 : w.heap.size + 1 < ((w.alloc (.cells #[.int .i64 pt, .int .i64 k, .int .i64 d, .int .i64 s, .int .i64 e, .int .i64 f] 23)).alloc (.cells #[.int .i64 kx, .slice A2 n2 c2, .int .i64 zx] 39)).heap.size := by simp
  obtain ⟨w1, hw1⟩ : ∃ w1, (w.alloc (.cells #[.int .i64 pt, .int .i64 k, .int .i64 d, .int .i64 s, .int .i64 e, .int .i64 f] 23)).alloc (.cells #[.int .i64 kx, .slice A2 n2 c2, .int .i64 zx] 39) = w1 := ⟨_, rfl⟩
  rw [hw1] at hb1 hr1 hr2 hz1
  have B1 := hide hb1; have R1 := hide hr1; have R2 := hide hr2
  clear hb1 hr1 hr2
  go_enter Try.func8, Try.ntmps8
  go_wp2_with fail
  refine (alive_any w1).mono ?_
  rintro e' w2 ⟨rfl, hb2⟩
  have B2 := hide (B1.out.trans (hb2.mono (by omega)))
  have hz2 := hb2.size
  have r1 := (hb2.block w.heap.size (by omega)).trans R1.out
  have r2 := (hb2.block (w.heap.size + 1) (by omega)).trans R2.out
  have p0 : w2.cell? ⟨w.heap.size, 0, none⟩ = some (.int .i64 pt) := by rw [cell_of_row _ _ _ _ _ _ r1]; rfl
  have p1 : w2.cell? ⟨w.heap.size, 1, none⟩ = some (.int .i64 k) := by rw [cell_of_row _ _ _ _ _ _ r1]; rfl
  have p2 : w2.cell? ⟨w.heap.size, 2, none⟩ = some (.int .i64 d) := by rw [cell_of_row _ _ _ _ _ _ r1]; rfl
  have p3 : w2.cell? ⟨w.heap.size, 3, none⟩ = some (.int .i64 s) := by rw [cell_of_row _ _ _ _ _ _ r1]; rfl
  have p4 : w2.cell? ⟨w.heap.size, 4, none⟩ = some (.int .i64 e) := by rw [cell_of_row _ _ _ _ _ _ r1]; rfl
  have p5 : w2.cell? ⟨w.heap.size, 5, none⟩ = some (.int .i64 f) := by rw [cell_of_row _ _ _ _ _ _ r1]; rfl
  have q1 : w2.cell? ⟨w.heap.size + 1, 1, none⟩ = some (.slice A2 n2 c2) := by rw [cell_of_row _ _ _ _ _ _ r2]; rfl
  have RR2 := hide r2
  clear hb2 r1 r2 R1 R2 hw1
  by_cases hlen : 500 < N
  · go_wp2
    go_ret
    exact ⟨rfl, B2.out⟩
  by_cases hlen2 : 1000 < n2
  · go_wp2
    go_ret
    exact ⟨rfl, B2.out⟩
  go_wp2_with fail
  refine (new_any pt k d s e f w2).mono ?_
  rintro e' w3 ⟨h3, hb3⟩
  have B3 := hide (B2.out.trans (hb3.mono (by omega)))
  have hz3 := hb3.size
  have RR3 := hide ((hb3.block (w.heap.size + 1) (by omega)).trans RR2.out)
  clear hb3 p0 p1 p2 p3 p4 p5 q1 RR2
  rcases h3 with ⟨_, b, rfl, ok, x0⟩ | ⟨_, rfl⟩
  case inr =>
    go_wp2
    go_ret
    exact ⟨rfl, B3.out⟩
  obtain ⟨P, hP⟩ : ∃ P, prm pt k d s e f = P := ⟨_, rfl⟩
  rw [hP] at ok x0
  have OK := hide ok; have X0 := hide x0
  clear ok x0 hP
  go_wp2_with fail
  go_loopg [10] N (fun r i wr => ∃ (j : Nat) (h : Value) (ms : List Msg) (S : St), j + r = N ∧ i = .int .i64 j ∧ BoxS wr w2.heap.size b P h ms S ∧ Below w.heap.size w wr ∧ wr.heap[w.heap.size + 1]? = some (.cells #[.int .i64 kx, .slice A2 n2 c2, .int .i64 zx] 39 (0, 0)))
  case atStart => exact ⟨0, _, [], ([], false), by omega, rfl, X0.out, B3.out, RR3.out⟩
  case round =>
    obtain ⟨j, h, ms, S, hj, rfl, x1, hb, hr⟩ := hrel
    have X1 := hide x1; have HB := hide hb; have HR := hide hr
    clear x1 hb hr X0 B3 RR3
    have hzr : w2.heap.size ≤ wr.heap.size := by have := X1.out.box.lt; have := X1.out.box.lo; omega
    by_cases hlt : j < N
    · obtain ⟨bA, off, hAe, hbA, ⟨Aj, cj, q0, q1, q2, hby⟩, hk64, hz64⟩ := (HL.out.of_below HB.out (Nat.le_refl _)).at (k := j) (by rw [HN.out]; exact hlt)
      subst hAe
      generalize L.getD j default = y at q0 q1 q2 hby hz64
      have hc := ask_any X1.out OK.out y.k y.l y.l.length Aj cj y.z hz64.le rfl hby
      obtain ⟨R, hR⟩ : ∃ R, askF P S y.k y.l y.z = R := ⟨_, rfl⟩
      rw [hR] at hc
      generalize y.k = yk at q0 hc
      generalize y.z = yz at q2 hc
      generalize y.l.length = yn at q1 hc
      clear hR hby hk64 hz64
      go_wp2_with fail
      refine hc.mono ?_
      rintro e' w4 ⟨rfl, g⟩
      have hgb := g.bel
      obtain ⟨h', ms', x', k', hm'⟩ := g.is
      have X4 := hide x'; have HB4 := hide (HB.out.trans (hgb.mono (by omega)))
      have HR4 := hide ((hgb.block (w.heap.size + 1) (by omega)).trans HR.out)
      clear hc g hgb x' k' hm' q0 q1 q2
      go_wp2
      go_roundg (N - j - 1)
      case measure => omega
      case rel => exact ⟨j + 1, h', ms', R.2, by omega, by go_num, X4.out, HB4.out, HR4.out⟩
    · obtain rfl : j = N := by omega
      go_wp2_with fail
      refine (X1.out.copies OK.out).mono ?_
      rintro e' w4 ⟨⟨b2, h2, ms2, rfl, t⟩, hb4⟩
      have T := hide t; have HB4 := hide (HB.out.trans (hb4.mono (by omega)))
      have r2 := (hb4.block (w.heap.size + 1) (by omega)).trans HR.out
      have hz4 := hb4.size
      have HX4 := hide (HX.out.of_below HB4.out (Nat.le_refl _))
      have q0 : w4.cell? ⟨w.heap.size + 1, 0, none⟩ = some (.int .i64 kx) := by rw [cell_of_row _ _ _ _ _ _ r2]; rfl
      have q1 : w4.cell? ⟨w.heap.size + 1, 1, none⟩ = some (.slice A2 n2 c2) := by rw [cell_of_row _ _ _ _ _ _ r2]; rfl
      have q2 : w4.cell? ⟨w.heap.size + 1, 2, none⟩ = some (.int .i64 zx) := by rw [cell_of_row _ _ _ _ _ _ r2]; rfl
      have HR4 := hide r2
      clear t hb4 r2 HR
      have hc := ask_any T.out.x1 OK.out kx lx n2 A2 c2 zx HZ.out HN2.out HX4.out
      have hsame := refused_same P S kx lx zx
      obtain ⟨⟨⟨r, f2⟩, S2⟩, hR⟩ : ∃ R, askF P S kx lx zx = R := ⟨_, rfl⟩
      rw [hR] at hc hsame
      have HS := hide hsame
      clear hR hsame
      go_wp2_with fail
      refine hc.mono ?_
      rintro e' w5 ⟨rfl, g⟩
      have hgb := g.bel
      obtain ⟨h1', ms1', t5⟩ := T.out.first g
      have T5 := hide t5; have HB5 := hide (HB4.out.trans (hgb.mono (by omega)))
      have r2 := (hgb.block (w.heap.size + 1) (by omega)).trans HR4.out
      have q05 : w5.cell? ⟨w.heap.size + 1, 0, none⟩ = some (.int .i64 kx) := by rw [cell_of_row _ _ _ _ _ _ r2]; rfl
      clear g hgb t5 r2 hc q0 q1 q2 T
      go_upto_region 13 with fail
      go_cut [14] (fun v wc => ∃ g : Bool, v = .bool g ∧ wc = w5 ∧ (g = true → f2 = 40 ∨ f2 = 45 ∨ f2 = 2))
      case first =>
        by_cases hk1 : kx = 1
        · go_wp2
          go_meet
          case rel => exact ⟨_, rfl, rfl, by simp⟩
        · by_cases h40 : f2 = 40
          · subst h40
            go_wp2
            go_meet
            case rel => exact ⟨_, rfl, rfl, by simp⟩
          · by_cases h45 : f2 = 45
            · subst h45
              go_wp2
              go_meet
              case rel => exact ⟨_, rfl, rfl, by simp⟩
            · by_cases h2 : f2 = 2
              · subst h2
                go_wp2
                go_meet
                case rel => exact ⟨_, rfl, rfl, by simp⟩
              · go_wp2
                go_meet
                case rel => exact ⟨_, rfl, rfl, by simp; omega⟩
      case rest =>
        obtain ⟨g, rfl, rfl, hg⟩ := hcut
        have HG := hide hg
        clear hg
        have other : kx ≠ 0 → kx ≠ 2 → kx ≠ 3 → True := fun _ _ _ => trivial
        by_cases hk : kx = 0 ∨ kx = 2 ∨ kx = 3
        · rcases g with _ | _
          · rcases hk with rfl | rfl | rfl
            all_goals
              go_wp2
              go_ret
              exact ⟨rfl, HB5.out⟩
          · obtain rfl : S2 = S := HS.out hk (HG.out (by trivial))
            have hl1 := len_at T5.out.x1.box
            have hl2 := len_at T5.out.x2.box
            rw [T5.out.x1.len] at hl1
            rw [T5.out.x2.len] at hl2
            generalize S2.1.length = N2 at hl1 hl2
            have hsm := same_any T5.out OK.out
            rcases hk with rfl | rfl | rfl
            all_goals
              go_wp2_with fail
              refine hl1.mono ?_
              rintro e' w6 ⟨rfl, rfl⟩
              go_wp2_with fail
              refine hl2.mono ?_
              rintro e' w6 ⟨rfl, rfl⟩
              go_wp2_with fail
              refine hsm.mono ?_
              rintro e' w6 ⟨rfl, hb6⟩
              have HB6 := hide (HB5.out.trans (hb6.mono (by omega)))
              clear hb6 hl1 hl2 hsm
              go_wp2
              go_ret
              exact ⟨rfl, HB6.out⟩
        · have hk0 : ¬ kx = 0 := fun h => hk (.inl h)
          have hk2 : ¬ kx = 2 := fun h => hk (.inr (.inl h))
          have hk3 : ¬ kx = 3 := fun h => hk (.inr (.inr h))
          clear hk
          go_wp2
          go_ret
          exact ⟨rfl, HB5.out⟩
end Go.Proofs.Ytelhbkjmaeglaaa
