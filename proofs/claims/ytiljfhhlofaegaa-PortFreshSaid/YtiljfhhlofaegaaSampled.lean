/-
  The walk of PortFresh.
-/
import Derived.Test.YtiljfhhlofaegaaDest
import Derived.Test.YtiljfhhlofaegaaLast
namespace Go.Proofs.Ytiljfhhlofaegaa
open Go.RowKit Go.Shelf Go.ChangeShapes
set_option linter.unusedVariables false

/-- a slice of numbers of 16 bits that can be read -/
def Halves (w : World) (A : Option Addr) (l : List Nat) : Prop :=
  (∀ c ∈ l, c < 65536) ∧ (l = [] ∨ ∃ b off, A = some ⟨b, off, none⟩ ∧ b < w.heap.size ∧ ∀ i, i < l.length → w.cell? ⟨b, off + i, none⟩ = some (.int .u16 ((l.getD i 0 : Nat) : Int)))
theorem Halves.at {w : World} {A : Option Addr} {l : List Nat} (h : Halves w A l) {k : Nat} (hk : k < l.length) :
    ∃ b off, A = some ⟨b, off, none⟩ ∧ b < w.heap.size ∧ w.cell? ⟨b, off + k, none⟩ = some (.int .u16 ((l.getD k 0 : Nat) : Int)) ∧ l.getD k 0 < 65536 := by
  rcases h.2 with rfl | ⟨b, off, h1, h2, h3⟩
  · simp at hk
  · refine ⟨b, off, h1, h2, h3 k hk, ?_⟩
    rw [List.getD_eq_getElem?_getD, List.getElem?_eq_getElem hk]
    exact h.1 _ (List.getElem_mem hk)
theorem Halves.of_below {w w' : World} {A : Option Addr} {l : List Nat} {B : Nat} (h : Halves w A l) (hb : Below B w w') (hB : w.heap.size ≤ B) : Halves w' A l := by
  refine ⟨h.1, ?_⟩
  rcases h.2 with rfl | ⟨b, off, rfl, hlt, hc⟩
  · exact .inl rfl
  · refine .inr ⟨b, off, rfl, ?_, fun i hi => ?_⟩
    · have := hb.size; omega
    · rw [hb.cell (p := ⟨b, off + i, none⟩) (by show b < B; omega)]; exact hc i hi
theorem row_halves {w : World} {a : Option Addr} {len cap : Nat} {zs : List Int}
    (h : (a = none ∧ len = 0 ∧ cap = 0 ∧ zs = []) ∨
      ∃ x, a = some x ∧ len ≤ cap ∧ cap ≤ maxLen ∧ zs.length = cap ∧ (∀ i, i < zs.length → w.cell? (x.add i) = some (.int .u16 (zs.getD i 0))) ∧ ∀ n ∈ zs, (Lit.int .u16 n).wf = true) :
    ∃ l : List Nat, l.length = len ∧ len ≤ cap ∧ cap ≤ maxLen ∧ Halves w a l := by
  rcases h with ⟨rfl, rfl, rfl, rfl⟩ | ⟨x, rfl, hl, hm, hz, hcell, hwz⟩
  · exact ⟨[], rfl, Nat.le_refl _, Nat.zero_le _, by simp, .inl rfl⟩
  · have hb : ∀ n ∈ zs, 0 ≤ n ∧ n ≤ 65535 := fun n hn => bounds_u16 (hwz n hn)
    refine ⟨(zs.take len).map Int.toNat, by simp; omega, hl, hm, ?_, ?_⟩
    · intro c hc
      simp only [List.mem_map] at hc
      obtain ⟨n, hn, rfl⟩ := hc
      have := hb n (List.mem_of_mem_take hn)
      omega
    · rcases Nat.eq_zero_or_pos len with h0 | h0
      · subst h0; exact .inl rfl
      · have h1 := hcell 0 (by omega)
        obtain ⟨b, off, spot⟩ := x
        have hspot : spot = none := by simpa [Addr.add] using World.cell?_spot h1
        subst hspot
        refine .inr ⟨b, off, rfl, World.block_lt_of_cell? w _ h1, fun i hi => ?_⟩
        simp at hi
        have h2 := hcell i (by omega)
        have h3 : zs[i]? = some zs[i] := List.getElem?_eq_getElem (by omega)
        have h4 := hb zs[i] (List.getElem_mem _)
        rw [show (⟨b, off + i, none⟩ : Addr) = (⟨b, off, none⟩ : Addr).add i by unfold Addr.add; split <;> simp_all, h2]
        have h5 : i < len := by omega
        simp [List.getD_eq_getElem?_getD, h5, h3]
        omega
section
variable {H : Type} {enc : TypeId × Value → H} {w : World} {base : Nat} {spare : Nat → Bool} {held : Bool}
theorem halves_of {fuel : Nat} {a : Option Addr} {len cap : Nat} {x : DataW H × List MemPlace} (h : DataW.trod enc Try.prog w 0 (fun _ => true) true fuel 69 [.slice a len cap] = some x) :
    ∃ l : List Nat, l.length = len ∧ len ≤ cap ∧ cap ≤ maxLen ∧ Halves w a l := by
  rcases open_ints Try.underlying69 Try.underlying68 (by kernel_rfl) h with ⟨hcs, _⟩ | ⟨b, len', cap', zs, hcs, _, hl, hm, hz, _, hc, hwf⟩
  · simp at hcs
    exact row_halves (.inl ⟨hcs.1, hcs.2.1, hcs.2.2, rfl⟩)
  · simp at hcs
    obtain ⟨rfl, rfl, rfl⟩ := hcs
    simp only [if_true] at hz
    exact row_halves (.inr ⟨b, rfl, hl, hm, hz, hc, hwf⟩)
end

set_option maxRecDepth 100000 in
set_option maxHeartbeats 1000000 in
theorem sample_port (s f : Int) (w : World) : Calls Try.prog 18 #[.int .i64 s, .int .i64 f] w fun e' w' => e' = .returned (.agg #[.int .i64 0, .int .i64 1, .int .i64 2, .int .i64 s, .int .i64 0, .int .i64 f]) ∧ Below w.heap.size w w' := by
  have hz := (zero_of_info info_port).1
  have hn := hide (heap_alloc_new w (.cells zport 23))
  go_enter Try.func18, Try.ntmps18
  go_wp2_with (first
    | (refine wpList_built rfl 23 _ rfl #[.int .i64 0, .int .i64 1, .int .i64 2, .int .i64 s, .int .i64 0, .int .i64 f] (by kernel_rfl) ?_)
    | (refine wpList_store_row rfl 23 (.tmp 4) (.tmp 7) rfl w.heap.size #[.int .i64 0, .int .i64 1, .int .i64 2, .int .i64 s, .int .i64 0, .int .i64 f] rfl rfl 23 _ hn.out (port_info rfl) rfl (by simp [Value.oneCell']) ?_))
  refine bodyPost_ret (results_port (fn := Try.f18) rfl _ _ w.heap.size 23 _ (0, 0) rfl (setRow_heap _ _ _ _ _ _ hn.out) rfl) rfl ⟨rfl, below_setRow (bal w _) (Nat.le_refl _) _⟩

/-- a sampling port that receives messages of two bytes -/
def ss (f : Int) : Prm := ⟨0, 1, 2, 2, 0, f, 0, 0, 1, 65535, .func (.func 39) #[] #[], .func (.func 41) #[] #[]⟩
theorem new_sample (f : Int) (w : World) (hf : 1 ≤ f ∧ f ≤ 65535) : Calls Try.prog 10 #[.agg #[.int .i64 0, .int .i64 1, .int .i64 2, .int .i64 2, .int .i64 0, .int .i64 f]] w fun e' w' => (∃ b, e' = .returned (.tuple #[.pointer (some ⟨b, 0, none⟩), .int .i64 0]) ∧ BoxW w' w.heap.size b (ss f) (.slice none 0 0) [] false) ∧ Below w.heap.size w w' := by
  refine (new_at 0 1 2 2 0 f 0 0 1 65535 (.func (.func 39) #[] #[]) (.func (.func 41) #[] #[]) _ true w rfl (by simp [Value.oneCell']) rfl rfl true (by simp [hf])).mono ?_
  rintro e' w' ⟨⟨h1, _⟩, h2⟩
  obtain ⟨b, h3, h4, h5⟩ := h1 rfl
  exact ⟨⟨b, h3, BoxW.new h4 h5⟩, h2⟩

set_option maxRecDepth 100000 in
set_option maxHeartbeats 4000000 in
theorem fresh_any (a : Nat) (l : List Nat) (N : Nat) (A : Option Addr) (cap : Nat) (t : List Nat) (M : Nat) (T : Option Addr) (capt : Nat) (w : World) (ha : a < 65536) (hN : l.length = N) (hcap : N ≤ cap) (hmax : cap ≤ maxLen) (hB : Halves w A l) (hM : t.length = M) (hcapt : M ≤ capt) (hmaxt : capt ≤ maxLen) (hT : Halves w T t) :
    Calls Try.prog 6 #[.int .u16 a, .slice A N cap, .slice T M capt] w fun e w' => e = .returned (.bool true) ∧ Below w.heap.size w w' := by
  unfold maxLen at hmax hmaxt
  have HL := hide hB; have HN := hide hN; have HT := hide hT; have HM := hide hM
  clear hB hN hT hM
  go_enter Try.func6, Try.ntmps6
  go_wp2_with fail
  refine (alive_any w).mono ?_
  rintro e w1 ⟨rfl, hb1⟩
  have B1 := hide hb1
  have hz1 := hb1.size
  clear hb1
  by_cases hlen : 1000 < N
  · go_wp2
    go_ret
    exact ⟨rfl, B1.out⟩
  by_cases hlent : 1000 < M
  · go_wp2
    go_ret
    exact ⟨rfl, B1.out⟩
  have v1 : IntKind.i64.wrap (a : Int) = (a : Int) := i64_id (by omega) (by omega)
  obtain ⟨q, hq⟩ : ∃ q, a % 65535 = q := ⟨_, rfl⟩
  have v2 : (a : Int).tmod 65535 = (q : Int) := by rw [← hq]; rfl
  have hqlt : q < 65535 := by rw [← hq]; exact Nat.mod_lt _ (by omega)
  have v3 : IntKind.i64.wrap (q : Int) = (q : Int) := i64_id (by omega) (by omega)
  obtain ⟨f, hf⟩ : ∃ f : Nat, 1 + q = f := ⟨_, rfl⟩
  have v4 : IntKind.i64.wrap (1 + (q : Int)) = (f : Int) := by rw [i64_id (by omega) (by omega)]; omega
  go_wp2_with fail
  refine (sample_port 2 f w1).mono ?_
  rintro e w2 ⟨rfl, hb2⟩
  have B2 := hide (B1.out.trans (hb2.mono hz1))
  have hz2 := hb2.size
  clear hb2
  go_wp2_with fail
  refine (new_sample f w2 (by omega)).mono ?_
  rintro e w3 ⟨⟨b, rfl, x0⟩, hb3⟩
  have B3 := hide (B2.out.trans (hb3.mono (by omega)))
  have hz3 := hb3.size
  have X3 := hide x0
  clear hb3 x0
  go_wp2_with fail
  go_loopw [11] (fun i wr => ∃ (k : Nat) (ms : List Msg) (h : Value), k ≤ N ∧ i = .int .i64 k ∧ ms.length = min 1 k ∧ BoxW wr w2.heap.size b (ss f) h ms false ∧ Below w.heap.size w wr) (fun i _ => N - (intOf i).toNat)
  case atStart => exact ⟨0, [], _, by omega, rfl, rfl, X3.out, B3.out⟩
  case round =>
    obtain ⟨k, ms, h, hk, rfl, hms, x, hbr⟩ := hrel
    have X := hide x; have BR := hide hbr
    have hzr := hbr.size
    clear x hbr X3
    by_cases hlt : k < N
    · obtain ⟨bA, off, rfl, hbA, hcl, hu⟩ := (HL.out.of_below BR.out (Nat.le_refl _)).at (k := k) (by rw [HN.out]; exact hlt)
      obtain ⟨u, hu0⟩ : ∃ u, l.getD k 0 = u := ⟨_, rfl⟩
      rw [hu0] at hcl hu
      have v5 : IntKind.i64.wrap (u : Int) = (u : Int) := i64_id (by omega) (by omega)
      obtain ⟨c1, hc1⟩ : ∃ c1, k % 256 = c1 := ⟨_, rfl⟩
      obtain ⟨c2, hc2⟩ : ∃ c2, k / 256 % 256 = c2 := ⟨_, rfl⟩
      have v6 : IntKind.u8.wrap (k : Int) = (c1 : Int) := by show (k : Int) % 256 = _; omega
      obtain ⟨kq, hkq⟩ : ∃ kq, k / 256 = kq := ⟨_, rfl⟩
      have t7 : (k : Int).tdiv 256 = (kq : Int) := by rw [← hkq]; rfl
      have v7 : IntKind.i64.wrap (kq : Int) = (kq : Int) := i64_id (by omega) (by omega)
      have v8 : IntKind.u8.wrap (kq : Int) = (c2 : Int) := by show (kq : Int) % 256 = _; omega
      have HC := hide (show ∀ x ∈ [c1, c2], x < 256 by intro x hx; simp at hx; omega)
      have v9 : IntKind.i64.wrap ((u : Int) + f) = (u : Int) + f := i64_id (by omega) (by omega)
      have v10 : IntKind.i64.wrap ((u : Int) + f - 1) = (u : Int) + f - 1 := i64_id (by omega) (by omega)
      clear hu0 hms hc1 hc2
      go_wp2_with fail
      have HO := hide (OwnS.made (w := wr) (base := wr.heap.size) [c1, c2] HC.out (by simp [maxLen]) (Nat.le_refl _))
      have hxl := X.out.lt
      have hxo : ∀ k', h.ownBlock = some k' → k' < wr.heap.size := fun k' hk' => (X.out.own_lt hk').1
      refine (arrive_last (X.out.later (bal wr (.cells #[.int .u8 c1, .int .u8 c2] 5))) rfl rfl [c1, c2] 2 ⟨wr.heap.size, 0, none⟩ 2 u (by omega) rfl (by omega) rfl HO.out.bytes).mono ?_
      rintro e w5 ⟨rfl, h', m, hm1, hm2, x5, k5⟩
      have ho5 := HO.out.kept (k5.blk _ HO.out.blk (by omega) (fun e => by have := hxo _ e.symm; omega))
      have B5 := hide ((BR.out.trans ((bal wr (.cells #[.int .u8 c1, .int .u8 c2] 5)).mono hzr)).trans (k5.bel.mono (by omega)))
      have hz5 : wr.heap.size ≤ w5.heap.size := by have h := k5.siz; simp only [World.size_alloc] at h; omega
      have X5 := hide x5; have HO5 := hide ho5; have HM1 := hide hm1
      have hmt : m.txt.length ≤ 1000000 := by rw [hm1]; simp
      clear x5 k5 ho5 HO hxo hm1
      go_wp2_with fail
      refine (len_at X5.out).mono ?_
      rintro e w' ⟨rfl, rfl⟩
      go_wp2_with fail
      go_loopw [14] (fun i wq => ∃ j : Nat, j ≤ 2 ∧ i = .int .i64 j ∧ BoxW wq w2.heap.size b (ss f) h' [m] false ∧ OwnS wq wr.heap.size wr.heap.size 2 2 [c1, c2] ∧ Below w.heap.size w wq ∧ w5.heap.size ≤ wq.heap.size) (fun i _ => 2 - (intOf i).toNat)
      case atStart => exact ⟨0, by omega, rfl, X5.out, HO5.out, B5.out, Nat.le_refl _⟩
      case round =>
        obtain ⟨j, hj, rfl, xq, hoq, hbq, hzq⟩ := hrel
        have XQ := hide xq; have HOQ := hide hoq; have BQ := hide hbq
        clear xq hoq hbq X5 HO5 B5
        by_cases hj2 : j < 2
        · by_cases hkM : k < M
          · obtain ⟨bT, offT, rfl, hbT, hcT, hv⟩ := (HT.out.of_below BQ.out (Nat.le_refl _)).at (k := k) (by rw [HM.out]; exact hkM)
            obtain ⟨v, hv0⟩ : ∃ v, t.getD k 0 = v := ⟨_, rfl⟩
            rw [hv0] at hcT hv
            have v11 : IntKind.i64.wrap (v : Int) = (v : Int) := i64_id (by omega) (by omega)
            have v12 : IntKind.i64.wrap ((v : Int) - u) = (v : Int) - u := by rw [IntKind.wrap_i64]; omega
            clear hv0
            by_cases hst : (f : Int) ≤ (v : Int) - u
            · go_wp2_with fail
              refine (recv_last XQ.out rfl rfl hmt v (by omega) (by rw [hm2]; exact v12) true (by rw [hm2]; exact decide_eq_true hst)).mono ?_
              rintro e w6 ⟨⟨_, rfl⟩ | ⟨h, _⟩, b6⟩
              · have XQ6 := hide (XQ.out.later b6)
                have HOQ6 := hide (HOQ.out.later b6 HOQ.out.blk)
                have BQ6 := hide (BQ.out.trans (b6.mono (by omega)))
                have hz6 := b6.size
                clear b6 XQ HOQ BQ
                go_wp2
                go_roundw
                case rel => exact ⟨j + 1, by omega, by go_num, XQ6.out, HOQ6.out, BQ6.out, by omega⟩
                case measure => simp [intOf]; omega
              · cases h
            · go_wp2_with fail
              refine (recv_last XQ.out rfl rfl hmt v (by omega) (by rw [hm2]; exact v12) false (by rw [hm2]; exact decide_eq_false (p := (f : Int) ≤ (v : Int) - (u : Int)) (by omega))).mono ?_
              rintro e w6 ⟨⟨h, _⟩ | ⟨_, g1, cc, rfl, h6⟩, b6⟩
              · cases h
              · have XQ6 := hide (XQ.out.later b6)
                have HOQ6 := hide (HOQ.out.later b6 HOQ.out.blk)
                have BQ6 := hide (BQ.out.trans (b6.mono (by omega)))
                have hz6 := b6.size
                have st1 := str_of w6 (some ⟨g1, 0, none⟩) m.txt.length cc m.txt h6.bytes rfl
                have st0 := str_of w6 _ 2 2 [c1, c2] HOQ6.out.bytes rfl
                rw [HM1.out] at st1; simp only [List.length_cons, List.length_nil, Nat.zero_add, Nat.reduceAdd] at st1
                rw [HM1.out]
                clear b6 h6 XQ HOQ BQ
                go_wp2
                go_roundw
                case rel => exact ⟨j + 1, by omega, by go_num, XQ6.out, HOQ6.out, BQ6.out, by omega⟩
                case measure => simp [intOf]; omega
          · go_wp2_with fail
            refine (recv_last XQ.out rfl rfl hmt ((u : Int) + f - 1) (by omega) (by rw [hm2, IntKind.wrap_i64]; omega) false (by rw [hm2]; exact decide_eq_false (by show ¬ (f : Int) ≤ _; omega))).mono ?_
            rintro e w6 ⟨⟨h, _⟩ | ⟨_, g1, cc, rfl, h6⟩, b6⟩
            · cases h
            have XQ6 := hide (XQ.out.later b6)
            have HOQ6 := hide (HOQ.out.later b6 HOQ.out.blk)
            have BQ6 := hide (BQ.out.trans (b6.mono (by omega)))
            have H6 := hide h6
            have hz6 := b6.size
            clear h6 b6
            go_wp2_with fail
            refine (recv_last XQ6.out rfl rfl hmt ((u : Int) + f) (by omega) (by rw [hm2, IntKind.wrap_i64]; omega) true (by rw [hm2]; exact decide_eq_true (by show (f : Int) ≤ _; omega))).mono ?_
            rintro e w7 ⟨⟨_, rfl⟩ | ⟨h, _⟩, b7⟩
            · have XQ7 := hide (XQ6.out.later b7)
              have BQ7 := hide (BQ6.out.trans (b7.mono (by omega)))
              have st1 := str_of w7 (some ⟨g1, 0, none⟩) m.txt.length cc m.txt (H6.out.later b7 H6.out.blk).bytes rfl
              have st0 := str_of w7 _ 2 2 [c1, c2] (HOQ6.out.later b7 HOQ6.out.blk).bytes rfl
              rw [HM1.out] at st1; simp only [List.length_cons, List.length_nil, Nat.zero_add, Nat.reduceAdd] at st1
              rw [HM1.out]
              clear b7 XQ6 HOQ6 BQ6 H6 XQ HOQ BQ
              go_wp2
              go_roundw
              case rel => exact ⟨k + 1, [m], h', by omega, by go_num, by simp, XQ7.out, BQ7.out⟩
              case measure => simp [intOf]; omega
            · cases h
        · go_wp2_with fail
          refine (recv_last XQ.out rfl rfl hmt ((u : Int) + f - 1) (by omega) (by rw [hm2, IntKind.wrap_i64]; omega) false (by rw [hm2]; exact decide_eq_false (by show ¬ (f : Int) ≤ _; omega))).mono ?_
          rintro e w6 ⟨⟨h, _⟩ | ⟨_, g1, cc, rfl, h6⟩, b6⟩
          · cases h
          have XQ6 := hide (XQ.out.later b6)
          have HOQ6 := hide (HOQ.out.later b6 HOQ.out.blk)
          have BQ6 := hide (BQ.out.trans (b6.mono (by omega)))
          have H6 := hide h6
          have hz6 := b6.size
          clear h6 b6
          go_wp2_with fail
          refine (recv_last XQ6.out rfl rfl hmt ((u : Int) + f) (by omega) (by rw [hm2, IntKind.wrap_i64]; omega) true (by rw [hm2]; exact decide_eq_true (by show (f : Int) ≤ _; omega))).mono ?_
          rintro e w7 ⟨⟨_, rfl⟩ | ⟨h, _⟩, b7⟩
          · have XQ7 := hide (XQ6.out.later b7)
            have BQ7 := hide (BQ6.out.trans (b7.mono (by omega)))
            have st1 := str_of w7 (some ⟨g1, 0, none⟩) m.txt.length cc m.txt (H6.out.later b7 H6.out.blk).bytes rfl
            have st0 := str_of w7 _ 2 2 [c1, c2] (HOQ6.out.later b7 HOQ6.out.blk).bytes rfl
            rw [HM1.out] at st1; simp only [List.length_cons, List.length_nil, Nat.zero_add, Nat.reduceAdd] at st1
            rw [HM1.out]
            clear b7 XQ6 HOQ6 BQ6 H6 XQ HOQ BQ
            go_wp2
            go_roundw
            case rel => exact ⟨k + 1, [m], h', by omega, by go_num, by simp, XQ7.out, BQ7.out⟩
            case measure => simp [intOf]; omega
          · cases h
    · obtain rfl : k = N := by omega
      rcases Nat.eq_zero_or_pos k with hk0 | hk0
      · obtain ⟨q2, hq2⟩ : ∃ q2, ms.length = q2 := ⟨_, rfl⟩
        have hq3 : q2 = 0 := by omega
        clear hms
        subst hk0 hq3
        go_wp2_with fail
        refine (len_at X.out).mono ?_
        rintro e w' ⟨rfl, rfl⟩
        go_wp2
        go_ret
        exact ⟨rfl, BR.out⟩
      · have hml : ms.length = 1 := by omega
        clear hms
        go_wp2_with fail
        refine (len_at X.out).mono ?_
        rintro e w' ⟨rfl, rfl⟩
        go_wp2
        go_ret
        exact ⟨rfl, BR.out⟩
end Go.Proofs.Ytiljfhhlofaegaa
