/-
  Spans that lie in a slice; the document's own answers on them: whether a place is in one, and the least place that fits.
-/
import Derived.Test.YtpnpbnfjhnmhjaaPl
import Derived.Test.YtpnpbnfjhnmhjaaPcN
namespace Go.Proofs.Ytpnpbnfjhnmhjaa
open Go.RowKit Go.Shelf
set_option linter.unusedVariables false
set_option linter.unusedSimpArgs false
set_option maxRecDepth 100000

def Sps (w : World) (A : Option Addr) (l : List Ai) : Prop :=
  (∀ z ∈ l, I64 z.1 ∧ I64 z.2) ∧ Lies w A l.length 2 fun i b o => w.cell? ⟨b, o, none⟩ = some (.int .i64 (l.getD i (0, 0)).1) ∧ w.cell? ⟨b, o + 1, none⟩ = some (.int .i64 (l.getD i (0, 0)).2)
theorem Sps.of_below {w w' : World} {A : Option Addr} {l : List Ai} {B : Nat} (h : Sps w A l) (hb : Below B w w') (hB : w.heap.size ≤ B) : Sps w' A l :=
  ⟨h.1, h.2.of_below hb hB fun _ _ _ _ hlt hp => ⟨cell_below hb hB hlt hp.1, cell_below hb hB hlt hp.2⟩⟩
theorem Sps.at {w : World} {A : Option Addr} {l : List Ai} (h : Sps w A l) {k : Nat} (hk : k < l.length) :
    ∃ b off, A = some ⟨b, off, none⟩ ∧ b < w.heap.size ∧ w.cell? ⟨b, off + k * 2, none⟩ = some (.int .i64 (l.getD k (0, 0)).1) ∧ w.cell? ⟨b, off + k * 2 + 1, none⟩ = some (.int .i64 (l.getD k (0, 0)).2) := by
  rcases h.2 with h0 | ⟨b, off, rfl, hlt, hc⟩
  · omega
  · exact ⟨b, off, rfl, hlt, hc k hk⟩
theorem Sps.nil (w : World) (A : Option Addr) : Sps w A [] := ⟨fun z h => (by cases h), .inl rfl⟩
theorem mem_at {l : List Ai} {k : Nat} (h : k < l.length) : l.getD k (0, 0) ∈ l := by
  rw [List.getD_eq_getElem?_getD, List.getElem?_eq_getElem h]; exact List.getElem_mem _
theorem inB_take {l : List Ai} {k : Nat} {p : Int} (h : k < l.length) : inB (l.take (k + 1)) p = (inB (l.take k) p || (decide ((l.getD k (0, 0)).1 ≤ p) && decide (p < (l.getD k (0, 0)).2))) := by
  rw [take_snoc l (0, 0) k h, inB_snoc]
theorem inB_hit {l : List Ai} {k : Nat} {p : Int} (h : k < l.length) (h1 : (l.getD k (0, 0)).1 ≤ p) (h2 : p < (l.getD k (0, 0)).2) : inB l p = true := inB_iff.2 ⟨_, mem_at h, h1, h2⟩

set_option maxHeartbeats 1000000 in
theorem rin_at (l : List Ai) (A : Option Addr) (c : Nat) (p : Int) (w : World) (hI : Sps w A l) (hl : l.length ≤ 9223372036854775806) :
    Calls Try.prog 21 #[.slice A l.length c, .int .i64 p] w fun e w' => e = .returned (.bool (inB l p)) ∧ w = w' := by
  have HI := hide hI
  obtain ⟨m, hm⟩ : ∃ m, m = l.length := ⟨_, rfl⟩
  have HN := hide hm
  rw [← hm] at hl ⊢
  clear hI hm
  go_enter Try.func21, Try.ntmps21
  go_wp2
  go_loop [5] (fun i => ∃ k : Nat, k ≤ m ∧ i = .int .i64 k ∧ inB (l.take k) p = false) (fun i => m - (intOf i).toNat)
  case atStart => exact ⟨0, Nat.zero_le _, rfl, rfl⟩
  case round =>
    obtain ⟨k, hk, rfl, hall⟩ := hrel
    have HA := hide hall
    by_cases hlt : k < m
    · have hkl : k < l.length := by rw [← HN.out]; exact hlt
      obtain ⟨b, off, rfl, hbl, c0, c1⟩ := HI.out.at hkl
      have HT := hide (inB_take (p := p) hkl)
      have HH := hide (inB_hit (p := p) hkl)
      generalize l.getD k (0, 0) = a at *
      obtain ⟨f, g⟩ := a
      dsimp only at c0 c1
      clear hall hkl
      by_cases h1 : f ≤ p
      · by_cases h2 : p < g
        · have HV := hide (HH.out h1 h2)
          go_wp2
          go_ret
          exact ⟨by rw [HV.out]; rfl, rfl⟩
        · have HV := hide (show inB (l.take (k + 1)) p = false by rw [HT.out, HA.out]; simp; omega)
          go_wp2
          go_round
          case rel => exact ⟨k + 1, by omega, by go_num, HV.out⟩
          case measure => simp [intOf]; omega
      · have HV := hide (show inB (l.take (k + 1)) p = false by rw [HT.out, HA.out]; simp; omega)
        go_wp2
        go_round
        case rel => exact ⟨k + 1, by omega, by go_num, HV.out⟩
        case measure => simp [intOf]; omega
    · obtain rfl : k = m := by omega
      have HV := hide (show inB l p = false by have := HA.out; rwa [HN.out, List.take_length] at this)
      clear hall
      go_wp2
      go_ret
      exact ⟨by rw [HV.out]; rfl, rfl⟩

/-- may numbers be? -/
def mayB (size align limit : Int) : Bool := decide (0 ≤ size ∧ size ≤ 1048576 ∧ 1 ≤ align ∧ align ≤ 1048576 ∧ 0 ≤ limit ∧ limit ≤ 1048576)
theorem mayB_t {size align limit : Int} (h : mayB size align limit = true) : 0 ≤ size ∧ size ≤ 1048576 ∧ 1 ≤ align ∧ align ≤ 1048576 ∧ 0 ≤ limit ∧ limit ≤ 1048576 := of_decide_eq_true h

theorem rmay_at (size align limit : Int) (w : World) :
    Calls Try.prog 26 #[.int .i64 size, .int .i64 align, .int .i64 limit] w fun e w' => e = .returned (.bool (mayB size align limit)) ∧ w = w' := by
  have H : Hid (mayB size align limit = decide (0 ≤ size ∧ size ≤ 1048576 ∧ 1 ≤ align ∧ align ≤ 1048576 ∧ 0 ≤ limit ∧ limit ≤ 1048576)) := rfl
  generalize mayB size align limit = b at *
  have H0 := hide (fun (h : ¬ (0 ≤ size ∧ size ≤ 1048576 ∧ 1 ≤ align ∧ align ≤ 1048576 ∧ 0 ≤ limit ∧ limit ≤ 1048576)) => H.out.trans (decide_eq_false h))
  have H1 := hide (fun (h : (0 ≤ size ∧ size ≤ 1048576 ∧ 1 ≤ align ∧ align ≤ 1048576 ∧ 0 ≤ limit)) => H.out.trans (show decide (0 ≤ size ∧ size ≤ 1048576 ∧ 1 ≤ align ∧ align ≤ 1048576 ∧ 0 ≤ limit ∧ limit ≤ 1048576) = decide (limit ≤ 1048576) by simp [h]))
  clear H
  by_cases h1 : 0 ≤ size
  · by_cases h2 : size ≤ 1048576
    · by_cases h3 : 1 ≤ align
      · by_cases h4 : align ≤ 1048576
        · by_cases h5 : 0 ≤ limit
          · have HV := hide (H1.out ⟨h1, h2, h3, h4, h5⟩)
            go_enter Try.func26, Try.ntmps26
            go_wp2
            go_ret
            exact ⟨by rw [HV.out]; rfl, rfl⟩
          · have HV := hide (H0.out (by omega))
            go_enter Try.func26, Try.ntmps26
            go_wp2
            go_ret
            exact ⟨by rw [HV.out]; rfl, rfl⟩
        · have HV := hide (H0.out (by omega))
          go_enter Try.func26, Try.ntmps26
          go_wp2
          go_ret
          exact ⟨by rw [HV.out]; rfl, rfl⟩
      · have HV := hide (H0.out (by omega))
        go_enter Try.func26, Try.ntmps26
        go_wp2
        go_ret
        exact ⟨by rw [HV.out]; rfl, rfl⟩
    · have HV := hide (H0.out (by omega))
      go_enter Try.func26, Try.ntmps26
      go_wp2
      go_ret
      exact ⟨by rw [HV.out]; rfl, rfl⟩
  · have HV := hide (H0.out (by omega))
    go_enter Try.func26, Try.ntmps26
    go_wp2
    go_ret
    exact ⟨by rw [HV.out]; rfl, rfl⟩

/-- n places from a on, are they free? -/
def runB (t : Nat → Bool) (a n : Nat) : Bool := (List.range n).all fun j => !t (a + j)
theorem runB_succ (t : Nat → Bool) (a n : Nat) : runB t a (n + 1) = (runB t a n && !t (a + n)) := by
  unfold runB; rw [List.range_succ, List.all_append]; simp
theorem runB_iff {t : Nat → Bool} {a n : Nat} : runB t a n = true ↔ ∀ q, a ≤ q → q < a + n → t q = false := by
  unfold runB
  rw [List.all_eq_true]
  constructor
  · intro h q h1 h2
    have := h (q - a) (by simp; omega)
    rw [show a + (q - a) = q by omega] at this
    simpa using this
  · intro h k hk
    rw [List.mem_range] at hk
    rw [h (a + k) (by omega) (by omega)]; rfl
theorem runB_false {t : Nat → Bool} {a n m : Nat} (hnm : n ≤ m) (h : runB t a n = false) : runB t a m = false := by
  cases hm : runB t a m with
  | false => rfl
  | true =>
    have : runB t a n = true := runB_iff.2 fun q h1 h2 => runB_iff.1 hm q h1 (by omega)
    rw [h] at this; cases this
/-- what First answers -/
def firstV (l : List Ai) (size align limit : Int) : Value := if mayB size align limit then match firstF (tkn l) size.toNat align.toNat limit.toNat with
  | some p => .tuple #[.int .i64 (p : Nat), .bool true]
  | none => .tuple #[.int .i64 (-1), .bool false] else .tuple #[.int .i64 (-1), .bool false]
/-- all places that were tried do not fit -/
def Tried (t : Nat → Bool) (size align limit a : Nat) : Prop := a % align = 0 ∧ ∀ q, q < a → fitsB t size align limit q = false
theorem tried_next {t : Nat → Bool} {size align limit a : Nat} (ha : 0 < align) (h : Tried t size align limit a) (hf : runB t a size = false) : Tried t size align limit (a + align) := by
  refine ⟨by rw [Nat.add_mod_right]; exact h.1, fun q hq => ?_⟩
  rcases Nat.lt_trichotomy q a with h1 | rfl | h1
  · exact h.2 q h1
  · cases hc : fitsB t size align limit q with
    | false => rfl
    | true =>
      have := runB_iff.2 (fitsB_iff.1 hc).2.2
      rw [hf] at this; cases this
  · cases hc : fitsB t size align limit q with
    | false => rfl
    | true =>
      have h2 := (fitsB_iff.1 hc).1
      have := upF_le (n := a + 1) ha h2 (by omega)
      have h3 : a + align ≤ upF (a + 1) align := by
        obtain ⟨m, rfl⟩ : ∃ m, a = m * align := ⟨a / align, (Nat.div_mul_cancel (Nat.dvd_of_mod_eq_zero h.1)).symm⟩
        unfold upF
        have : (m * align + 1 + align - 1) / align = m + 1 := by
          rw [show m * align + 1 + align - 1 = align + m * align by omega, Nat.add_mul_div_right _ _ ha, Nat.div_self ha]; omega
        rw [this, Nat.succ_mul]; exact Nat.le_refl _
      omega
theorem tried_hit {t : Nat → Bool} {size align limit a : Nat} (h : Tried t size align limit a) (hf : runB t a size = true) (hl : a + size ≤ limit) : firstF t size align limit = some a :=
  firstF_some.2 ⟨fitsB_iff.2 ⟨h.1, hl, runB_iff.1 hf⟩, h.2⟩
theorem tried_end {t : Nat → Bool} {size align limit a : Nat} (h : Tried t size align limit a) (hl : limit < a + size) : firstF t size align limit = none := by
  refine firstF_none.2 fun q => ?_
  cases hc : fitsB t size align limit q with
  | false => rfl
  | true =>
    have := (fitsB_iff.1 hc).2.1
    rw [h.2 q (by omega)] at hc; cases hc

set_option maxHeartbeats 4000000 in
theorem rfirst_at (l : List Ai) (A : Option Addr) (c : Nat) (size align limit : Int) (w : World) (hI : Sps w A l) (hl : l.length ≤ 1000000) :
    Calls Try.prog 11 #[.slice A l.length c, .int .i64 size, .int .i64 align, .int .i64 limit] w fun e w' => e = .returned (firstV l size align limit) ∧ w = w' := by
  have HIn := hide (fun p => rin_at l A c p w hI (by omega))
  have HM := hide (rmay_at size align limit w)
  cases hm : mayB size align limit with
  | false =>
    have HV := hide (show firstV l size align limit = .tuple #[.int .i64 (-1), .bool false] from if_neg (by rw [hm]; decide))
    rw [hm] at HM
    generalize l.length = N at *
    clear hI hm
    go_enter Try.func11, Try.ntmps11
    go_wp2_with fail
    refine HM.out.mono ?_
    rintro e w1 ⟨rfl, rfl⟩
    go_wp2_with fail
    go_ret2
    exact ⟨by rw [HV.out]; rfl, rfl⟩
  | true =>
    obtain ⟨h1, h2, h3, h4, h5, h6⟩ := mayB_t hm
    obtain ⟨z, rfl⟩ := Int.eq_ofNat_of_zero_le h1
    obtain ⟨a, rfl⟩ := Int.eq_ofNat_of_zero_le (show 0 ≤ align by omega)
    obtain ⟨L, rfl⟩ := Int.eq_ofNat_of_zero_le h5
    have HV := hide (show firstV l z a L = match firstF (tkn l) z a L with | some p => .tuple #[.int .i64 (p : Nat), .bool true] | none => .tuple #[.int .i64 (-1), .bool false] from if_pos hm)
    have HTk := hide (fun q : Nat => show inB l (q : Int) = tkn l q from rfl)
    rw [hm] at HM
    generalize l.length = N at *
    generalize tkn l = t at *
    clear hI hm
    go_enter Try.func11, Try.ntmps11
    go_wp2_with fail
    refine HM.out.mono ?_
    rintro e w1 ⟨rfl, rfl⟩
    go_wp2_with fail
    go_loop [11] (fun av => ∃ b : Nat, av = .int .i64 b ∧ b ≤ L + a ∧ Tried t z a L b) (fun av => L + 1 - (intOf av).toNat)
    case atStart => exact ⟨0, rfl, Nat.zero_le _, Nat.zero_mod _, fun q hq => by omega⟩
    case round =>
      obtain ⟨b, rfl, hb, hT⟩ := hrel
      have HT := hide hT
      clear hT
      by_cases hlt : b + z ≤ L
      · go_wp2_with fail
        go_loop [12, 13] (fun fv kv => ∃ n : Nat, n ≤ z ∧ fv = .bool (runB t b n) ∧ kv = .int .i64 ((b : Int) + (n : Int))) (fun _ kv => b + z - (intOf kv).toNat)
        case atStart => exact ⟨0, Nat.zero_le _, rfl, by simp⟩
        case round =>
          obtain ⟨n, hn, rfl, rfl⟩ := hrel
          by_cases hn2 : n < z
          · have HS := hide (runB_succ t b n)
            have HF := hide (fun (h : runB t b n = false) => runB_false (m := z) hn h)
            cases hr : runB t b n with
            | true =>
              rw [hr] at HS
              have HI2 := HIn.out ((b : Int) + (n : Int))
              rw [show (b : Int) + (n : Int) = ((b + n : Nat) : Int) by omega, HTk.out] at HI2
              have HI3 := hide HI2
              clear HI2 hr
              rw [show ((b + n : Nat) : Int) = (b : Int) + (n : Int) by omega] at HI3
              go_wp2_with fail
              refine HI3.out.mono ?_
              rintro e w1 ⟨rfl, rfl⟩
              go_wp2_with fail
              go_round
              case rel => exact ⟨n + 1, by omega, by rw [HS.out]; rfl, by go_num⟩
              case measure => simp [intOf]; omega
            | false =>
              have HF2 := hide (tried_next (by omega) HT.out (HF.out hr))
              clear hr
              go_wp2_with fail
              go_round
              case rel => exact ⟨b + a, by go_num, by omega, HF2.out⟩
              case measure => simp [intOf]; omega
          · obtain rfl : n = z := by omega
            cases hr : runB t b n with
            | true =>
              have HV2 := hide (show firstV l n a L = .tuple #[.int .i64 (b : Nat), .bool true] by rw [HV.out, tried_hit HT.out hr hlt])
              clear hr
              go_wp2_with fail
              go_ret2
              exact ⟨by rw [HV2.out]; rfl, rfl⟩
            | false =>
              have HF2 := hide (tried_next (by omega) HT.out hr)
              clear hr
              go_wp2_with fail
              go_round
              case rel => exact ⟨b + a, by go_num, by omega, HF2.out⟩
              case measure => simp [intOf]; omega
      · have HV2 := hide (show firstV l z a L = .tuple #[.int .i64 (-1), .bool false] by rw [HV.out, tried_end HT.out (by omega)])
        go_wp2_with fail
        go_ret2
        exact ⟨by rw [HV2.out]; rfl, rfl⟩
end Go.Proofs.Ytpnpbnfjhnmhjaa
