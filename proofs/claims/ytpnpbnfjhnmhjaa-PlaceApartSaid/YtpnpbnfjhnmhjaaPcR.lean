/-
  What the statements ask beside: what is too much, the chapter's spans; a greatest span and what it holds.
-/
import Derived.Test.YtpnpbnfjhnmhjaaPcO
namespace Go.Proofs.Ytpnpbnfjhnmhjaa
open Go.RowKit Go.Shelf
attribute [local go_sem] Oper.semAt_some
set_option linter.unusedVariables false
set_option linter.unusedSimpArgs false
set_option maxRecDepth 100000

theorem great_at (A B : Option Addr) (n c m d : Nat) (limit : Int) (w : World) : Calls Try.prog 9 #[.slice A n c, .slice B m d, .int .i64 limit] w fun e w' => e = .returned (.bool (decide (50 < n ∨ 50 < m ∨ (300 < limit ∧ limit ≤ 1048576)))) ∧ w = w' := by
  obtain ⟨r, hr⟩ : ∃ r, r = decide (50 < n ∨ 50 < m ∨ (300 < limit ∧ limit ≤ 1048576)) := ⟨_, rfl⟩
  rw [← hr]
  by_cases h1 : 50 < n
  · have HR := hide (show r = true by rw [hr]; simp [h1])
    clear hr
    go_enter Try.func9, Try.ntmps9
    go_wp2
    go_ret
    exact ⟨by rw [HR.out]; rfl, rfl⟩
  · have d1 : decide (50 < (n : Int)) = false := decide_eq_false (by omega)
    by_cases h2 : 50 < m
    · have HR := hide (show r = true by rw [hr]; simp [h2])
      clear hr
      go_enter Try.func9, Try.ntmps9
      go_wp2
      go_ret
      exact ⟨by rw [HR.out]; rfl, rfl⟩
    · have d2 : decide (50 < (m : Int)) = false := decide_eq_false (by omega)
      by_cases h3 : 300 < limit
      · have HR := hide (show r = decide (limit ≤ 1048576) by rw [hr]; simp [h1, h2, h3])
        clear hr
        go_enter Try.func9, Try.ntmps9
        go_wp2
        go_ret
        exact ⟨by rw [HR.out]; rfl, rfl⟩
      · have HR := hide (show r = false by rw [hr]; simp [h1, h2, h3])
        clear hr
        go_enter Try.func9, Try.ntmps9
        go_wp2
        go_ret
        exact ⟨by rw [HR.out]; rfl, rfl⟩
def fewL : List Ai := [(0, 4), (6, 8)]
theorem few_at (w : World) : Calls Try.prog 19 #[] w fun e w' => ∃ A c, e = .returned (.slice A 2 c) ∧ Sps w' A fewL ∧ Below w.heap.size w w' := by
  have HN := hide (heap_alloc_new w (.cells #[.int .i64 0, .int .i64 4, .int .i64 6, .int .i64 8] 37))
  have HB := hide (bal w (.cells #[.int .i64 0, .int .i64 4, .int .i64 6, .int .i64 8] 37))
  go_enter Try.func19, Try.ntmps19
  go_wp2
  go_ret
  refine ⟨_, _, rfl, ⟨by intro z hz; simp [fewL] at hz; rcases hz with rfl | rfl <;> (unfold I64; simp), .inr ⟨w.heap.size, 0, rfl, by simp, fun i hi => ?_⟩⟩, HB.out⟩
  simp [fewL] at hi
  rcases i with _ | _ | i
  · exact ⟨by rw [cell_of_row _ _ _ _ _ _ HN.out]; rfl, by rw [cell_of_row _ _ _ _ _ _ HN.out]; rfl⟩
  · exact ⟨by rw [cell_of_row _ _ _ _ _ _ HN.out]; rfl, by rw [cell_of_row _ _ _ _ _ _ HN.out]; rfl⟩
  · omega
theorem alive_at (w : World) : Calls Try.prog 20 #[] w fun e w' => e = .returned (.bool true) ∧ Below w.heap.size w w' := by
  have HV1 := hide (show firstV fewL 2 1 12 = .tuple #[.int .i64 4, .bool true] by kernel_rfl)
  have HV2 := hide (show firstV fewL 3 4 12 = .tuple #[.int .i64 8, .bool true] by kernel_rfl)
  have HFew := hide few_at
  go_enter Try.func20, Try.ntmps20
  go_wp2_with fail
  refine (HFew.out w).mono ?_
  rintro e w1 ⟨A, c, rfl, hS, hb⟩
  have HB1 := hide hb
  have HF := hide (First_at fewL A c 2 1 12 w1 hS (by simp [fewL]))
  rw [HV1.out, show fewL.length = 2 from rfl] at HF
  clear hS hb
  go_wp2_with fail
  refine HF.out.mono ?_
  rintro e w2 ⟨rfl, hb⟩
  have HB2 := hide (HB1.out.trans (hb.mono HB1.out.size))
  clear hb
  go_wp2_with fail
  refine (HFew.out w2).mono ?_
  rintro e w3 ⟨A', c', rfl, hS, hb⟩
  have HB3 := hide (HB2.out.trans (hb.mono HB2.out.size))
  have HF2 := hide (First_at fewL A' c' 3 4 12 w3 hS (by simp [fewL]))
  rw [HV2.out, show fewL.length = 2 from rfl] at HF2
  clear hS hb
  go_wp2_with fail
  refine HF2.out.mono ?_
  rintro e w4 ⟨rfl, hb⟩
  have HB4 := hide (HB3.out.trans (hb.mono HB3.out.size))
  clear hb
  go_wp2_with fail
  go_ret
  exact ⟨rfl, HB4.out⟩
theorem Sps.take {w : World} {A : Option Addr} {l : List Ai} (h : Sps w A l) {n : Nat} (hn : n ≤ l.length) : Sps w A (l.take n) := by
  refine ⟨fun z hz => h.1 z (List.mem_of_mem_take hz), ?_⟩
  rcases h.2 with h0 | ⟨b, off, rfl, hlt, hc⟩
  · exact .inl (by rw [List.length_take]; omega)
  · refine .inr ⟨b, off, rfl, hlt, fun i hi => ?_⟩
    rw [List.length_take] at hi
    have e : (l.take n).getD i (0, 0) = l.getD i (0, 0) := by
      rw [List.getD_eq_getElem?_getD, List.getD_eq_getElem?_getD, List.getElem?_take, if_pos (by omega)]
    rw [e]
    exact hc i (by omega)
theorem upF_one (n : Nat) : upF n 1 = n := by simp [upF]
theorem most_iff {t : Nat → Bool} {z L : Nat} : (firstF t z 1 L).isSome = true ↔ z ≤ wide (freeTo t L) := by
  rcases Nat.eq_zero_or_pos z with rfl | hz
  · rw [firstF_zero]; simp
  · unfold wide
    rw [wide_iff]
    constructor
    · intro h
      cases hf : firstF t z 1 L with
      | none => rw [hf] at h; cases h
      | some p =>
        obtain ⟨h1, _⟩ := firstF_some.1 hf
        obtain ⟨_, h2, h3⟩ := fitsB_iff.1 h1
        obtain ⟨s, hs, h4, h5⟩ := free_in hz h3 L h2
        exact .inr ⟨s, hs, by omega⟩
    · rintro (h | ⟨s, hs, h⟩)
      · omega
      · cases hf : firstF t z 1 L with
        | some p => rfl
        | none =>
          have hg := free_gp hs
          have := firstF_none.1 hf s.1
          have h2 : fitsB t z 1 L s.1 = true := fitsB_iff.2 ⟨Nat.mod_one _, by have := hg.le; have := hg.lt; omega, fun q h1 h3 => hg.fr q h1 (by omega)⟩
          rw [h2] at this; cases this
theorem firstF_mono {t u : Nat → Bool} {z a L p : Nat} (h : ∀ q, u q = true → t q = true) (hf : firstF t z a L = some p) : ∃ q, firstF u z a L = some q ∧ q ≤ p := by
  obtain ⟨h1, _⟩ := firstF_some.1 hf
  obtain ⟨h3, h4, h5⟩ := fitsB_iff.1 h1
  have h6 : fitsB u z a L p = true := fitsB_iff.2 ⟨h3, h4, fun q h7 h8 => by
    cases hq : u q with
    | false => rfl
    | true => exact absurd (h q hq) (by rw [h5 q h7 h8]; decide)⟩
  cases hg : firstF u z a L with
  | none => rw [firstF_none.1 hg p] at h6; cases h6
  | some q =>
    refine ⟨q, rfl, Nat.le_of_not_lt fun hlt => ?_⟩
    rw [(firstF_some.1 hg).2 p hlt] at h6; cases h6
theorem firstF_higher {t : Nat → Bool} {z a L p k : Nat} (hf : firstF t z a L = some p) : firstF t z a (L + k) = some p := by
  obtain ⟨h1, h2⟩ := firstF_some.1 hf
  obtain ⟨h3, h4, h5⟩ := fitsB_iff.1 h1
  refine firstF_some.2 ⟨fitsB_iff.2 ⟨h3, by omega, h5⟩, fun q hq => ?_⟩
  cases hc : fitsB t z a (L + k) q with
  | false => rfl
  | true =>
    obtain ⟨g1, g2, g3⟩ := fitsB_iff.1 hc
    have : fitsB t z a L q = true := fitsB_iff.2 ⟨g1, by omega, g3⟩
    rw [h2 q hq] at this; cases this
theorem inB_sub {l : List Ai} {n : Nat} {q : Nat} (h : tkn (l.take n) q = true) : tkn l q = true := by
  obtain ⟨s, hs, h1⟩ := inB_iff.1 h
  exact inB_iff.2 ⟨s, List.mem_of_mem_take hs, h1⟩
theorem firstV_two (l : List Ai) (z a L : Int) : (∃ p : Nat, firstV l z a L = .tuple #[.int .i64 (p : Nat), .bool true] ∧ mayB z a L = true ∧ firstF (tkn l) z.toNat a.toNat L.toNat = some p) ∨ (firstV l z a L = .tuple #[.int .i64 (-1), .bool false] ∧ (mayB z a L = true → firstF (tkn l) z.toNat a.toNat L.toNat = none)) := by
  unfold firstV
  cases hm : mayB z a L with
  | false => exact .inr ⟨rfl, fun h => by cases h⟩
  | true =>
    rw [if_pos rfl]
    cases hf : firstF (tkn l) z.toNat a.toNat L.toNat with
    | none => exact .inr ⟨rfl, fun _ => rfl⟩
    | some p => exact .inl ⟨p, rfl, rfl, rfl⟩
end Go.Proofs.Ytpnpbnfjhnmhjaa
