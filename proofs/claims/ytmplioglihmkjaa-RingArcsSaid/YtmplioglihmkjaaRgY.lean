/-
  How many places are covered, and the gaps: the program's own.
-/
import Derived.Test.YtmplioglihmkjaaRgX
import Derived.Test.YtmplioglihmkjaaRgV
namespace Go.Proofs.Ytmplioglihmkjaa
open Go.RowKit Go.Shelf
attribute [local go_sem] Oper.semAt_some
set_option linter.unusedVariables false
set_option linter.unusedSimpArgs false
set_option maxRecDepth 100000

theorem mayB_t {n : Int} {l : List Ai} (h : mayB n l = true) : (1 ≤ n ∧ n ≤ 1048576) ∧ ∀ a ∈ l, okB n a = true := by
  unfold mayB at h
  rw [Bool.and_eq_true] at h
  exact ⟨ringB_t h.1, List.all_eq_true.1 h.2⟩
/-- the places that a list of arcs takes -/
def tkI (n : Int) (l : List Ai) : Nat → Bool := tk n.toNat (l.map tA)
def coveredV (l : List Ai) (n : Int) : Value := if mayB n l then .tuple #[.int .i64 (cnt (tkI n l) n.toNat : Nat), .int .i64 0] else .tuple #[.int .i64 0, .int .i64 130]

set_option maxHeartbeats 4000000 in
theorem Covered_at (l : List Ai) (A : Option Addr) (c : Nat) (n : Int) (w : World) (hI : Arcs w A l) (hA : ∀ a, A = some a → a.spot = none) (hn : ringB n = true → n ≤ 1000) (hlen : l.length ≤ 1000) :
    Calls Try.prog 19 #[.slice A l.length c, .int .i64 n] w fun e w' => e = .returned (coveredV l n) ∧ Below w.heap.size w w' := by
  have HAr := hide (fun W (h : Arcs W A l) => areArcs_at l A c n W h (by omega))
  have HIw := hide hI
  cases hm : mayB n l with
  | false =>
    have HV := hide (show coveredV l n = .tuple #[.int .i64 0, .int .i64 130] from if_neg (by rw [hm]; decide))
    rw [hm] at HAr
    obtain ⟨N, hN⟩ : ∃ N, N = l.length := ⟨_, rfl⟩
    rw [← hN] at HAr ⊢
    clear hI hm hN
    go_enter Try.func19, Try.ntmps19
    go_wp2_with fail
    refine (HAr.out _ HIw.out).mono ?_
    rintro e w1 ⟨rfl, hb⟩
    have HB := hide hb
    clear hb
    go_wp2_with fail
    go_ret2
    exact ⟨by rw [HV.out]; rfl, HB.out⟩
  | true =>
    obtain ⟨⟨h1, h2⟩, hok⟩ := mayB_t hm
    have h1000 := hn (decide_eq_true ⟨h1, h2⟩)
    obtain ⟨m, rfl⟩ := Int.eq_ofNat_of_zero_le (show 0 ≤ n by omega)
    have HV := hide (show coveredV l m = .tuple #[.int .i64 (cnt (tkI m l) m : Nat), .int .i64 0] from if_pos hm)
    have HTk := hide (fun W (h : Arcs W A l) => taken_at l A c m W h hA hok (by omega) (by omega) hlen)
    have HI := hide (fun W (h : Below w.heap.size w W) => hI.of_below h (Nat.le_refl _))
    have HtI := hide (show tkI m l = tk m (l.map tA) from rfl)
    rw [← HtI.out] at HTk
    rw [hm] at HAr
    obtain ⟨N, hN⟩ : ∃ N, N = l.length := ⟨_, rfl⟩
    rw [← hN] at HAr HTk ⊢
    generalize tkI m l = t at *
    clear hI hm hok HtI hN hn
    go_enter Try.func19, Try.ntmps19
    go_wp2_with fail
    refine (HAr.out _ HIw.out).mono ?_
    rintro e w1 ⟨rfl, hb⟩
    have HB := hide hb
    clear hb
    go_wp2_with fail
    refine (HTk.out w1 (HI.out w1 HB.out)).mono ?_
    rintro e w2 ⟨g, rfl, hg, hrow, hb⟩
    have HB2 := hide (HB.out.trans (hb.mono HB.out.size))
    have HRow := hide hrow
    have hgl : g < w2.heap.size := (Array.getElem?_eq_some_iff.1 hrow).1
    clear hb hrow
    go_wp2_with fail
    have hcm := cnt_le t m
    go_loop [6, 8, 17] (fun cv xv kv => ∃ k : Nat, k ≤ m ∧ kv = .int .i64 k ∧ cv = .int .i64 (cnt t k : Nat)) (fun _ _ kv => m - (intOf kv).toNat)
    case atStart => exact ⟨0, Nat.zero_le _, rfl, rfl⟩
    case round =>
      obtain ⟨k, hk, rfl, rfl⟩ := hrel
      by_cases hlt : k < m
      · have c0 : w2.cell? ⟨g, k, none⟩ = some (.bool (t k)) := by rw [cell_of_row _ _ _ _ _ _ HRow.out, brow_get hlt]
        have hck := cnt_le t k
        have HS := hide (show cnt t (k + 1) = cnt t k + (if t k = true then 1 else 0) from rfl)
        generalize cnt t k = q at *
        cases ht : t k with
        | true =>
          rw [ht] at c0 HS
          clear ht
          go_wp2_with fail
          go_round
          case rel => exact ⟨k + 1, by omega, by go_num, by rw [HS.out]; rfl⟩
          case measure => simp [intOf]; omega
        | false =>
          rw [ht] at c0 HS
          clear ht
          go_wp2_with fail
          go_round
          case rel => exact ⟨k + 1, by omega, by go_num, by rw [HS.out]; rfl⟩
          case measure => simp [intOf]; omega
      · obtain rfl : k = m := by omega
        generalize cnt t k = q at *
        go_wp2_with fail
        go_ret2
        exact ⟨by rw [HV.out]; rfl, HB2.out⟩

def gapsR (w w' : World) (l : List Ai) (n : Int) (e : Ending) : Prop :=
  if mayB n l then ∃ v, e = .returned (.tuple #[v, .int .i64 0]) ∧ OwnA w' w.heap.size v (toI (gapF (tkI n l) n.toNat)) else e = .returned (.tuple #[.slice none 0 0, .int .i64 130])
set_option maxHeartbeats 4000000 in
theorem Gaps_at (l : List Ai) (A : Option Addr) (c : Nat) (n : Int) (w : World) (hI : Arcs w A l) (hA : ∀ a, A = some a → a.spot = none) (hn : ringB n = true → n ≤ 1000) (hlen : l.length ≤ 1000) :
    Calls Try.prog 20 #[.slice A l.length c, .int .i64 n] w fun e w' => gapsR w w' l n e ∧ Below w.heap.size w w' := by
  have HAr := hide (fun W (h : Arcs W A l) => areArcs_at l A c n W h (by omega))
  have HIw := hide hI
  cases hm : mayB n l with
  | false =>
    have HV := hide (show ∀ w' e, e = .returned (.tuple #[.slice none 0 0, .int .i64 130]) → gapsR w w' l n e from fun w' e h => by unfold gapsR; rw [hm]; exact h)
    rw [hm] at HAr
    obtain ⟨N, hN⟩ : ∃ N, N = l.length := ⟨_, rfl⟩
    rw [← hN] at HAr ⊢
    clear hI hm hN
    go_enter Try.func20, Try.ntmps20
    go_wp2_with fail
    refine (HAr.out _ HIw.out).mono ?_
    rintro e w1 ⟨rfl, hb⟩
    have HB := hide hb
    clear hb
    go_wp2_with fail
    go_ret2
    exact ⟨HV.out _ _ rfl, HB.out⟩
  | true =>
    obtain ⟨⟨h1, h2⟩, hok⟩ := mayB_t hm
    have h1000 := hn (decide_eq_true ⟨h1, h2⟩)
    obtain ⟨m, rfl⟩ := Int.eq_ofNat_of_zero_le (show 0 ≤ n by omega)
    have HV := hide (show ∀ w' e v, e = .returned (.tuple #[v, .int .i64 0]) → OwnA w' w.heap.size v (toI (gapF (tkI m l) m)) → gapsR w w' l m e from fun w' e v h h2 => by unfold gapsR; rw [hm]; exact ⟨v, h, h2⟩)
    have HTk := hide (fun W (h : Arcs W A l) => taken_at l A c m W h hA hok (by omega) (by omega) hlen)
    have HI := hide (fun W (h : Below w.heap.size w W) => hI.of_below h (Nat.le_refl _))
    have HtI := hide (show tkI m l = tk m (l.map tA) from rfl)
    rw [← HtI.out] at HTk
    rw [hm] at HAr
    have HGp := hide (fun W g h => gaps_at (tkI m l) m g (by omega) (by omega) W h)
    obtain ⟨N, hN⟩ : ∃ N, N = l.length := ⟨_, rfl⟩
    rw [← hN] at HAr HTk ⊢
    generalize tkI m l = t at *
    clear hI hm hok HtI hN hn
    go_enter Try.func20, Try.ntmps20
    go_wp2_with fail
    refine (HAr.out _ HIw.out).mono ?_
    rintro e w1 ⟨rfl, hb⟩
    have HB := hide hb
    clear hb
    go_wp2_with fail
    refine (HTk.out w1 (HI.out w1 HB.out)).mono ?_
    rintro e w2 ⟨g, rfl, hg, hrow, hb⟩
    have HB2 := hide (HB.out.trans (hb.mono HB.out.size))
    have HRow := hide hrow
    clear hb hrow
    go_wp2_with fail
    refine (HGp.out w2 g HRow.out).mono ?_
    rintro e w3 ⟨v, rfl, hO, hb⟩
    have HB3 := hide (HB2.out.trans (hb.mono HB2.out.size))
    have HO := hide (show OwnA w3 w.heap.size v (toI (gapF t m)) from ⟨hO.1, by
      rcases hO.2 with h | ⟨g, cap, cur, a, b, d⟩
      · exact .inl h
      · exact .inr ⟨g, cap, cur, a, by have := HB2.out.size; omega, d⟩⟩)
    clear hb hO
    go_wp2_with fail
    go_ret2
    exact ⟨HV.out _ _ v rfl HO.out, HB3.out⟩
end Go.Proofs.Ytmplioglihmkjaa
