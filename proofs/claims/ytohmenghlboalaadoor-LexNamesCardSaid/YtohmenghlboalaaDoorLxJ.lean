/-
  Which token begins ahead of a place: the program's own, and the document's.
-/
import Derived.Test.YtohmenghlboalaaDoorLxI0
namespace Go.Proofs.YtohmenghlboalaaDoor
open Go.RowKit Go.Shelf
attribute [local go_sem] Oper.semAt_some
set_option linter.unusedVariables false
set_option linter.unusedSimpArgs false
set_option maxRecDepth 100000

def atV (t : Tv) (line column : Int) : Bool := decide (t.ln < line) || (decide (t.ln = line) && decide (t.cl ≤ column))
def findV (l : List Tv) (line column : Int) : Nat → Int
  | 0 => -1
  | i + 1 => if atV (l.getD i default) line column = true then (i : Int) else findV l line column i
theorem findV_of {l : List Tk} {line column : Int} : ∀ {n : Nat}, n ≤ l.length → findV (l.map toV) line column n = findF l line column n
  | 0, _ => rfl
  | i + 1, h => by
    unfold findV findF
    rw [List.getElem?_eq_getElem (by omega)]
    have e : (l.map toV).getD i default = toV l[i] := by simp [List.getD_eq_getElem?_getD, List.getElem?_eq_getElem (show i < l.length by omega)]
    rw [e, findV_of (by omega)]
    have : atV (toV l[i]) line column = atB l[i] line column := by
      unfold atV atB toV
      dsimp only
      rw [Bool.eq_iff_iff]
      simp
    rw [this]

set_option maxHeartbeats 4000000 in
theorem find_at (l : List Tv) (A : Option Addr) (c : Nat) (line column : Int) (w : World) (hA : Tvs w A l) (hl : l.length ≤ 140737488355328) :
    Calls Tryd.prog 8 #[.slice A l.length c, .int .i64 line, .int .i64 column] w fun e w' => e = .returned (.int .i64 (findV l line column l.length)) ∧ Below w.heap.size w w' := by
  have HA := hide hA
  obtain ⟨R, hR⟩ : ∃ R, R = findV l line column l.length := ⟨_, rfl⟩
  have HR := hide hR
  rw [← hR]
  obtain ⟨N, hN⟩ : ∃ N, N = l.length := ⟨_, rfl⟩
  have HN := hide hN
  rw [← hN] at hl HR ⊢
  clear hA hR hN
  go_enter Tryd.func8, Tryd.ntmps8
  go_wp2_with fail
  go_loopw [6, 7] (fun _ iv wr => ∃ k : Nat, k ≤ N ∧ iv = .int .i64 ((k : Int) - 1) ∧ R = findV l line column k ∧ Below w.heap.size w wr) (fun _ iv _ => (intOf iv + 1).toNat)
  case atStart => exact ⟨N, Nat.le_refl _, rfl, HR.out, Below.refl _ _⟩
  case round =>
    obtain ⟨k, hk, rfl, hR, hbb⟩ := hrel
    have HR2 := hide hR
    have HBe := hide hbb
    clear hR hbb
    cases k with
    | zero =>
      have HV := hide (show R = -1 from HR2.out)
      go_wp2_with fail
      go_ret
      exact ⟨by rw [HV.out]; rfl, HBe.out⟩
    | succ k =>
      have hkk : ((k + 1 : Nat) : Int) - 1 = (k : Int) := by omega
      rw [hkk]
      obtain ⟨b1, o1, rfl, hb1, T1⟩ := (HA.out.below HBe.out (Nat.le_refl _)).at (k := k) (by rw [← HN.out]; omega)
      have HS := hide (show R = if atV (l.getD k default) line column = true then (k : Int) else findV l line column k from HR2.out)
      generalize l.getD k default = x at *
      obtain ⟨k1, t1, n1, l1, c1⟩ := x
      obtain ⟨x0, x1, x2, x3, x4⟩ := T1
      dsimp only at x0 x1 x2 x3 x4
      clear x0 x1 x2 hkk HR2
      go_wp2_with fail
      all_goals first
        | (go_ret; exact ⟨by rw [HS.out, if_pos (by simp [atV]; omega)]; rfl, HBe.out⟩)
        | exact ⟨⟨k, by omega, rfl, by rw [HS.out, if_neg (by simp [atV]; omega)], HBe.out⟩, by simp [intOf] <;> omega⟩

/-! ### the chapter's first example -/
def aliveB : List UInt8 := [110, 111, 100, 101, 115, 32, 52, 59, 32, 35, 32, 120]
theorem alive_lex : lexL aliveB 1 1 false = ([⟨1, [110, 111, 100, 101, 115], 0, 1, 1⟩, ⟨2, [52], 4, 1, 7⟩, ⟨3, [59], 0, 1, 8⟩], none) := by kernel_rfl
theorem alive_at (w : World) (hE : Env w) : Calls Tryd.prog 12 #[] w fun e w' => e = .returned (.bool true) ∧ Below w.heap.size w w' := by
  have hl : lexL (byt ⟨#[110, 111, 100, 101, 115, 32, 52, 59, 32, 35, 32, 120]⟩) 1 1 false = _ := alive_lex
  have HT := hide (toks_at ⟨#[110, 111, 100, 101, 115, 32, 52, 59, 32, 35, 32, 120]⟩ (by decide) (by unfold Yl ysF; rw [hl]; decide) w hE)
  unfold TokR at HT
  rw [hl] at HT
  clear hl
  go_enter Tryd.func12, Tryd.ntmps12
  go_wp2_with fail
  refine HT.out.mono ?_
  rintro e w' ⟨v, rfl, hO, hb⟩
  obtain ⟨A, c, rfl, hT⟩ := own_tvs hO
  obtain ⟨b, o, rfl, hbl, T0⟩ := hT.at (k := 0) (by simp [outF])
  obtain ⟨b', o', e1, hbl1, T1⟩ := hT.at (k := 1) (by simp [outF])
  obtain ⟨b'', o'', e2, hbl2, T2⟩ := hT.at (k := 2) (by simp [outF])
  cases e1
  cases e2
  have x1 : w'.cell? ⟨b, o + 0 * 5 + 1, none⟩ = some (.string ⟨#[110, 111, 100, 101, 115]⟩) := T0.c1
  have y2 : w'.cell? ⟨b, o + 1 * 5 + 2, none⟩ = some (.int .i64 4) := T1.c2
  have y4 : w'.cell? ⟨b, o + 1 * 5 + 4, none⟩ = some (.int .i64 7) := T1.c4
  have z0 : w'.cell? ⟨b, o + 2 * 5, none⟩ = some (.int .i64 3) := T2.c0
  have HB := hide hb
  clear T0 T1 T2 hT hO hb
  simp only [outF, List.map_cons, List.map_nil, List.length_cons, List.length_nil, Nat.zero_mul, Nat.one_mul, Nat.add_zero, Nat.zero_add, Nat.reduceAdd, Nat.reduceMul] at x1 y2 y4 z0 ⊢
  go_wp2_with fail
  go_ret
  exact ⟨rfl, HB.out⟩
end Go.Proofs.YtohmenghlboalaaDoor
