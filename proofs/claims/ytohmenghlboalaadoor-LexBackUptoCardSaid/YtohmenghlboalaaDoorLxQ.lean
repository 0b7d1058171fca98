/-
  lex.Print: the text of tokens, or that one of them is none.
-/
import Derived.Test.YtohmenghlboalaaDoorLxP
import Derived.Test.YtohmenghlboalaaDoorBld
namespace Go.Proofs.YtohmenghlboalaaDoor
open Go.RowKit Go.Shelf
attribute [local go_sem] Oper.semAt_some
set_option linter.unusedVariables false
set_option linter.unusedSimpArgs false
set_option maxRecDepth 100000

def putV : List Tv → List UInt8
  | [] => []
  | t :: l => t.t ++ (behV t.t :: putV l)
theorem putV_app : ∀ (l m : List Tv), putV (l ++ m) = putV l ++ putV m
  | [], m => rfl
  | t :: l, m => by
    show t.t ++ (behV t.t :: putV (l ++ m)) = (t.t ++ (behV t.t :: putV l)) ++ putV m
    rw [putV_app l m]; simp
theorem getD_get {l : List Tv} {k : Nat} (h : k < l.length) : l[k]? = some (l.getD k default) := by
  simp [List.getD_eq_getElem?_getD, List.getElem?_eq_getElem h]
theorem take_next {l : List Tv} {k : Nat} (h : k < l.length) : l.take (k + 1) = l.take k ++ [l.getD k default] := by
  rw [List.take_add_one, getD_get h]; rfl
theorem putV_next {l : List Tv} {k : Nat} (h : k < l.length) : putV (l.take (k + 1)) = (putV (l.take k) ++ (l.getD k default).t) ++ [behV (l.getD k default).t] := by
  rw [take_next h, putV_app]; simp [putV]
theorem putV_le {l : List Tv} {k : Nat} : (putV (l.take k)).length ≤ (putV l).length := by
  conv => rhs; rw [← List.take_append_drop k l, putV_app]
  simp
theorem all_next {l : List Tv} {k : Nat} (h : k < l.length) : (l.take (k + 1)).all okV = ((l.take k).all okV && okV (l.getD k default)) := by
  rw [take_next h, List.all_append]; simp
theorem all_off {l : List Tv} {k : Nat} (h : k < l.length) (ho : okV (l.getD k default) = false) : l.all okV = false := by
  rw [Bool.eq_false_iff]
  intro ha
  rw [List.all_eq_true] at ha
  have := ha (l.getD k default) (List.mem_of_getElem? (getD_get h))
  rw [ho] at this; cases this
/-- the text of tokens -/
def prF (l : List Tv) : ByteArray × Int := if l.all okV = true then (str (putV l), 0) else (⟨#[]⟩, 140)
theorem prF_off {l : List Tv} (h : l.all okV = false) : prF l = (⟨#[]⟩, 140) := by unfold prF; rw [h]; rfl
theorem prF_ok {l : List Tv} (h : l.all okV = true) : prF l = (str (putV l), 0) := by unfold prF; rw [h]; rfl

/-- what stands behind k rounds -/
structure Pr (w : World) (l : List Tv) (k : Nat) (W : World) : Prop where
  ok : (l.take k).all okV = true
  bd : Bd w.heap.size w.heap.size (putV (l.take k)) W
  bel : Below w.heap.size w W

set_option maxHeartbeats 4000000 in
theorem print_at (l : List Tv) (A : Option Addr) (c : Nat) (w : World) (hE : Env w) (hA : Tvs w A l) (hl : l.length ≤ 100000) (hz : (putV l).length ≤ 140737488355328) :
    Calls Tryd.prog 6 #[.slice A l.length c] w fun e w' => e = .returned (.tuple #[.string (prF l).1, .int .i64 (prF l).2]) ∧ Below w.heap.size w w' := by
  have HA := hide hA
  have HE := hide hE
  have HZ := hide hz
  obtain ⟨N, hN⟩ : ∃ N, N = l.length := ⟨_, rfl⟩
  have HN := hide hN
  obtain ⟨R, hR⟩ : ∃ R, R = prF l := ⟨_, rfl⟩
  have HR := hide hR
  rw [← hR]
  rw [← hN] at hl ⊢
  clear hA hE hN hR hz
  go_enter Tryd.func6, Tryd.ntmps6
  go_wp2_with fail
  go_loopw [9, 6] (fun iv _ wr => ∃ k : Nat, k ≤ N ∧ iv = .int .i64 k ∧ Hid (Pr w l k wr)) (fun iv _ _ => N - (intOf iv).toNat)
  case atStart => exact ⟨0, Nat.zero_le _, rfl, ⟨rfl, Bd.new w, bal w _⟩⟩
  case round =>
    obtain ⟨k, hk, rfl, hP⟩ := hrel
    by_cases hlt : k < N
    · have hkl : k < l.length := by rw [← HN.out]; exact hlt
      have HNx := hide (putV_next hkl)
      have HAn := hide (all_next hkl)
      have HAo := hide (fun h => HR.out.trans (prF_off (all_off hkl h)))
      have HLe := hide (show (putV (l.take (k + 1))).length ≤ 140737488355328 from Nat.le_trans putV_le HZ.out)
      obtain ⟨b1, o1, rfl, hb1, T1⟩ := (HA.out.below hP.out.bel (Nat.le_refl _)).at (k := k) hkl
      generalize l.getD k default = t at *
      rw [HNx.out] at HLe
      have hL1 : (putV (l.take k)).length + t.t.length + 1 ≤ 140737488355328 := by
        have := HLe.out; simp only [List.length_append, List.length_cons, List.length_nil] at this; omega
      have HI := hide (fun (W : World) (h : Below w.heap.size w W) => istok_at t (by omega) W (HE.out.below h (Nat.le_refl _)))
      have HB := hide (fun (W : World) => behind_at t W)
      obtain ⟨kk, tt, nn, ln, cl⟩ := t
      obtain ⟨x0, x1, x2, x3, x4⟩ := T1
      dsimp only at x0 x1 x2 x3 x4 hL1
      unfold tvV at HI HB
      dsimp only at HI HB HNx
      have HL1 := hide hL1
      have hsz : w.heap.size < wr.heap.size := hP.out.bd.lt
      clear hkl HLe hL1
      go_wp2_with fail
      refine (HI.out _ (hP.out.bel.trans ((bal wr _).mono (Nat.le_of_lt hsz)))).mono ?_
      rintro e w1 ⟨rfl, hb1'⟩
      have hbw : Below wr.heap.size wr w1 := (bal wr _).trans (hb1'.mono (by rw [World.size_alloc]; omega))
      have hrow : w1.heap[wr.heap.size]? = some (.cells #[.int .i64 kk, .string (str tt), .int .i64 nn, .int .i64 ln, .int .i64 cl] 24 (0, 0)) := (hb1'.block _ (by rw [World.size_alloc]; omega)).trans (heap_alloc_new wr _)
      have hbd := hP.out.bd.below hbw
      have HBl := hide (hP.out.bel.trans (hbw.mono (Nat.le_of_lt hsz)))
      have HBd := hide hbd
      have HRow := hide hrow
      have HOk := hide hP.out.ok
      have x6 : w1.cell? ⟨wr.heap.size, 1, none⟩ = some (.string (str tt)) := by rw [cell_of_row _ _ _ _ _ _ hrow]; rfl
      have hsz1 : w.heap.size ≤ w1.heap.size := HBl.out.size
      clear hb1' hbw hrow hbd x0 x1 x2 x3 x4 hb1 HA HI
      cases hV : okV ⟨kk, tt, nn, ln, cl⟩ with
      | false =>
        have HV := hide (HAo.out hV)
        clear HAn HAo hV
        go_wp2_with fail
        go_ret2
        exact ⟨by rw [HV.out]; rfl, HBl.out⟩
      | true =>
        have HAll := hide (show (l.take (k + 1)).all okV = true by rw [HAn.out, HOk.out, hV]; rfl)
        clear HAn HAo hV
        have HW := hide (wstr_at w.heap.size w.heap.size _ tt w1 HBd.out (by have := HL1.out; omega))
        go_wp2_with fail
        refine HW.out.mono ?_
        rintro e w2 ⟨rfl, hbd2, hb2, hk2⟩
        have hrow2 := hk2 _ _ HRow.out (by simp; omega) (by rintro c fz ⟨⟩)
        have y0 : w2.cell? ⟨wr.heap.size, 0, none⟩ = some (.int .i64 kk) := by rw [cell_of_row _ _ _ _ _ _ hrow2]; rfl
        have y1 : w2.cell? ⟨wr.heap.size, 1, none⟩ = some (.string (str tt)) := by rw [cell_of_row _ _ _ _ _ _ hrow2]; rfl
        have y2 : w2.cell? ⟨wr.heap.size, 2, none⟩ = some (.int .i64 nn) := by rw [cell_of_row _ _ _ _ _ _ hrow2]; rfl
        have y3 : w2.cell? ⟨wr.heap.size, 3, none⟩ = some (.int .i64 ln) := by rw [cell_of_row _ _ _ _ _ _ hrow2]; rfl
        have y4 : w2.cell? ⟨wr.heap.size, 4, none⟩ = some (.int .i64 cl) := by rw [cell_of_row _ _ _ _ _ _ hrow2]; rfl
        have HB2 := hide (HBl.out.trans hb2)
        have HBd2 := hide hbd2
        clear hrow2 hbd2 hb2 hk2 x6 HW HBl HRow HBd hsz1
        go_wp2_with fail
        refine (HB.out w2).mono ?_
        rintro e w3 ⟨rfl, hb3⟩
        have HBd3 := hide (HBd2.out.below hb3)
        have HB3 := hide (HB2.out.trans (hb3.mono HB2.out.size))
        have HW := hide (wbyte_at w.heap.size w.heap.size _ (behV tt) w3 HBd3.out (by rw [List.length_append]; exact HL1.out))
        clear y0 y1 y2 y3 y4 hb3 HB HB2 HBd2
        unfold u8V
        go_wp2_with fail
        refine HW.out.mono ?_
        rintro e w4 ⟨rfl, hbd4, hb4⟩
        have HP := hide (show Pr w l (k + 1) w4 from ⟨HAll.out, by rw [HNx.out]; exact hbd4, HB3.out.trans hb4.low⟩)
        clear hbd4 hb4 HW HBd3 HB3 HAll
        go_wp2_with fail
        go_roundw
        case rel => exact ⟨k + 1, by omega, by go_num, HP⟩
        case measure => simp [intOf]; omega
    · obtain rfl : k = N := by omega
      have hkl : l.take k = l := by rw [List.take_of_length_le (by rw [← HN.out]; exact Nat.le_refl _)]
      have HV := hide (HR.out.trans (prF_ok (by have := hP.out.ok; rwa [hkl] at this)))
      have HS := hide (Tryd.Builder_String_any_k w.heap.size w.heap.size (putV l) wr (by have := hP.out.bd; rwa [hkl] at this) hP.out.bel.size)
      have HBe := hide hP.out.bel
      clear hP hkl
      go_wp2_with fail
      refine HS.out.mono ?_
      rintro e w5 ⟨rfl, -, hb5, -⟩
      have HB5 := hide (HBe.out.trans hb5)
      clear hb5 HS HBe
      go_wp2_with fail
      go_ret2
      exact ⟨by rw [HV.out]; rfl, HB5.out⟩
end Go.Proofs.YtohmenghlboalaaDoor
