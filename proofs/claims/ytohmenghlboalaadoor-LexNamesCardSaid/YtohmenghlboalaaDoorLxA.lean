/-
  Classes of bytes: the closures that ask them, and how far one goes.
-/
import Derived.Test.YtohmenghlboalaaDoorPl
import Derived.Test.YtohmenghlboalaaDoorLxN
import Derived.Test.YtohmenghlboalaaDoorShelf
namespace Go.Proofs.YtohmenghlboalaaDoor
open Go.RowKit Go.Shelf
attribute [local go_sem] Oper.semAt_some
set_option linter.unusedVariables false
set_option linter.unusedSimpArgs false
set_option maxRecDepth 100000

theorem betw_at (a b : Int) (w : World) :
    Calls Tryd.prog 31 #[.int .u8 a, .int .u8 b] w fun e w' => e = .returned (.func (.func 38) #[] #[.pointer (some ⟨w.heap.size, 0, none⟩), .pointer (some ⟨w.heap.size + 1, 0, none⟩)]) ∧
      w' = (w.alloc (.cells #[.int .u8 a] 5)).alloc (.cells #[.int .u8 b] 5) := by
  go_enter Tryd.func31, Tryd.ntmps31
  go_wp2
  go_ret
  exact ⟨rfl, rfl⟩
theorem in_at (c a b : Int) (p q : Nat) (w : World) (h1 : w.cell? ⟨p, 0, none⟩ = some (.int .u8 a)) (h2 : w.cell? ⟨q, 0, none⟩ = some (.int .u8 b)) :
    Calls Tryd.prog 38 #[.int .u8 c, .pointer (some ⟨p, 0, none⟩), .pointer (some ⟨q, 0, none⟩)] w fun e w' => e = .returned (.bool (decide (a ≤ c) && decide (c ≤ b))) ∧ w' = w := by
  by_cases h : a ≤ c
  · have H : Hid ((decide (a ≤ c) && decide (c ≤ b)) = decide (c ≤ b)) := by show _ = _; simp [h]
    go_enter Tryd.func38, Tryd.ntmps38
    go_wp2
    go_ret
    exact ⟨by rw [H.out]; rfl, rfl⟩
  · have H : Hid ((decide (a ≤ c) && decide (c ≤ b)) = false) := by show _ = _; simp [h]
    go_enter Tryd.func38, Tryd.ntmps38
    go_wp2
    go_ret
    exact ⟨by rw [H.out]; rfl, rfl⟩
theorem among_at (s : ByteArray) (w : World) :
    Calls Tryd.prog 29 #[.string s] w fun e w' => e = .returned (.func (.func 36) #[] #[.pointer (some ⟨w.heap.size, 0, none⟩)]) ∧ w' = w.alloc (.cells #[.string s] 9) := by
  go_enter Tryd.func29, Tryd.ntmps29
  go_wp2
  go_ret
  exact ⟨rfl, rfl⟩
theorem am_at (c : Int) (s : ByteArray) (p : Nat) (w : World) (h1 : w.cell? ⟨p, 0, none⟩ = some (.string s)) :
    Calls Tryd.prog 36 #[.int .u8 c, .pointer (some ⟨p, 0, none⟩)] w fun e w' => e = .returned (.bool (decide (0 ≤ Lib.indexByte s.data.toList c.toNat.toUInt8))) ∧ w' = w := by
  go_enter Tryd.func36, Tryd.ntmps36
  go_wp2_with (go_at_call 37; refine (Tryd.strings_IndexByte s c _).mono ?_; rintro e w' ⟨rfl, rfl⟩)
  go_ret
  exact ⟨rfl, rfl⟩

/-! ### classes -/
def u8V (c : UInt8) : Value := .int .u8 (c.toNat : Nat)
theorem isL_in (c : UInt8) : (decide ((97 : Int) ≤ (c.toNat : Nat)) && decide (((c.toNat : Nat) : Int) ≤ 122)) = isL c := by
  unfold isL
  rw [Bool.eq_iff_iff]
  simp only [Bool.and_eq_true, decide_eq_true_eq]
  omega
theorem isD_in (c : UInt8) : (decide ((48 : Int) ≤ (c.toNat : Nat)) && decide (((c.toNat : Nat) : Int) ≤ 57)) = isD c := by
  unfold isD
  rw [Bool.eq_iff_iff]
  simp only [Bool.and_eq_true, decide_eq_true_eq]
  omega
theorem byte_all {p q : UInt8 → Bool} (h : ∀ c : Fin 256, p (UInt8.ofNat c.val) = q (UInt8.ofNat c.val)) (c : UInt8) : p c = q c := by
  have := h ⟨c.toNat, c.toNat_lt⟩
  simp only [UInt8.ofNat_toNat] at this
  exact this
theorem byte_int (c : UInt8) : (((c.toNat : Nat) : Int).toNat).toUInt8 = c := by
  show UInt8.ofNat _ = c
  rw [Int.toNat_natCast, UInt8.ofNat_toNat]
theorem isM_in (c : UInt8) : decide (0 ≤ Lib.indexByte [123, 125, 40, 41, 58, 59, 44, 61, 46] c) = isM c := byte_all (p := fun c => decide (0 ≤ Lib.indexByte [123, 125, 40, 41, 58, 59, 44, 61, 46] c)) (by decide +kernel) c
theorem isB_in (c : UInt8) : decide (0 ≤ Lib.indexByte [32, 9, 13] c) = isB c := byte_all (p := fun c => decide (0 ≤ Lib.indexByte [32, 9, 13] c)) (by decide +kernel) c

/-- two bytes that a class lies between, in boxes -/
structure Two (W : World) (p q : Nat) (a b : Int) : Prop where
  lo : W.cell? ⟨p, 0, none⟩ = some (.int .u8 a)
  hi : W.cell? ⟨q, 0, none⟩ = some (.int .u8 b)
theorem letter_at (c : UInt8) (p q : Nat) (w : World) (h : Two w p q 97 122) :
    Calls Tryd.prog 38 #[u8V c, .pointer (some ⟨p, 0, none⟩), .pointer (some ⟨q, 0, none⟩)] w fun e w' => e = .returned (.bool (isL c)) ∧ w' = w := by
  rw [← isL_in]; exact in_at _ _ _ p q w h.lo h.hi
theorem digit_at (c : UInt8) (p q : Nat) (w : World) (h : Two w p q 48 57) :
    Calls Tryd.prog 38 #[u8V c, .pointer (some ⟨p, 0, none⟩), .pointer (some ⟨q, 0, none⟩)] w fun e w' => e = .returned (.bool (isD c)) ∧ w' = w := by
  rw [← isD_in]; exact in_at _ _ _ p q w h.lo h.hi
theorem mark_at (c : UInt8) (p : Nat) (w : World) (h : w.cell? ⟨p, 0, none⟩ = some (.string ⟨#[123, 125, 40, 41, 58, 59, 44, 61, 46]⟩)) :
    Calls Tryd.prog 36 #[u8V c, .pointer (some ⟨p, 0, none⟩)] w fun e w' => e = .returned (.bool (isM c)) ∧ w' = w := by
  have := am_at (c.toNat : Nat) _ p w h
  rw [byte_int] at this
  rw [← isM_in]; exact this
theorem blank_at (c : UInt8) (p : Nat) (w : World) (h : w.cell? ⟨p, 0, none⟩ = some (.string ⟨#[32, 9, 13]⟩)) :
    Calls Tryd.prog 36 #[u8V c, .pointer (some ⟨p, 0, none⟩)] w fun e w' => e = .returned (.bool (isB c)) ∧ w' = w := by
  have := am_at (c.toNat : Nat) _ p w h
  rw [byte_int] at this
  rw [← isB_in]; exact this

/-- a closure in a box of its own -/
def betw (p q : Nat) : Value := .func (.func 38) #[] #[.pointer (some ⟨p, 0, none⟩), .pointer (some ⟨q, 0, none⟩)]
theorem inWord_at (c : UInt8) (x y p q p' q' : Nat) (w : World) (hx : w.cell? ⟨x, 0, none⟩ = some (betw p q)) (hy : w.cell? ⟨y, 0, none⟩ = some (betw p' q')) (h1 : Two w p q 97 122) (h2 : Two w p' q' 48 57) :
    Calls Tryd.prog 32 #[u8V c, .pointer (some ⟨x, 0, none⟩), .pointer (some ⟨y, 0, none⟩)] w fun e w' => e = .returned (.bool (isW c)) ∧ w' = w := by
  have HL := hide (letter_at c p q w h1)
  have HD := hide (digit_at c p' q' w h2)
  unfold betw at hx hy
  unfold u8V at HL HD ⊢
  cases hl : isL c with
  | true =>
    have H := hide (show isW c = true by simp [isW, hl])
    rw [hl] at HL
    clear hl h1 h2
    go_enter Tryd.func32, Tryd.ntmps32
    go_wp2_with fail
    refine HL.out.mono ?_
    rintro e w' ⟨rfl, rfl⟩
    go_wp2_with fail
    go_ret
    exact ⟨by rw [H.out]; rfl, rfl⟩
  | false =>
    rw [hl] at HL
    cases hd : isD c with
    | true =>
      have H := hide (show isW c = true by simp [isW, hd])
      rw [hd] at HD
      clear hl hd h1 h2
      go_enter Tryd.func32, Tryd.ntmps32
      go_wp2_with fail
      refine HL.out.mono ?_
      rintro e w' ⟨rfl, rfl⟩
      go_wp2_with fail
      refine HD.out.mono ?_
      rintro e w' ⟨rfl, rfl⟩
      go_wp2_with fail
      go_ret
      exact ⟨by rw [H.out]; rfl, rfl⟩
    | false =>
      have H := hide (show isW c = (((c.toNat : Nat) : Int) == 95) by rw [show (((c.toNat : Nat) : Int) == 95) = decide (c.toNat = 95) from nat_beq _ 95]; simp [isW, hl, hd])
      rw [hd] at HD
      clear hl hd h1 h2
      go_enter Tryd.func32, Tryd.ntmps32
      go_wp2_with fail
      refine HL.out.mono ?_
      rintro e w' ⟨rfl, rfl⟩
      go_wp2_with fail
      refine HD.out.mono ?_
      rintro e w' ⟨rfl, rfl⟩
      go_wp2_with fail
      go_ret
      exact ⟨by rw [H.out]; rfl, rfl⟩
end Go.Proofs.YtohmenghlboalaaDoor
