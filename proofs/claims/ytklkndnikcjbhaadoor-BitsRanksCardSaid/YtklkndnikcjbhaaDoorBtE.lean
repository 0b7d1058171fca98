/-
  Of: the set of numbers.
-/
import Derived.Test.YtklkndnikcjbhaaDoorBtD
namespace Go.Proofs.YtklkndnikcjbhaaDoor
open Go.RowKit Go.Shelf
set_option linter.unusedVariables false
set_option linter.unusedSimpArgs false

def orAll (l : List Int) : Nat := l.foldl (fun s z => s ||| 2 ^ z.toNat) 0
def okAll (l : List Int) : Prop := ∀ z ∈ l, 0 ≤ z ∧ z < 64
theorem orAll_snoc (l : List Int) (z : Int) : orAll (l ++ [z]) = orAll l ||| 2 ^ z.toNat := by simp [orAll]
theorem orAll_bit {l : List Int} (h : okAll l) (i : Nat) : (orAll l).testBit i = decide ((i : Int) ∈ l) := by
  have key : ∀ (l : List Int) (s : Nat), okAll l → (l.foldl (fun s z => s ||| 2 ^ z.toNat) s).testBit i = (s.testBit i || decide ((i : Int) ∈ l)) := by
    intro l
    induction l with
    | nil => intro s _; simp
    | cons z l ih =>
      intro s h
      rw [List.foldl_cons, ih _ fun y hy => h y (by simp [hy]), Nat.testBit_or, Nat.testBit_two_pow]
      obtain ⟨h0, h1⟩ := h z (by simp)
      by_cases e : z = (i : Int)
      · have e2 : z.toNat = i := by omega
        simp [e, e2]
      · have e2 : ¬ z.toNat = i := by omega
        have e3 : ¬ (i : Int) = z := fun x => e x.symm
        simp [e2, e3]
  have := key l 0 h
  rw [Nat.zero_testBit, Bool.false_or] at this
  exact this
theorem orAll_lt {l : List Int} (h : okAll l) : orAll l < 2 ^ 64 := by
  apply Nat.lt_pow_two_of_testBit
  intro i hi
  rw [orAll_bit h]
  refine decide_eq_false fun hm => ?_
  have := (h _ hm).2
  omega
theorem orAll_mem {s : Nat} (hs : s < 2 ^ 64) : orAll (memI s) = s := by
  have hok : okAll (memI s) := fun z hz => by
    obtain ⟨m, hm, rfl⟩ := List.mem_map.1 hz
    have := (mem_mem.1 hm).1
    omega
  apply Nat.eq_of_testBit_eq
  intro i
  rw [orAll_bit hok]
  by_cases hb : s.testBit i = true
  · have hi : i < 64 := by
      apply Nat.lt_of_not_le
      intro hle
      rw [high_zero hs hle] at hb; cases hb
    rw [hb]
    exact decide_eq_true (List.mem_map.2 ⟨i, mem_mem.2 ⟨hi, hb⟩, rfl⟩)
  · have hb : s.testBit i = false := by simpa using hb
    rw [hb]
    refine decide_eq_false fun hm => ?_
    obtain ⟨m, hm', e⟩ := List.mem_map.1 hm
    have e : m = i := by omega
    subst e
    rw [(mem_mem.1 hm').2] at hb; cases hb
theorem memI_ok (s : Nat) : okAll (memI s) := fun z hz => by
  obtain ⟨m, hm, rfl⟩ := List.mem_map.1 hz
  have := (mem_mem.1 hm).1
  omega

theorem pow_wrap (j : Nat) (h : j < 64) : IntKind.u64.wrap ((2 : Int) ^ j) = ((2 ^ j : Nat) : Int) := by
  have hpj : 2 ^ j < 2 ^ 64 := Nat.pow_lt_pow_right (by decide) h
  have e : ((2 : Int) ^ j) = ((2 ^ j : Nat) : Int) := by simp
  rw [IntKind.wrap_u64, e]
  generalize (2 : Nat) ^ j = y at hpj ⊢
  omega
noncomputable def ofV (l : List Int) : Value := open Classical in if okAll l then .tuple #[.int .u64 (orAll l : Nat), .int .i64 0] else .tuple #[.int .u64 0, .int .i64 120]

set_option maxHeartbeats 1000000 in
theorem of_at (l : List Int) (A : Option Addr) (c : Nat) (w : World) (hI : Ints w A l) (hl : l.length ≤ 9223372036854775806) :
    Calls Tryd.prog 30 #[.slice A l.length c] w fun e w' => e = .returned (ofV l) ∧ w = w' := by
  have HI := hide hI
  obtain ⟨n, hn⟩ : ∃ n, n = l.length := ⟨_, rfl⟩
  have HN := hide hn
  rw [← hn] at hl ⊢
  clear hI hn
  go_enter Tryd.func30, Tryd.ntmps30
  go_wp2_with fail
  go_loop [9, 4] (fun i s => ∃ k : Nat, k ≤ n ∧ i = .int .i64 k ∧ s = .int .u64 (orAll (l.take k) : Nat) ∧ okAll (l.take k)) (fun i _ => n - (intOf i).toNat)
  case atStart => exact ⟨0, Nat.zero_le _, rfl, rfl, fun z hz => by simp at hz⟩
  case round =>
    obtain ⟨k, hk, rfl, rfl, hok⟩ := hrel
    have HOK := hide hok
    clear hok
    by_cases hlt : k < n
    · obtain ⟨b, off, rfl, hb, hc⟩ := HI.out.at (by rw [← HN.out]; exact hlt)
      have HS := hide (take_snoc l 0 k (by rw [← HN.out]; exact hlt))
      obtain ⟨z, hz⟩ : ∃ z, z = l.getD k 0 := ⟨_, rfl⟩
      rw [← hz] at hc HS
      have HM := hide (show z ∈ l by
        rw [hz, List.getD_eq_getElem?_getD, List.getElem?_eq_getElem (by rw [← HN.out]; exact hlt)]
        exact List.getElem_mem _)
      clear hz
      by_cases hzz : 0 ≤ z ∧ z < 64
      · have HNb := hide (show numB z = true from decide_eq_true hzz)
        have HZ := hide hzz
        obtain ⟨j, rfl⟩ := Int.eq_ofNat_of_zero_le hzz.1
        have hj : j < 64 := by omega
        have hlt2 := orAll_lt HOK.out
        have hpj : 2 ^ j < 2 ^ 64 := Nat.pow_lt_pow_right (by decide) hj
        have HOr := hide (u64_or_nat (orAll (l.take k)) (2 ^ j) hlt2 hpj)
        have HTk := hide (orAll_snoc (l.take k) (j : Int))
        generalize orAll (l.take k) = s0 at *
        clear hzz
        go_wp2_with (go_at_call 35; refine (isNumber_at _ _).mono ?_; rintro e w' ⟨rfl, rfl⟩; rw [HNb.out])
        have HW := hide (pow_wrap j hj)
        go_round
        case rel =>
          refine ⟨k + 1, by omega, by go_num, ?_, ?_⟩
          · rw [HS.out, HTk.out, HW.out, HOr.out]; rfl
          · rw [HS.out]
            intro y hy
            rcases List.mem_append.1 hy with h | h
            · exact HOK.out y h
            · obtain rfl := List.mem_singleton.1 h
              exact HZ.out
        case measure => simp [intOf]; omega
      · have HNb := hide (show numB z = false from decide_eq_false hzz)
        have HV := hide (show ofV l = .tuple #[.int .u64 0, .int .i64 120] from if_neg fun h => hzz (h z HM.out))
        clear hzz
        go_wp2_with (go_at_call 35; refine (isNumber_at _ _).mono ?_; rintro e w' ⟨rfl, rfl⟩; rw [HNb.out])
        go_ret2
        exact ⟨by rw [HV.out]; rfl, rfl⟩
    · obtain rfl : k = n := by omega
      have HT : Hid (l.take k = l) := by show _ = _; rw [HN.out, List.take_length]
      have HV := hide (show ofV l = .tuple #[.int .u64 (orAll (l.take k) : Nat), .int .i64 0] from by
        unfold ofV; rw [if_pos (by have := HOK.out; rwa [HT.out] at this), HT.out])
      generalize orAll (l.take k) = s0 at *
      go_wp2
      go_ret2
      exact ⟨by rw [HV.out]; rfl, rfl⟩
end Go.Proofs.YtklkndnikcjbhaaDoor
