/-
  How far a class goes; strings by their bytes.
-/
import Derived.Test.YtohmenghlboalaaDoorLxA
namespace Go.Proofs.YtohmenghlboalaaDoor
open Go.RowKit Go.Shelf
attribute [local go_sem] Oper.semAt_some
set_option linter.unusedVariables false
set_option linter.unusedSimpArgs false
set_option maxRecDepth 100000

abbrev byt (s : ByteArray) : List UInt8 := s.data.toList
def str (l : List UInt8) : ByteArray := ⟨l.toArray⟩
theorem byt_str (l : List UInt8) : byt (str l) = l := by simp [byt, str]
theorem str_byt (s : ByteArray) : str (byt s) = s := by cases s; simp [byt, str]
theorem byt_inj {s t : ByteArray} (h : byt s = byt t) : s = t := by rw [← str_byt s, ← str_byt t, h]
theorem seq (x y : ByteArray) : (x.toList == y.toList) = decide (x = y) := by
  have h : (x.toList = y.toList) ↔ x = y := by
    simp only [ByteArray.toList_eq]
    exact ⟨fun h => byt_inj h, fun h => by rw [h]⟩
  rw [Bool.eq_iff_iff]
  simp only [beq_iff_eq, decide_eq_true_eq]
  exact h
theorem byt_len (s : ByteArray) : (byt s).length = s.size := by cases s; simp [byt, ByteArray.size]
theorem str_size (l : List UInt8) : (str l).size = l.length := by simp [str, ByteArray.size]
theorem byt_sub (s : ByteArray) (a b : Nat) : byt (s.extract a b) = ((byt s).take b).drop a := by
  simp only [byt, ByteArray.data_extract, Array.toList_extract, List.extract_eq_take_drop, List.drop_take]
theorem sub_from (s : ByteArray) (a : Nat) : byt (s.extract a s.size) = (byt s).drop a := by
  rw [byt_sub, ← byt_len, List.take_length]
theorem sub_to (s : ByteArray) (b : Nat) : byt (s.extract 0 b) = (byt s).take b := by rw [byt_sub, List.drop_zero]
theorem idx_at {s : ByteArray} {k : Nat} {c : UInt8} (h : (byt s)[k]? = some c) (W : World) : (Instr.index 9 (.string s) (.int .i64 (k : Nat))).run Tryd.prog W = .ok (u8V c) W := by
  have hk : k < s.size := by rw [← byt_len]; exact (List.getElem?_eq_some_iff.1 h).1
  rw [run_index_string W 9 s .i64 _ Tryd.underlying9, dif_pos ⟨by omega, by omega⟩]
  have e : (((k : Nat) : Int)).toNat = k := by omega
  simp only [e]
  rw [Lib.getD_at s k hk]
  have : s.data.toList.getD k 0 = c := by rw [List.getD_eq_getElem?_getD]; rw [show s.data.toList[k]? = some c from h]; rfl
  rw [this]; rfl
theorem idx_at0 {s : ByteArray} {c : UInt8} (h : (byt s)[0]? = some c) (W : World) : (Instr.index 9 (.string s) (.int .i64 0)).run Tryd.prog W = .ok (u8V c) W := idx_at (k := 0) h W

theorem tkw_step {p : UInt8 → Bool} {l : List UInt8} {k : Nat} {c : UInt8} (h : l[k]? = some c) : tkw p (l.drop k) = if p c = true then tkw p (l.drop (k + 1)) + 1 else 0 := by
  obtain ⟨hk, rfl⟩ := List.getElem?_eq_some_iff.1 h
  rw [List.drop_eq_getElem_cons hk]
  cases hp : p l[k] with
  | true => rw [tkw_pos _ hp, if_pos rfl]
  | false => rw [tkw_neg _ hp, if_neg (by simp)]

set_option maxHeartbeats 1000000 in
theorem thr_digit (s : ByteArray) (c0 : UInt8) (hs : (byt s)[0]? = some c0) (hz : s.size ≤ 281474976710656) (p q : Nat) (w : World) (h : Two w p q 48 57) :
    Calls Tryd.prog 33 #[.string s, betw p q] w fun e w' => e = .returned (.int .i64 ((1 + tkw isD ((byt s).drop 1) : Nat) : Int)) ∧ w' = w := by
  have HC := hide (fun c => digit_at c p q w h)
  have hn : 0 < s.size := by rw [← byt_len]; exact (List.getElem?_eq_some_iff.1 hs).1
  have HB := hide (byt_len s)
  obtain ⟨n, hnn⟩ : ∃ n, n = s.size := ⟨_, rfl⟩
  have HN := hide hnn
  have HS0 := hide hs
  rw [← hnn] at hn hz HB
  have hle : 1 ≤ n := hn
  obtain ⟨R, hR⟩ : ∃ R : Int, R = ((1 + tkw isD ((byt s).drop 1) : Nat) : Int) := ⟨_, rfl⟩
  rw [← hR]
  have HR := hide hR
  clear hs hnn hR h
  try unfold betw at HC
  unfold u8V at HC
  try unfold betw
  go_enter Tryd.func33, Tryd.ntmps33
  go_wp2_with fail
  go_loop [4, 5] (fun _ iv => ∃ k : Nat, 1 ≤ k ∧ k ≤ n ∧ iv = .int .i64 k ∧ tkw isD ((byt s).drop 1) = (k - 1) + tkw isD ((byt s).drop k)) (fun _ iv => n - (intOf iv).toNat)
  case atStart => exact ⟨1, Nat.le_refl _, hle, rfl, by omega⟩
  case round =>
    obtain ⟨k, hk1, hk, rfl, hT⟩ := hrel
    have HT := hide hT
    clear hT
    have hsz : (s.size : Int) = n := by rw [HN.out]
    by_cases hlt : k < n
    · obtain ⟨c, hc⟩ : ∃ c, (byt s)[k]? = some c := ⟨_, List.getElem?_eq_getElem (by rw [HB.out]; exact hlt)⟩
      have hix := idx_at hc
      unfold u8V at hix
      have HST := hide (tkw_step (p := isD) hc)
      have HCc := hide (HC.out c)
      clear hc
      cases hp : isD c with
      | true =>
        have HS2 := hide (show tkw isD ((byt s).drop k) = tkw isD ((byt s).drop (k + 1)) + 1 by rw [HST.out, if_pos hp])
        rw [hp] at HCc
        clear hp HST
        go_wp2_with fail
        refine HCc.out.mono ?_
        rintro e w' ⟨rfl, rfl⟩
        go_wp2_with fail
        go_round
        case rel => exact ⟨k + 1, by omega, by omega, by go_num, by rw [HT.out, HS2.out]; omega⟩
        case measure => simp [intOf]; omega
      | false =>
        have HS2 := hide (show tkw isD ((byt s).drop k) = 0 by rw [HST.out, if_neg (by simp [hp])])
        have HV := hide (show R = (k : Nat) by rw [HR.out, HT.out, HS2.out]; omega)
        rw [hp] at HCc
        clear hp HST
        go_wp2_with fail
        refine HCc.out.mono ?_
        rintro e w' ⟨rfl, rfl⟩
        go_wp2_with fail
        go_ret
        exact ⟨by rw [HV.out]; rfl, rfl⟩
    · obtain rfl : k = n := by omega
      have HV := hide (show R = (k : Nat) by
        rw [HR.out, HT.out, List.drop_of_length_le (by rw [HB.out]; omega), tkw_nil]; omega)
      go_wp2_with fail
      go_ret
      exact ⟨by rw [HV.out]; rfl, rfl⟩


set_option maxHeartbeats 1000000 in
theorem thr_word (s : ByteArray) (c0 : UInt8) (hs : (byt s)[0]? = some c0) (hz : s.size ≤ 281474976710656) (x y p q p' q' : Nat) (w : World) (hx : w.cell? ⟨x, 0, none⟩ = some (betw p q)) (hy : w.cell? ⟨y, 0, none⟩ = some (betw p' q')) (h1 : Two w p q 97 122) (h2 : Two w p' q' 48 57) :
    Calls Tryd.prog 33 #[.string s, .func (.func 32) #[] #[.pointer (some ⟨x, 0, none⟩), .pointer (some ⟨y, 0, none⟩)]] w fun e w' => e = .returned (.int .i64 ((1 + tkw isW ((byt s).drop 1) : Nat) : Int)) ∧ w' = w := by
  have HC := hide (fun c => inWord_at c x y p q p' q' w hx hy h1 h2)
  have hn : 0 < s.size := by rw [← byt_len]; exact (List.getElem?_eq_some_iff.1 hs).1
  have HB := hide (byt_len s)
  obtain ⟨n, hnn⟩ : ∃ n, n = s.size := ⟨_, rfl⟩
  have HN := hide hnn
  have HS0 := hide hs
  rw [← hnn] at hn hz HB
  have hle : 1 ≤ n := hn
  obtain ⟨R, hR⟩ : ∃ R : Int, R = ((1 + tkw isW ((byt s).drop 1) : Nat) : Int) := ⟨_, rfl⟩
  rw [← hR]
  have HR := hide hR
  clear hs hnn hR hx hy h1 h2
  try unfold betw at HC
  unfold u8V at HC
  try unfold betw
  go_enter Tryd.func33, Tryd.ntmps33
  go_wp2_with fail
  go_loop [4, 5] (fun _ iv => ∃ k : Nat, 1 ≤ k ∧ k ≤ n ∧ iv = .int .i64 k ∧ tkw isW ((byt s).drop 1) = (k - 1) + tkw isW ((byt s).drop k)) (fun _ iv => n - (intOf iv).toNat)
  case atStart => exact ⟨1, Nat.le_refl _, hle, rfl, by omega⟩
  case round =>
    obtain ⟨k, hk1, hk, rfl, hT⟩ := hrel
    have HT := hide hT
    clear hT
    have hsz : (s.size : Int) = n := by rw [HN.out]
    by_cases hlt : k < n
    · obtain ⟨c, hc⟩ : ∃ c, (byt s)[k]? = some c := ⟨_, List.getElem?_eq_getElem (by rw [HB.out]; exact hlt)⟩
      have hix := idx_at hc
      unfold u8V at hix
      have HST := hide (tkw_step (p := isW) hc)
      have HCc := hide (HC.out c)
      clear hc
      cases hp : isW c with
      | true =>
        have HS2 := hide (show tkw isW ((byt s).drop k) = tkw isW ((byt s).drop (k + 1)) + 1 by rw [HST.out, if_pos hp])
        rw [hp] at HCc
        clear hp HST
        go_wp2_with fail
        refine HCc.out.mono ?_
        rintro e w' ⟨rfl, rfl⟩
        go_wp2_with fail
        go_round
        case rel => exact ⟨k + 1, by omega, by omega, by go_num, by rw [HT.out, HS2.out]; omega⟩
        case measure => simp [intOf]; omega
      | false =>
        have HS2 := hide (show tkw isW ((byt s).drop k) = 0 by rw [HST.out, if_neg (by simp [hp])])
        have HV := hide (show R = (k : Nat) by rw [HR.out, HT.out, HS2.out]; omega)
        rw [hp] at HCc
        clear hp HST
        go_wp2_with fail
        refine HCc.out.mono ?_
        rintro e w' ⟨rfl, rfl⟩
        go_wp2_with fail
        go_ret
        exact ⟨by rw [HV.out]; rfl, rfl⟩
    · obtain rfl : k = n := by omega
      have HV := hide (show R = (k : Nat) by
        rw [HR.out, HT.out, List.drop_of_length_le (by rw [HB.out]; omega), tkw_nil]; omega)
      go_wp2_with fail
      go_ret
      exact ⟨by rw [HV.out]; rfl, rfl⟩

end Go.Proofs.YtohmenghlboalaaDoor
