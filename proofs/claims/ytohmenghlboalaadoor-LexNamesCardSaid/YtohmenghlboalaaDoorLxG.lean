/-
  The document's classes of bytes, and its numbers.
-/
import Derived.Test.YtohmenghlboalaaDoorLxD
namespace Go.Proofs.YtohmenghlboalaaDoor
open Go.RowKit Go.Shelf
attribute [local go_sem] Oper.semAt_some
set_option linter.unusedVariables false
set_option linter.unusedSimpArgs false
set_option maxRecDepth 100000

theorem rletter_at (c : UInt8) (w : World) : Calls Tryd.prog 24 #[u8V c] w fun e w' => e = .returned (.bool (isL c)) ∧ w' = w := by
  unfold u8V
  rw [← isL_in]
  by_cases h : (97 : Int) ≤ ((c.toNat : Nat) : Int)
  · have H : Hid ((decide ((97 : Int) ≤ (c.toNat : Nat)) && decide (((c.toNat : Nat) : Int) ≤ 122)) = decide (((c.toNat : Nat) : Int) ≤ 122)) := by show _ = _; simp [h]
    go_enter Tryd.func24, Tryd.ntmps24
    go_wp2
    go_ret
    exact ⟨by rw [H.out]; rfl, rfl⟩
  · have H : Hid ((decide ((97 : Int) ≤ (c.toNat : Nat)) && decide (((c.toNat : Nat) : Int) ≤ 122)) = false) := by show _ = _; simp [h]
    go_enter Tryd.func24, Tryd.ntmps24
    go_wp2
    go_ret
    exact ⟨by rw [H.out]; rfl, rfl⟩
theorem rdigit_at (c : UInt8) (w : World) : Calls Tryd.prog 25 #[u8V c] w fun e w' => e = .returned (.bool (isD c)) ∧ w' = w := by
  unfold u8V
  rw [← isD_in]
  by_cases h : (48 : Int) ≤ ((c.toNat : Nat) : Int)
  · have H : Hid ((decide ((48 : Int) ≤ (c.toNat : Nat)) && decide (((c.toNat : Nat) : Int) ≤ 57)) = decide (((c.toNat : Nat) : Int) ≤ 57)) := by show _ = _; simp [h]
    go_enter Tryd.func25, Tryd.ntmps25
    go_wp2
    go_ret
    exact ⟨by rw [H.out]; rfl, rfl⟩
  · have H : Hid ((decide ((48 : Int) ≤ (c.toNat : Nat)) && decide (((c.toNat : Nat) : Int) ≤ 57)) = false) := by show _ = _; simp [h]
    go_enter Tryd.func25, Tryd.ntmps25
    go_wp2
    go_ret
    exact ⟨by rw [H.out]; rfl, rfl⟩

def marksL : List UInt8 := [123, 125, 40, 41, 58, 59, 44, 61, 46]
theorem isM_mem (c : UInt8) : isM c = decide (c ∈ marksL) := byte_all (q := fun c => decide (c ∈ marksL)) (by decide +kernel) c
theorem byte_eq (a b : UInt8) : (((a.toNat : Nat) : Int) == ((b.toNat : Nat) : Int)) = decide (a = b) := by
  rw [nat_beq, Bool.eq_iff_iff]
  simp only [decide_eq_true_eq]
  exact UInt8.toNat_inj
set_option maxHeartbeats 1000000 in
theorem rmark_at (c : UInt8) (w : World) : Calls Tryd.prog 27 #[u8V c] w fun e w' => e = .returned (.bool (isM c)) ∧ w' = w := by
  have HM := hide (isM_mem c)
  obtain ⟨R, hR⟩ : ∃ R, R = isM c := ⟨_, rfl⟩
  rw [← hR] at HM ⊢
  clear hR
  unfold u8V
  obtain ⟨s, hs⟩ : ∃ s : ByteArray, s = ⟨#[123, 125, 40, 41, 58, 59, 44, 61, 46]⟩ := ⟨_, rfl⟩
  have HB := hide (show byt s = marksL from by rw [hs]; rfl)
  have hsz : (s.size : Int) = 9 := by rw [hs]; rfl
  go_enter Tryd.func27, Tryd.ntmps27
  rw [← hs]
  clear hs
  go_wp2
  go_loop [2, 4] (fun _ iv => ∃ k : Nat, k ≤ 9 ∧ iv = .int .i64 k ∧ (c ∈ marksL ↔ c ∈ marksL.drop k)) (fun _ iv => 9 - (intOf iv).toNat)
  case atStart => exact ⟨0, by omega, rfl, by simp⟩
  case round =>
    obtain ⟨k, hk, rfl, hK⟩ := hrel
    have HK := hide hK
    clear hK
    by_cases hlt : k < 9
    · have hl : k < marksL.length := hlt
      have hix := idx_at (s := s) (k := k) (c := marksL[k]) (by rw [HB.out]; exact List.getElem?_eq_getElem hl)
      have HD := hide (show marksL.drop k = marksL[k] :: marksL.drop (k + 1) from List.drop_eq_getElem_cons hl)
      generalize marksL[k] = m at hix HD
      unfold u8V at hix
      by_cases he : m = c
      · have hc : (((m.toNat : Nat) : Int) == ((c.toNat : Nat) : Int)) = true := by rw [byte_eq, decide_eq_true he]
        have HV := hide (show R = true by rw [HM.out, decide_eq_true]; rw [HK.out, HD.out, he]; exact List.mem_cons_self ..)
        clear he
        go_wp2
        go_ret
        exact ⟨by rw [HV.out]; rfl, rfl⟩
      · have hc : (((m.toNat : Nat) : Int) == ((c.toNat : Nat) : Int)) = false := by rw [byte_eq, decide_eq_false he]
        have HK2 := hide (show c ∈ marksL ↔ c ∈ marksL.drop (k + 1) by
          rw [HK.out, HD.out, List.mem_cons]
          exact ⟨fun h => h.resolve_left fun e => he e.symm, .inr⟩)
        clear he
        go_wp2
        go_round
        case rel => exact ⟨k + 1, by omega, by go_num, HK2.out⟩
        case measure => simp [intOf]; omega
    · obtain rfl : k = 9 := by omega
      have HV := hide (show R = false by
        rw [HM.out, decide_eq_false]
        rw [HK.out]
        exact fun h => by cases h)
      go_wp2
      go_ret
      exact ⟨by rw [HV.out]; rfl, rfl⟩

theorem valA_lt : ∀ (n : Nat) (l : List UInt8), l.length = n → l.all isD = true → valA 0 l < 10 ^ n
  | 0, l, h, _ => by rw [List.length_eq_zero_iff.1 h]; decide
  | n + 1, l, h, hd => by
    have hne : l ≠ [] := fun e => by rw [e] at h; cases h
    have hsp := List.dropLast_concat_getLast hne
    generalize l.getLast hne = c at hsp
    generalize l.dropLast = d at hsp
    subst hsp
    simp only [List.all_append, List.all_cons, List.all_nil, Bool.and_true, Bool.and_eq_true] at hd
    have hc : 48 ≤ c.toNat ∧ c.toNat ≤ 57 := by simpa [isD] using hd.2
    have := valA_lt n d (by simpa using h) hd.1
    rw [valA_snoc, Nat.pow_succ]
    omega
/-- the number of the first digits, and of one more -/
theorem valA_take {l : List UInt8} {k : Nat} {c : UInt8} (h : l[k]? = some c) : valA 0 (l.take (k + 1)) = valA 0 (l.take k) * 10 + (c.toNat - 48) := by
  obtain ⟨hk, rfl⟩ := List.getElem?_eq_some_iff.1 h
  rw [List.take_succ_eq_append_getElem hk, valA_snoc]
theorem all_isD {l : List UInt8} (hd : l.all isD = true) {k : Nat} {c : UInt8} (h : l[k]? = some c) : isD c = true := by
  obtain ⟨hk, rfl⟩ := List.getElem?_eq_some_iff.1 h
  exact List.all_eq_true.1 hd _ (List.getElem_mem hk)
theorem val_bound {l : List UInt8} (hd : l.all isD = true) (hl : l.length ≤ 10) (k : Nat) : valA 0 (l.take k) < 10000000000 := by
  have h1 : (l.take k).all isD = true := by
    rw [List.all_eq_true] at hd ⊢
    exact fun x hx => hd x (List.mem_of_mem_take hx)
  have h2 := valA_lt _ (l.take k) rfl h1
  have h3 : (10 : Nat) ^ (l.take k).length ≤ 10 ^ 10 := Nat.pow_le_pow_right (by omega) (by rw [List.length_take]; omega)
  have h4 : (10 : Nat) ^ 10 = 10000000000 := by decide
  omega
theorem okD_big {m : Bool} {l : List UInt8} (h : 10 < l.length) : okD m l = false := decide_eq_false (by omega)
theorem okD_nil {m : Bool} {l : List UInt8} (h : l.length = 0) : okD m l = false := decide_eq_false (by omega)
theorem okD_zp {l : List UInt8} (h : l.head? = some 48) (h1 : 1 < l.length) : okD false l = false := decide_eq_false (fun h2 => h2.2.2 ⟨h, .inl h1⟩)
theorem okD_zm {l : List UInt8} (h : l.head? = some 48) : okD true l = false := decide_eq_false (fun h2 => h2.2.2 ⟨h, .inr rfl⟩)
theorem okD_p {l : List UInt8} (h1 : 1 ≤ l.length) (h2 : l.length ≤ 10) (h : ¬ (l.head? = some 48 ∧ 1 < l.length)) : okD false l = true :=
  decide_eq_true ⟨h1, h2, fun h3 => h ⟨h3.1, h3.2.resolve_right (by decide)⟩⟩
theorem okD_m {l : List UInt8} (h1 : 1 ≤ l.length) (h2 : l.length ≤ 10) (h : l.head? ≠ some 48) : okD true l = true := decide_eq_true ⟨h1, h2, fun h3 => h h3.1⟩
def NumR (l : List UInt8) (w w' : World) (e : Ending) : Prop :=
  ∃ (x : Int) (b : Bool), e = .returned (.tuple #[.int .i64 x, .bool b]) ∧ (numF l = if b = true then some x else none) ∧ w' = w

set_option maxHeartbeats 4000000 in
theorem rnum_plain (d : ByteArray) (hz : d.size ≤ 140737488355328) (c : UInt8) (r : List UInt8) (hs : byt d = c :: r) (hc : c ≠ 45) (hd : (c :: r).all isD = true) (w : World) :
    Calls Tryd.prog 26 #[.string d] w fun e w' => NumR (byt d) w w' e := by
  have HL := hide hs
  have hds : 1 ≤ d.size := by rw [← byt_len, hs]; simp
  have hix0 := idx_at0 (s := d) (c := c) (by rw [hs]; rfl)
  unfold u8V at hix0
  have HR := hide (show numF (byt d) = if okD false (c :: r) = true ∧ valA 0 (c :: r) ≤ 2147483647 then some (((valA 0 (c :: r) : Nat) : Int)) else none from by rw [hs]; exact numF_plain hc)
  obtain ⟨L, hL⟩ : ∃ L, L = byt d := ⟨_, rfl⟩
  rw [← hL] at HR ⊢
  clear hL
  obtain ⟨D, hD⟩ : ∃ D, D = d := ⟨_, rfl⟩
  have HDe := hide hD.symm
  have HD := hide (show byt D = (c :: r) from by rw [hD]; exact hs)
  obtain ⟨n, hn⟩ : ∃ n, n = ((c :: r)).length := ⟨_, rfl⟩
  have hDz : (D.size : Int) = n := by rw [← byt_len, HD.out, hn]
  have HN := hide hn
  have hall := hide hd
  have HC0 := hide (show (c :: r)[0]? = some c from rfl)
  have hnz : n ≤ 140737488355328 := by have := byt_len d; rw [hs] at this; simp at this; rw [hn]; simp; omega
  generalize hQ : (c :: r) = ds at *
  clear hQ hD hd hn
  have hmm : (((c.toNat : Nat) : Int) == 45) = false := by rw [show (45 : Int) = (((45 : UInt8).toNat : Nat) : Int) from rfl, byte_eq, decide_eq_false hc]
  have hDd := HDe.out
  subst hDd
  have h0 : n ≠ 0 := by rw [HN.out]; intro h; have := HC0.out; rw [List.length_eq_zero_iff.1 h] at this; cases this
  by_cases h10 : 10 < n
  · have HV := hide (show (if okD false ds = true ∧ valA 0 ds ≤ 2147483647 then some (((valA 0 ds : Nat) : Int)) else none) = none from by
      rw [okD_big (by have := HN.out; omega)]; rfl)
    have g0 : ¬ (n : Int) < 1 := by omega
    have g1 : (10 : Int) < (n : Nat) := by omega
    go_enter Tryd.func26, Tryd.ntmps26
    go_wp2_with fail
    all_goals go_ret2
    all_goals exact ⟨0, false, rfl, by rw [HR.out, HV.out]; rfl, rfl⟩
  · have he := HC0.out
    have g0 : ¬ (n : Int) < 1 := by omega
    have g1 : ¬ (10 : Int) < (n : Nat) := by omega
    have HH := hide (show ds.head? = some c from by rw [List.head?_eq_getElem?]; exact he)
    clear he
    by_cases hh : c = 48 ∧ 1 < n
    · have HV := hide (show (if okD false ds = true ∧ valA 0 ds ≤ 2147483647 then some (((valA 0 ds : Nat) : Int)) else none) = none from by
        rw [okD_zp (by rw [HH.out, hh.1]) (by rw [← HN.out]; exact hh.2)]; rfl)
      have hee : (((c.toNat : Nat) : Int) == 48) = true := by rw [hh.1]; rfl
      have g2 : (1 : Int) < (n : Nat) := by have := hh.2; omega
      clear hh
      go_enter Tryd.func26, Tryd.ntmps26
      go_wp2_with fail
      all_goals go_ret2
      all_goals exact ⟨0, false, rfl, by rw [HR.out, HV.out]; rfl, rfl⟩
    · have HV := hide (show okD false ds = true from okD_p (by have := HN.out; omega) (by have := HN.out; omega) (by rw [HH.out, ← HN.out]; exact fun h => hh ⟨Option.some.inj h.1, h.2⟩))
      by_cases hee0 : c = 48
      · have hee : (((c.toNat : Nat) : Int) == 48) = true := by rw [hee0]; rfl
        have g2 : ¬ (1 : Int) < (n : Nat) := fun h => hh ⟨hee0, by omega⟩
        clear hh hee0
        go_enter Tryd.func26, Tryd.ntmps26
        go_wp2_with fail
        go_loop [6, 7] (fun nv iv => ∃ k : Nat, k ≤ n ∧ iv = .int .i64 k ∧ nv = .int .i64 (valA 0 (ds.take k) : Nat)) (fun _ iv => n - (intOf iv).toNat)
        case atStart => exact ⟨0, Nat.zero_le _, rfl, rfl⟩
        case round =>
          obtain ⟨k, hk, rfl, rfl⟩ := hrel
          have hvb := val_bound hall.out (show ds.length ≤ 10 by have := HN.out; omega) k
          by_cases hlt : k < n
          · obtain ⟨x, hx⟩ : ∃ x, ds[k]? = some x := ⟨_, List.getElem?_eq_getElem (by have := HN.out; omega)⟩
            have hix := idx_at (s := d) (k := k) (c := x) (by rw [HD.out]; exact hx)
            unfold u8V at hix
            have HT := hide (valA_take hx)
            have hxd := all_isD hall.out hx
            have hxb : 48 ≤ x.toNat ∧ x.toNat ≤ 57 := by simpa [isD] using hxd
            have HDg := hide (rdigit_at x w)
            rw [hxd] at HDg
            unfold u8V at HDg
            clear hx hxd
            obtain ⟨V, hV⟩ : ∃ V, V = valA 0 (ds.take k) := ⟨_, rfl⟩
            rw [← hV] at HT hvb ⊢
            clear hV
            obtain ⟨y, hy⟩ : ∃ y : Nat, x.toNat = 48 + y := ⟨x.toNat - 48, by omega⟩
            have hy9 : y ≤ 9 := by omega
            rw [hy] at hix HDg HT
            clear hxb hy
            go_wp2_with fail
            refine HDg.out.mono ?_
            rintro e w' ⟨rfl, rfl⟩
            go_wp2_with fail
            go_round
            case rel => exact ⟨k + 1, by omega, by go_num, by rw [HT.out]; go_num⟩
            case measure => simp [intOf]; omega
          · obtain rfl : k = n := by omega
            have HT := hide (show ds.take k = ds from by rw [HN.out, List.take_length])
            rw [HT.out] at hvb ⊢
            have HRR := hide (HR.out.trans (show (if okD false ds = true ∧ valA 0 ds ≤ 2147483647 then some (((valA 0 ds : Nat) : Int)) else none) = if valA 0 ds ≤ 2147483647 then some (((valA 0 ds : Nat) : Int)) else none from by
              by_cases hq : valA 0 ds ≤ 2147483647
              · rw [if_pos ⟨HV.out, hq⟩, if_pos hq]
              · rw [if_neg (fun h => hq h.2), if_neg hq]))
            obtain ⟨V, hV⟩ : ∃ V, V = valA 0 ds := ⟨_, rfl⟩
            rw [← hV] at HRR hvb ⊢
            clear hV
            by_cases hq : V ≤ 2147483647
            · have q1 : (-2147483648 : Int) ≤ (V : Int) := by omega
              have q2 : (V : Int) ≤ 2147483647 := by omega
              have HQ := hide (show L = L ∧ numF L = some (V : Int) from ⟨rfl, by rw [HRR.out, if_pos hq]⟩)
              clear hq
              go_wp2_with fail
              go_ret2
              exact ⟨(V : Int), true, by simp, by rw [HQ.out.2]; rfl, rfl⟩
            · have q1 : (-2147483648 : Int) ≤ (V : Int) := by omega
              have q2 : ¬ (V : Int) ≤ 2147483647 := by omega
              have HQ := hide (show L = L ∧ numF L = none from ⟨rfl, by rw [HRR.out, if_neg hq]⟩)
              clear hq
              go_wp2_with fail
              go_ret2
              exact ⟨(V : Int), false, by simp, by rw [HQ.out.2]; rfl, rfl⟩
      · have hee : (((c.toNat : Nat) : Int) == 48) = false := by rw [show (48 : Int) = (((48 : UInt8).toNat : Nat) : Int) from rfl, byte_eq, decide_eq_false hee0]
        clear hh hee0
        go_enter Tryd.func26, Tryd.ntmps26
        go_wp2_with fail
        go_loop [6, 7] (fun nv iv => ∃ k : Nat, k ≤ n ∧ iv = .int .i64 k ∧ nv = .int .i64 (valA 0 (ds.take k) : Nat)) (fun _ iv => n - (intOf iv).toNat)
        case atStart => exact ⟨0, Nat.zero_le _, rfl, rfl⟩
        case round =>
          obtain ⟨k, hk, rfl, rfl⟩ := hrel
          have hvb := val_bound hall.out (show ds.length ≤ 10 by have := HN.out; omega) k
          by_cases hlt : k < n
          · obtain ⟨x, hx⟩ : ∃ x, ds[k]? = some x := ⟨_, List.getElem?_eq_getElem (by have := HN.out; omega)⟩
            have hix := idx_at (s := d) (k := k) (c := x) (by rw [HD.out]; exact hx)
            unfold u8V at hix
            have HT := hide (valA_take hx)
            have hxd := all_isD hall.out hx
            have hxb : 48 ≤ x.toNat ∧ x.toNat ≤ 57 := by simpa [isD] using hxd
            have HDg := hide (rdigit_at x w)
            rw [hxd] at HDg
            unfold u8V at HDg
            clear hx hxd
            obtain ⟨V, hV⟩ : ∃ V, V = valA 0 (ds.take k) := ⟨_, rfl⟩
            rw [← hV] at HT hvb ⊢
            clear hV
            obtain ⟨y, hy⟩ : ∃ y : Nat, x.toNat = 48 + y := ⟨x.toNat - 48, by omega⟩
            have hy9 : y ≤ 9 := by omega
            rw [hy] at hix HDg HT
            clear hxb hy
            go_wp2_with fail
            refine HDg.out.mono ?_
            rintro e w' ⟨rfl, rfl⟩
            go_wp2_with fail
            go_round
            case rel => exact ⟨k + 1, by omega, by go_num, by rw [HT.out]; go_num⟩
            case measure => simp [intOf]; omega
          · obtain rfl : k = n := by omega
            have HT := hide (show ds.take k = ds from by rw [HN.out, List.take_length])
            rw [HT.out] at hvb ⊢
            have HRR := hide (HR.out.trans (show (if okD false ds = true ∧ valA 0 ds ≤ 2147483647 then some (((valA 0 ds : Nat) : Int)) else none) = if valA 0 ds ≤ 2147483647 then some (((valA 0 ds : Nat) : Int)) else none from by
              by_cases hq : valA 0 ds ≤ 2147483647
              · rw [if_pos ⟨HV.out, hq⟩, if_pos hq]
              · rw [if_neg (fun h => hq h.2), if_neg hq]))
            obtain ⟨V, hV⟩ : ∃ V, V = valA 0 ds := ⟨_, rfl⟩
            rw [← hV] at HRR hvb ⊢
            clear hV
            by_cases hq : V ≤ 2147483647
            · have q1 : (-2147483648 : Int) ≤ (V : Int) := by omega
              have q2 : (V : Int) ≤ 2147483647 := by omega
              have HQ := hide (show L = L ∧ numF L = some (V : Int) from ⟨rfl, by rw [HRR.out, if_pos hq]⟩)
              clear hq
              go_wp2_with fail
              go_ret2
              exact ⟨(V : Int), true, by simp, by rw [HQ.out.2]; rfl, rfl⟩
            · have q1 : (-2147483648 : Int) ≤ (V : Int) := by omega
              have q2 : ¬ (V : Int) ≤ 2147483647 := by omega
              have HQ := hide (show L = L ∧ numF L = none from ⟨rfl, by rw [HRR.out, if_neg hq]⟩)
              clear hq
              go_wp2_with fail
              go_ret2
              exact ⟨(V : Int), false, by simp, by rw [HQ.out.2]; rfl, rfl⟩

set_option maxHeartbeats 4000000 in
theorem rnum_minus (d : ByteArray) (hz : d.size ≤ 140737488355328) (c : UInt8) (r : List UInt8) (hs : byt d = c :: r) (hc : c = 45) (hd : r.all isD = true) (w : World) :
    Calls Tryd.prog 26 #[.string d] w fun e w' => NumR (byt d) w w' e := by
  have HL := hide hs
  have hds : 1 ≤ d.size := by rw [← byt_len, hs]; simp
  have hix0 := idx_at0 (s := d) (c := c) (by rw [hs]; rfl)
  unfold u8V at hix0
  have HR := hide (show numF (byt d) = if okD true r = true ∧ valA 0 r ≤ 2147483648 then some (-((valA 0 r : Nat) : Int)) else none from by rw [hs]; subst hc; exact numF_minus r)
  obtain ⟨L, hL⟩ : ∃ L, L = byt d := ⟨_, rfl⟩
  rw [← hL] at HR ⊢
  clear hL
  obtain ⟨D, hD⟩ : ∃ D, D = d.extract 1 d.size := ⟨_, rfl⟩
  have HDe := hide hD.symm
  have HD := hide (show byt D = r from by rw [hD]; rw [sub_from, hs]; rfl)
  obtain ⟨n, hn⟩ : ∃ n, n = (r).length := ⟨_, rfl⟩
  have hDz : (D.size : Int) = n := by rw [← byt_len, HD.out, hn]
  have HN := hide hn
  have hall := hide hd
  have hnz : n ≤ 140737488355328 := by have := byt_len d; rw [hs] at this; simp at this; rw [hn]; omega
  generalize hQ : r = ds at *
  clear hQ hD hd hn
  have hmm : (((c.toNat : Nat) : Int) == 45) = true := by rw [hc]; rfl
  have h1d : (1 : Int) ≤ (d.size : Nat) := by omega
  have hsl : ∀ W, (Instr.slice 9 (.string d) (some (.int .i64 1)) none none).run Tryd.prog W = .ok (.string D) W := fun W => by rw [run_slice_string_from_if W 9 d .i64 1 Tryd.underlying9, if_pos ⟨by omega, h1d⟩]; exact congrArg (fun x => Result.ok (Value.string x) W) HDe.out
  by_cases h0 : n = 0
  · have HV := hide (show (if okD true ds = true ∧ valA 0 ds ≤ 2147483648 then some (-((valA 0 ds : Nat) : Int)) else none) = none from by
      rw [okD_nil (by have := HN.out; omega)]; rfl)
    have hDz0 : (D.size : Int) = 0 := by rw [hDz, h0]; rfl
    clear hDz h0
    go_enter Tryd.func26, Tryd.ntmps26
    go_wp2_with fail
    all_goals go_ret2
    all_goals exact ⟨0, false, rfl, by rw [HR.out, HV.out]; rfl, rfl⟩
  · by_cases h10 : 10 < n
    · have HV := hide (show (if okD true ds = true ∧ valA 0 ds ≤ 2147483648 then some (-((valA 0 ds : Nat) : Int)) else none) = none from by
        rw [okD_big (by have := HN.out; omega)]; rfl)
      have g0 : ¬ (n : Int) < 1 := by omega
      have g1 : (10 : Int) < (n : Nat) := by omega
      go_enter Tryd.func26, Tryd.ntmps26
      go_wp2_with fail
      all_goals go_ret2
      all_goals exact ⟨0, false, rfl, by rw [HR.out, HV.out]; rfl, rfl⟩
    · obtain ⟨e, he⟩ : ∃ e, ds[0]? = some e := ⟨_, List.getElem?_eq_getElem (by have := HN.out; omega)⟩
      have hixD := idx_at0 (s := D) (c := e) (by rw [HD.out]; exact he)
      unfold u8V at hixD
      have g0 : ¬ (n : Int) < 1 := by omega
      have g1 : ¬ (10 : Int) < (n : Nat) := by omega
      have HH := hide (show ds.head? = some e from by rw [List.head?_eq_getElem?]; exact he)
      clear he
      by_cases hh : e = 48
      · have HV := hide (show (if okD true ds = true ∧ valA 0 ds ≤ 2147483648 then some (-((valA 0 ds : Nat) : Int)) else none) = none from by
          rw [okD_zm (by rw [HH.out, hh])]; rfl)
        have hee : (((e.toNat : Nat) : Int) == 48) = true := by rw [hh]; rfl
        
        clear hh
        go_enter Tryd.func26, Tryd.ntmps26
        go_wp2_with fail
        all_goals go_ret2
        all_goals exact ⟨0, false, rfl, by rw [HR.out, HV.out]; rfl, rfl⟩
      · have HV := hide (show okD true ds = true from okD_m (by have := HN.out; omega) (by have := HN.out; omega) (by rw [HH.out]; exact fun h => hh (Option.some.inj h)))
        have hee : (((e.toNat : Nat) : Int) == 48) = false := by
          rw [show (48 : Int) = (((48 : UInt8).toNat : Nat) : Int) from rfl, byte_eq, decide_eq_false hh]
        clear hh
        go_enter Tryd.func26, Tryd.ntmps26
        go_wp2_with fail
        go_loop [6, 7] (fun nv iv => ∃ k : Nat, k ≤ n ∧ iv = .int .i64 k ∧ nv = .int .i64 (valA 0 (ds.take k) : Nat)) (fun _ iv => n - (intOf iv).toNat)
        case atStart => exact ⟨0, Nat.zero_le _, rfl, rfl⟩
        case round =>
          obtain ⟨k, hk, rfl, rfl⟩ := hrel
          have hvb := val_bound hall.out (show ds.length ≤ 10 by have := HN.out; omega) k
          by_cases hlt : k < n
          · obtain ⟨x, hx⟩ : ∃ x, ds[k]? = some x := ⟨_, List.getElem?_eq_getElem (by have := HN.out; omega)⟩
            have hix := idx_at (s := D) (k := k) (c := x) (by rw [HD.out]; exact hx)
            unfold u8V at hix
            have HT := hide (valA_take hx)
            have hxd := all_isD hall.out hx
            have hxb : 48 ≤ x.toNat ∧ x.toNat ≤ 57 := by simpa [isD] using hxd
            have HDg := hide (rdigit_at x w)
            rw [hxd] at HDg
            unfold u8V at HDg
            clear hx hxd
            obtain ⟨V, hV⟩ : ∃ V, V = valA 0 (ds.take k) := ⟨_, rfl⟩
            rw [← hV] at HT hvb ⊢
            clear hV
            obtain ⟨y, hy⟩ : ∃ y : Nat, x.toNat = 48 + y := ⟨x.toNat - 48, by omega⟩
            have hy9 : y ≤ 9 := by omega
            rw [hy] at hix HDg HT
            clear hxb hy
            go_wp2_with fail
            refine HDg.out.mono ?_
            rintro e w' ⟨rfl, rfl⟩
            go_wp2_with fail
            go_round
            case rel => exact ⟨k + 1, by omega, by go_num, by rw [HT.out]; go_num⟩
            case measure => simp [intOf]; omega
          · obtain rfl : k = n := by omega
            have HT := hide (show ds.take k = ds from by rw [HN.out, List.take_length])
            rw [HT.out] at hvb ⊢
            have HRR := hide (HR.out.trans (show (if okD true ds = true ∧ valA 0 ds ≤ 2147483648 then some (-((valA 0 ds : Nat) : Int)) else none) = if valA 0 ds ≤ 2147483648 then some (-((valA 0 ds : Nat) : Int)) else none from by
              by_cases hq : valA 0 ds ≤ 2147483648
              · rw [if_pos ⟨HV.out, hq⟩, if_pos hq]
              · rw [if_neg (fun h => hq h.2), if_neg hq]))
            obtain ⟨V, hV⟩ : ∃ V, V = valA 0 ds := ⟨_, rfl⟩
            rw [← hV] at HRR hvb ⊢
            clear hV
            by_cases hq : V ≤ 2147483648
            · have q1 : (-2147483648 : Int) ≤ -(V : Int) := by omega
              have q2 : -(V : Int) ≤ 2147483647 := by omega
              have HQ := hide (show L = L ∧ numF L = some (-(V : Int)) from ⟨rfl, by rw [HRR.out, if_pos hq]⟩)
              clear hq
              go_wp2_with fail
              go_ret2
              exact ⟨-(V : Int), true, by simp, by rw [HQ.out.2]; rfl, rfl⟩
            · have q1 : ¬ (-2147483648 : Int) ≤ -(V : Int) := by omega
              have HQ := hide (show L = L ∧ numF L = none from ⟨rfl, by rw [HRR.out, if_neg hq]⟩)
              clear hq
              go_wp2_with fail
              go_ret2
              exact ⟨-(V : Int), false, by simp, by rw [HQ.out.2]; rfl, rfl⟩

theorem rnum_at (d : ByteArray) (hz : d.size ≤ 140737488355328) (hd : digB (byt d)) (w : World) : Calls Tryd.prog 26 #[.string d] w fun e w' => NumR (byt d) w w' e := by
  obtain ⟨c, r, h, h1, h2⟩ := hd
  by_cases hc : c = 45
  · exact rnum_minus d hz c r h hc h2 w
  · refine rnum_plain d hz c r h hc ?_ w
    rw [List.all_cons, h2, h1.resolve_right hc]; rfl
end Go.Proofs.YtohmenghlboalaaDoor
