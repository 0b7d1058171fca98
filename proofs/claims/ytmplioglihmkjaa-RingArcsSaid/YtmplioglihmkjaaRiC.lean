/-
  The document's own: where something fits.
-/
import Derived.Test.YtmplioglihmkjaaRiB
namespace Go.Proofs.Ytmplioglihmkjaa
open Go.RowKit Go.Shelf
attribute [local go_sem] Oper.semAt_some
set_option linter.unusedVariables false
set_option linter.unusedSimpArgs false
set_option maxRecDepth 100000

def rfitV (l : List Ai) (s n : Int) : Value :=
  if 1 ≤ s ∧ s ≤ n then (if fitP (tkI n l) n.toNat s.toNat = n.toNat then .int .i64 (-1) else .int .i64 (fitP (tkI n l) n.toNat s.toNat : Nat)) else .int .i64 (-1)
theorem freeAt_succ (t : Nat → Bool) (n f k : Nat) : freeAt t n f (k + 1) = (freeAt t n f k && !t ((f + k) % n)) := by
  unfold freeAt; rw [List.range_succ, List.all_append]; simp

set_option maxHeartbeats 4000000 in
theorem rfit_bad (l : List Ai) (A : Option Addr) (c : Nat) (s n : Int) (w : World) (hb : ¬ (1 ≤ s ∧ s ≤ n)) :
    Calls Try.prog 23 #[.slice A l.length c, .int .i64 s, .int .i64 n] w fun e w' => e = .returned (rfitV l s n) ∧ Below w.heap.size w w' := by
  have HV := hide (show rfitV l s n = .int .i64 (-1) from if_neg hb)
  obtain ⟨N, hN⟩ : ∃ N, N = l.length := ⟨_, rfl⟩
  rw [← hN]
  clear hN
  by_cases h1 : s < 1
  · clear hb
    go_enter Try.func23, Try.ntmps23
    go_wp2_with fail
    go_ret
    exact ⟨by rw [HV.out]; rfl, Below.refl _ _⟩
  · have h2 : n < s := by omega
    clear hb
    go_enter Try.func23, Try.ntmps23
    go_wp2_with fail
    go_ret
    exact ⟨by rw [HV.out]; rfl, Below.refl _ _⟩

set_option maxHeartbeats 4000000 in
theorem rfit_good (l : List Ai) (A : Option Addr) (c s n : Nat) (w : World) (hI : Arcs w A l) (hok : ∀ a ∈ l, okB n a = true) (hs : 1 ≤ s) (hsn : s ≤ n) (hn2 : n ≤ 1000) (hlen : l.length ≤ 1000) :
    Calls Try.prog 23 #[.slice A l.length c, .int .i64 (s : Nat), .int .i64 (n : Nat)] w fun e w' => e = .returned (rfitV l s n) ∧ Below w.heap.size w w' := by
  have hn : 0 < n := by omega
  have HTk := hide (rtaken_at l A c n w hI hok hn hn2 hlen)
  have HT := hide (cntA_tk n (l.map tA))
  have HCl := hide (fun p => Nat.le_trans (cntA_le n (l.map tA) p) (show (l.map tA).length ≤ 1000 by simpa using hlen))
  have hV : rfitV l s n = if fitP (tk n (l.map tA)) n s = n then .int .i64 (-1) else .int .i64 (fitP (tk n (l.map tA)) n s : Nat) := if_pos ⟨by omega, by omega⟩
  have hsp := fit_spec (t := tk n (l.map tA)) hn hs hsn
  generalize cntA n (l.map tA) = cA at *
  generalize tk n (l.map tA) = t at *
  have HNone := hide (show (∀ f, f < n → freeAt t n f s = false) → rfitV l s n = .int .i64 (-1) from fun h => by
    rw [hV, if_pos]
    rcases hsp.1 with e | ⟨e1, e2⟩
    · exact e
    · rw [h _ e1] at e2; cases e2)
  have HSome := hide (show ∀ f, f < n → (∀ g, g < f → freeAt t n g s = false) → freeAt t n f s = true → rfitV l s n = .int .i64 (f : Nat) from fun f hf h1 h2 => by
    have h3 := hsp.2 f hf h2
    have e : fitP t n s = f := by
      rcases hsp.1 with e | ⟨e1, e2⟩
      · omega
      · rcases Nat.lt_or_ge (fitP t n s) f with h | h
        · rw [h1 _ h] at e2; cases e2
        · omega
    rw [hV, if_neg (by omega), e])
  generalize rfitV l s n = V at *
  have HPl := hide (fun (a : Int) (h : I64 a) W => rplace_at a n h (by omega) (by omega) W)
  obtain ⟨N, hN⟩ : ∃ N, N = l.length := ⟨_, rfl⟩
  rw [← hN] at hlen HTk ⊢
  clear hI hok hN hV hsp
  have hd1 : decide ((s : Int) < 1) = false := decide_eq_false (by omega)
  have hd2 : decide ((n : Int) < (s : Int)) = false := decide_eq_false (by omega)
  go_enter Try.func23, Try.ntmps23
  go_wp2_with fail
  refine HTk.out.mono ?_
  rintro e w1 ⟨g, rfl, hg, hrow, hb⟩
  have HRow := hide hrow
  have HB := hide hb
  have hgl : g < w1.heap.size := (Array.getElem?_eq_some_iff.1 hrow).1
  clear hrow hb HTk
  go_wp2_with fail
  go_loop [8, 9, 10, 11] (fun fv _ _ _ => ∃ f : Nat, f ≤ n ∧ fv = .int .i64 f ∧ ∀ g, g < f → freeAt t n g s = false) (fun fv _ _ _ => n - (intOf fv).toNat)
  case atStart => exact ⟨0, Nat.zero_le _, rfl, fun j hj => absurd hj (Nat.not_lt_zero j)⟩
  case round =>
    obtain ⟨f, hf, rfl, hno⟩ := hrel
    have HNo := hide hno
    clear hno
    by_cases hlt : f < n
    · have HNx := hide (fun (h : freeAt t n f s = false) => show ∀ g, g < f + 1 → freeAt t n g s = false from fun j hj => by
        by_cases e : j = f
        · rw [e]; exact h
        · exact HNo.out j (by omega))
      have HYes := hide (HSome.out f hlt HNo.out)
      go_wp2_with fail
      go_loop [9, 10, 11] (fun av kv _ => ∃ k : Nat, k ≤ s ∧ kv = .int .i64 k ∧ av = .bool (freeAt t n f k)) (fun _ kv _ => s - (intOf kv).toNat)
      case atStart => exact ⟨0, Nat.zero_le _, rfl, rfl⟩
      case round =>
        obtain ⟨k, hk, rfl, rfl⟩ := hrel
        cases ha : freeAt t n f k with
        | false =>
          have HNf := hide (HNx.out (by
            cases hb : freeAt t n f s with
            | false => rfl
            | true =>
              rw [free_iff.2 fun j hj => free_iff.1 hb j (by omega)] at ha
              cases ha))
          clear ha
          go_wp2_with fail
          all_goals exact ⟨⟨f + 1, by omega, by go_num, HNf.out⟩, by simp [intOf]; omega⟩
        | true =>
          by_cases hks : k < s
          · have HP := hide (HPl.out ((f : Int) + (k : Int)) (by unfold I64; omega))
            rw [show ((f : Int) + (k : Int)) % (n : Int) = (((f + k) % n : Nat) : Int) from rfl] at HP
            have hxm := Nat.mod_lt (f + k) hn
            have hTx := HT.out ((f + k) % n)
            have hcx := HCl.out ((f + k) % n)
            have hfs := freeAt_succ t n f k
            rw [ha, ← hTx] at hfs
            generalize (f + k) % n = x at *
            have c2 : w1.cell? ⟨g, x, none⟩ = some (.int .i64 (cA x : Nat)) := by rw [cell_of_row _ _ _ _ _ _ HRow.out, irow_get hxm]
            generalize cA x = q at *
            clear hTx ha
            by_cases hq : q = 0
            · subst hq
              have HFs := hide (show freeAt t n f (k + 1) = true from hfs)
              clear hfs
              go_wp2_with fail
              refine (HP.out _).mono ?_
              rintro e w' ⟨rfl, rfl⟩
              go_wp2_with fail
              go_round
              case rel => exact ⟨k + 1, by omega, by go_num, by rw [HFs.out]⟩
              case measure => simp [intOf]; omega
            · have HFs := hide (show freeAt t n f (k + 1) = false from by rw [hfs, decide_eq_true (by omega)]; rfl)
              have he1 : ((q : Int) == 0) = false := by rw [beq_eq_false_iff_ne]; omega
              clear hfs
              go_wp2_with fail
              refine (HP.out _).mono ?_
              rintro e w' ⟨rfl, rfl⟩
              go_wp2_with fail
              go_round
              case rel => exact ⟨k + 1, by omega, by go_num, by rw [HFs.out]⟩
              case measure => simp [intOf]; omega
          · have hks2 : k = s := by omega
            have HOut := hide (HYes.out (by rw [← hks2]; exact ha))
            clear ha
            go_wp2_with fail
            go_ret
            exact ⟨by rw [HOut.out]; rfl, HB.out⟩
    · have HOut := hide (HNone.out fun j hj => HNo.out j (by omega))
      go_wp2_with fail
      go_ret
      exact ⟨by rw [HOut.out]; rfl, HB.out⟩
theorem rfit_at (l : List Ai) (A : Option Addr) (c : Nat) (s : Int) (n : Nat) (w : World) (hI : Arcs w A l) (hok : ∀ a ∈ l, okB n a = true) (hn2 : n ≤ 1000) (hlen : l.length ≤ 1000) :
    Calls Try.prog 23 #[.slice A l.length c, .int .i64 s, .int .i64 (n : Nat)] w fun e w' => e = .returned (rfitV l s n) ∧ Below w.heap.size w w' := by
  by_cases h : 1 ≤ s ∧ s ≤ (n : Int)
  · obtain ⟨m, rfl⟩ := Int.eq_ofNat_of_zero_le (show 0 ≤ s by omega)
    exact rfit_good l A c m n w hI hok (by omega) (by omega) hn2 hlen
  · exact rfit_bad l A c s n w h
end Go.Proofs.Ytmplioglihmkjaa
