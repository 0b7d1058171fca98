/-
  The iterator over a text's tokens: what it keeps in mind, what a range over it may count on.
-/
import Derived.Test.YtohmenghlboalaaDoorLxD
import Derived.WalkMore
namespace Go.Proofs.YtohmenghlboalaaDoor
open Go.RowKit Go.Shelf
attribute [local go_sem] Oper.semAt_some
set_option linter.unusedVariables false
set_option linter.unusedSimpArgs false
set_option maxRecDepth 100000

theorem tokens_at (s : ByteArray) (w : World) :
    Calls Tryd.prog 20 #[.string s] w fun e w' => e = .returned (.func (.func 28) #[] #[.pointer (some ⟨w.heap.size, 0, none⟩)]) ∧ w' = w.alloc (.cells #[.string s] 9) := by
  go_enter Tryd.func20, Tryd.ntmps20
  go_wp2
  go_ret
  exact ⟨rfl, rfl⟩

/-- where the list lies that a box holds -/
def lbF (b0 : Nat) (W : World) : Option Nat := match W.cell? ⟨b0, 0, none⟩ with
  | some (.slice (some a) _ _) => some a.block
  | _ => none
/-- what a round keeps: all but four boxes, and the list that lies in the first of them -/
structure Kpt (b0 : Nat) (W W' : World) : Prop where
  sz : W.heap.size ≤ W'.heap.size
  lb : ∀ a, lbF b0 W' = some a → lbF b0 W = some a ∨ (W.heap.size ≤ a ∧ a < W'.heap.size)
  kp : ∀ k cs t fr, W.heap[k]? = some (.cells cs t fr) → ¬ (b0 ≤ k ∧ k < b0 + 4) → lbF b0 W ≠ some k → W'.heap[k]? = some (.cells cs t fr)
theorem Kpt.trans {b0 : Nat} {A B C : World} (h1 : Kpt b0 A B) (h2 : Kpt b0 B C) : Kpt b0 A C := by
  have s1 := h1.sz
  have s2 := h2.sz
  refine ⟨Nat.le_trans s1 s2, fun a h => ?_, fun k cs t fr hk hb hl => ?_⟩
  · rcases h2.lb a h with h3 | h3
    · rcases h1.lb a h3 with h4 | h4
      · exact .inl h4
      · exact .inr ⟨h4.1, by omega⟩
    · exact .inr ⟨by omega, h3.2⟩
  · refine h2.kp k cs t fr (h1.kp k cs t fr hk hb hl) hb fun h => ?_
    rcases h1.lb k h with h3 | h3
    · exact hl h3
    · have := (Array.getElem?_eq_some_iff.1 hk).1; omega
theorem Kpt.put {b0 : Nat} {W : World} {l : Nat} {o o' : Obj} (hl : b0 < l) (h : W.heap[l]? = some o) (hc : o.isCells = false) : Kpt b0 W (W.putObj l o') := by
  have hcell : (W.putObj l o').cell? ⟨b0, 0, none⟩ = W.cell? ⟨b0, 0, none⟩ := by
    unfold World.cell?; dsimp only; rw [World.putObj_heap_other (show b0 ≠ l by omega)]
  refine ⟨by simp, fun a ha => .inl ?_, fun k cs t fr hk _ _ => ?_⟩
  · unfold lbF at ha ⊢; rw [hcell] at ha; exact ha
  · rw [World.putObj_heap_other (fun e => by subst e; rw [h] at hk; cases hk; cases hc)]; exact hk

/-- a token, and it is not too long to be copied -/
abbrev PT := { x : Tk // x.t.length ≤ 140737488355328 }
def pv (l : List PT) : List Tk := l.map (·.1)
theorem pv_snoc (l : List PT) (x : PT) : pv (l ++ [x]) = pv l ++ [x.1] := by simp [pv]
theorem pv_len (l : List PT) : (pv l).length = l.length := by simp [pv]
def ptEnc (x : PT) : Array Value := #[.agg #[.int .i64 (x.1.k : Nat), .string (str x.1.t), .int .i64 x.1.n, .int .i64 (x.1.ln : Nat), .int .i64 (x.1.cl : Nat)]]
/-- all that the iterator tells: the tokens, and where one is none, that place -/
def ysF (R : List Tk × Option (Nat × Nat)) : List Tk := R.1 ++ match R.2 with
  | none => []
  | some p => [⟨0, [], 0, p.1, p.2⟩]
def Yl (s : ByteArray) : List Tk := ysF (lexL (byt s) 1 1 false)

/-- what the iterator counts on while it goes on -/
structure It (b0 bS bB : Nat) (s : ByteArray) (W : World) : Prop where
  nb : 3 < b0 ∧ b0 + 4 ≤ W.heap.size ∧ b0 + 4 ≤ bS ∧ b0 + 4 ≤ bB
  cs : W.heap[bS]? = some (.cells #[.string s] 9 (0, 0))
  cb : W.heap[bB]? = some (.cells #[.string ⟨#[32, 9, 13]⟩] 9 (0, 0))
  env : Env W
  lb : ∀ a, lbF b0 W = some a → b0 ≤ a ∧ a < W.heap.size ∧ a ≠ bS ∧ a ≠ bB
theorem lbF_same {b0 : Nat} {W W' : World} (h : W'.heap[b0]? = W.heap[b0]?) : lbF b0 W' = lbF b0 W := by
  unfold lbF World.cell?; dsimp only; rw [h]
theorem It.new {b0 bS bB : Nat} {s : ByteArray} {W W' : World} (h : It b0 bS bB s W) (hb : Below W.heap.size W W') : It b0 bS bB s W' := by
  obtain ⟨h1, h2, h3, h4⟩ := h.nb
  have hs := hb.size
  refine ⟨⟨h1, by omega, h3, h4⟩, (hb.block _ (Array.getElem?_eq_some_iff.1 h.cs).1).trans h.cs, (hb.block _ (Array.getElem?_eq_some_iff.1 h.cb).1).trans h.cb, h.env.below hb (Nat.le_refl _), fun a ha => ?_⟩
  rw [lbF_same (hb.block _ (by omega))] at ha
  have := h.lb a ha
  exact ⟨this.1, by omega, this.2.2⟩
theorem It.kept {b0 bS bB : Nat} {s : ByteArray} {W W' : World} (h : It b0 bS bB s W) (hk : Kpt b0 W W') : It b0 bS bB s W' := by
  obtain ⟨h1, h2, h3, h4⟩ := h.nb
  have hs := hk.sz
  have l1 := (Array.getElem?_eq_some_iff.1 h.cs).1
  have l2 := (Array.getElem?_eq_some_iff.1 h.cb).1
  refine ⟨⟨h1, by omega, h3, h4⟩, hk.kp _ _ _ _ h.cs (by omega) (fun e => (h.lb _ e).2.2.1 rfl), hk.kp _ _ _ _ h.cb (by omega) (fun e => (h.lb _ e).2.2.2 rfl),
    h.env.on fun k cs t fr hk1 hk2 hc => hk.kp _ _ _ _ hc (by omega) (fun e => by have := (h.lb _ e).1; omega), fun a ha => ?_⟩
  rcases hk.lb a ha with h5 | ⟨h5, h6⟩
  · have := h.lb a h5; exact ⟨this.1, by omega, this.2.2⟩
  · exact ⟨by omega, h6, by omega, by omega⟩
/-- a block that was made since is no list -/
theorem It.fresh {b0 bS bB : Nat} {s : ByteArray} {W W1 : World} (h : It b0 bS bB s W) (hb : Below W.heap.size W W1) : lbF b0 W1 ≠ some W.heap.size := fun e => by
  rw [lbF_same (hb.block _ (by have := h.nb; omega))] at e
  have := (h.lb _ e).2.1
  omega
theorem abides_new {β : Type} {B : Nat} {J : β → World → Prop} (hJ : AbidesFrom B J) {x : β} {W W' : World} (h : J x W) (hb : Below W.heap.size W W') : J x W' :=
  hJ x W W' none h ⟨hb.os, hb.tape, hb.output, hb.size, fun k hk _ => hb.block k hk⟩ (fun r e => by cases e)

theorem part_lt {pre : List PT} {x : PT} {R Y : List Tk} (h : pv (pre ++ [x]) ++ R = Y) : pre.length < Y.length := by
  have := congrArg List.length h
  rw [List.length_append, pv_len, List.length_append, List.length_singleton] at this
  omega
theorem take_part {pre : List PT} {R Y : List Tk} (h : pv pre ++ R = Y) : ∃ k, k ≤ Y.length ∧ pv pre = Y.take k :=
  ⟨(pv pre).length, by rw [← h, List.length_append]; omega, by rw [← h, List.take_left']; rfl⟩
theorem bar_off {rb : Int} {i k : Nat} (h : rb ≤ (i : Nat)) (hk : i < k) : (rb = (k : Nat) ↔ false = true) := ⟨fun e => by omega, fun e => by cases e⟩

set_option maxHeartbeats 8000000 in
theorem tokens_in (d l b0 bS : Nat) (s : ByteArray) (hz : s.size ≤ 140737488355328) (J Jx : List PT → World → Prop) (W : World) (hJ : AbidesFrom W.heap.size J) (hJx : AbidesFrom W.heap.size Jx)
    (hY : ∀ pre x W1, J pre W1 → pre.length < (Yl s).length → YieldAt Fence.wide (d - 1) Tryd.prog l (ptEnc x) W1 fun e W' =>
      (e = .returned (.bool true) ∧ J (pre ++ [x]) W' ∧ Kpt b0 W1 W') ∨ (e = .returned (.bool false) ∧ Jx (pre ++ [x]) W'))
    (hb0 : 3 < b0 ∧ b0 + 4 ≤ W.heap.size ∧ b0 + 4 ≤ bS) (hlb : lbF b0 W = none) (hS : W.heap[bS]? = some (.cells #[.string s] 9 (0, 0))) (hE : Env W) (h0 : J [] W) :
    CallsIn Fence.wide d Tryd.prog 28 #[.func (.yield l) #[] #[], .pointer (some ⟨bS, 0, none⟩)] W fun e W' => (∃ v, e = .returned v) ∧
      ((∃ xs, pv xs = Yl s ∧ J xs W') ∨ (∃ pre, (∃ k, k ≤ (Yl s).length ∧ pv pre = (Yl s).take k) ∧ Jx pre W')) := by
  refine callsIn_of_wp Tryd.func28 rfl trivial ?_ rfl
  simp only [Tryd.ntmps28, List.size_toArray, List.length_cons, List.length_nil, Nat.reduceAdd, Nat.reduceSub, Array.replicate_succ, Array.replicate_zero, List.push_toArray, List.append_toArray, List.nil_append, List.cons_append]
  have HY := hide hY
  have HI := hide (show It b0 bS W.heap.size s (W.alloc (.cells #[.string ⟨#[32, 9, 13]⟩] 9)) from by
    have hl := (Array.getElem?_eq_some_iff.1 hS).1
    have hb := bal W (.cells #[.string ⟨#[32, 9, 13]⟩] 9)
    refine ⟨⟨hb0.1, by simp; omega, hb0.2.2, hb0.2.1⟩, (hb.block _ hl).trans hS, heap_alloc_new W _, hE.below hb (Nat.le_refl _), fun a ha => ?_⟩
    rw [lbF_same (hb.block _ (by omega)), hlb] at ha; cases ha)
  have H0 := hide (abides_new hJ h0 (bal W (.cells #[.string ⟨#[32, 9, 13]⟩] 9)))
  have HJ := hide hJ
  have HJx := hide hJx
  clear hJ hJx hY h0 hS hE hlb
  refine wpIn_wide.2 (wp_scope_straight ((wpIn_wide (n := d)).1 ?_))
  gi_wp2
  refine ⟨trivial, (fun h => by cases h), (callsIn_wide.2 (among_at _ _)).mono ?_⟩
  rintro e w' ⟨rfl, rfl⟩
  gi_wp2
  apply wpIn_label
  gi_wp2
  have HB := hide (byt_len s)
  obtain ⟨n, hnn⟩ : ∃ n, n = s.size := ⟨_, rfl⟩
  have HN := hide hnn
  rw [← hnn] at hz HB
  clear hnn
  generalize hbB : W.heap.size = bB at *
  have HBB := hide hbB
  clear hbB
  generalize W.alloc (.cells #[.string ⟨#[32, 9, 13]⟩] 9) = W0 at *
  gi_loopw [4, 5, 6, 7, 8, 9] (fun lv bv rv av _ _ wr => ∃ (at' ln bg : Nat) (rb : Int) (bh : Bool) (pre : List PT), at' ≤ n ∧ ln ≤ at' + 1 ∧ bg ≤ at' ∧ lv = .int .i64 ln ∧ bv = .int .i64 bg ∧ rv = .int .i64 rb ∧ av = .int .i64 at' ∧
      -1 ≤ rb ∧ rb ≤ at' ∧ (rb = at' ↔ bh = true) ∧ pv pre ++ ysF (lexL ((byt s).drop at') ln (at' - bg + 1) bh) = Yl s ∧ It b0 bS bB s wr ∧ J pre wr) (fun _ _ _ av _ _ _ => n - (intOf av).toNat)
  case atStart => exact ⟨0, 1, 0, -1, false, [], Nat.zero_le _, Nat.le_refl _, Nat.le_refl _, rfl, rfl, rfl, rfl, by omega, by omega, by simp, rfl, HI.out, H0.out⟩
  case round =>
    obtain ⟨at', ln, bg, rb, bh, pre, hat, hln, hbg, rfl, rfl, rfl, rfl, hr1, hr2, hr3, hP, hI, hJ⟩ := hrel
    have HP := hide hP
    have HI := hide hI
    have HJ1 := hide hJ
    have HR3 := hide hr3
    have cs : wr.cell? ⟨bS, 0, none⟩ = some (.string s) := by rw [cell_of_row _ _ _ _ _ _ hI.cs]; rfl
    clear hP hI hJ hr3
    by_cases hlt : at' < n
    · have hsz : (s.size : Int) = n := by rw [HN.out]
      obtain ⟨c, hc⟩ : ∃ c, (byt s)[at']? = some c := ⟨_, List.getElem?_eq_getElem (by rw [HB.out]; exact hlt)⟩
      have HC := hide hc
      have hix := idx_at hc
      unfold u8V at hix
      clear hc
      have HD := hide (show (byt s).drop at' = c :: (byt s).drop (at' + 1) by
        have h := HC.out
        rw [List.drop_eq_getElem_cons (by rw [HB.out]; exact hlt)]
        rw [List.getElem?_eq_getElem (by rw [HB.out]; exact hlt)] at h
        rw [Option.some.inj h])
      have HBk := hide (blank_at c bB wr (by rw [cell_of_row _ _ _ _ _ _ HI.out.cb]; rfl))
      unfold u8V at HBk
      by_cases h10 : c = 10
      · have HP1 := hide (show pv pre ++ ysF (lexL ((byt s).drop (at' + 1)) (ln + 1) (at' + 1 - (at' + 1) + 1) false) = Yl s from by
          have h := HP.out
          rw [HD.out, lexL_nl h10] at h
          rw [Nat.sub_self]; exact h)
        have hc10 : (((c.toNat : Nat) : Int) == 10) = true := by rw [h10]; rfl
        clear h10 hix HBk
        have hix := idx_at HC.out
        unfold u8V at hix
        gi_wp2
        exact ⟨⟨at' + 1, ln + 1, at' + 1, rb, false, pre, hlt, by omega, Nat.le_refl _, by go_num, by go_num, rfl, by go_num, hr1, by omega, bar_off hr2 (Nat.lt_succ_self _), HP1.out, HI.out, HJ1.out⟩, by simp [intOf]; omega⟩
      · have hc10 : (((c.toNat : Nat) : Int) == 10) = false := by
          rw [show (((c.toNat : Nat) : Int) == 10) = decide (c.toNat = 10) from nat_beq _ 10, decide_eq_false]
          exact fun e => h10 (UInt8.toNat_inj.1 (by rw [e]; rfl))
        cases hb : isB c with
        | true =>
          have HP1 := hide (show pv pre ++ ysF (lexL ((byt s).drop (at' + 1)) ln (at' + 1 - bg + 1) false) = Yl s from by
            have h := HP.out
            rw [HD.out, lexL_bl hb] at h
            rw [show at' + 1 - bg + 1 = at' - bg + 1 + 1 by omega]; exact h)
          rw [hb] at HBk
          clear h10 hb
          gi_wp2
          refine ⟨trivial, (fun h => by cases h), (callsIn_wide.2 HBk.out).mono ?_⟩
          rintro e w' ⟨rfl, rfl⟩
          gi_wp2
          exact ⟨⟨at' + 1, ln, bg, rb, false, pre, hlt, by omega, by omega, by go_num, by go_num, rfl, by go_num, hr1, by omega, bar_off hr2 (Nat.lt_succ_self _), HP1.out, HI.out, HJ1.out⟩, by simp [intOf]; omega⟩
        | false =>
          rw [hb] at HBk
          by_cases h35 : c = 35
          · have hc35 : (((c.toNat : Nat) : Int) == 35) = true := by rw [h35]; rfl
            have HP1 := hide (show pv pre ++ ysF (lexL (((byt s).drop (at' + 1)).drop (tkw nnl ((byt s).drop (at' + 1)))) ln (at' - bg + 1 + 1 + tkw nnl ((byt s).drop (at' + 1))) false) = Yl s from by
              have h := HP.out
              rw [HD.out, lexL_rem h35] at h
              exact h)
            have HT1 := hide (show tkw nnl ((byt s).drop at') = tkw nnl ((byt s).drop (at' + 1)) + 1 from by rw [HD.out, tkw_pos _ (by rw [h35]; decide)])
            have HN10 := hide h10
            clear h10 hb h35
            gi_wp2
            refine ⟨trivial, (fun h => by cases h), (callsIn_wide.2 HBk.out).mono ?_⟩
            rintro e w' ⟨rfl, rfl⟩
            gi_wp2
            clear hix
            gi_loop [7] (fun av => ∃ k : Nat, at' ≤ k ∧ k ≤ n ∧ av = .int .i64 k ∧ tkw nnl ((byt s).drop at') = (k - at') + tkw nnl ((byt s).drop k)) (fun av => n - (intOf av).toNat)
            case atStart => exact ⟨at', Nat.le_refl _, hat, rfl, by omega⟩
            case round =>
              obtain ⟨k, hk1, hk2, rfl, hK⟩ := hrel
              have HK := hide hK
              clear hK
              by_cases hkn : k < n
              · obtain ⟨e, he⟩ : ∃ e, (byt s)[k]? = some e := ⟨_, List.getElem?_eq_getElem (by rw [HB.out]; exact hkn)⟩
                have hix := idx_at he
                unfold u8V at hix
                have HST := hide (tkw_step (p := nnl) he)
                have HEE := hide he
                clear he
                by_cases he10 : e = 10
                · have hca : k ≠ at' := fun h => by
                    subst h
                    have := HC.out.symm.trans HEE.out
                    exact HN10.out ((Option.some.inj this).trans he10)
                  have HP2 := hide (show pv pre ++ ysF (lexL ((byt s).drop k) ln (k - bg + 1) false) = Yl s from by
                    have h0 : tkw nnl ((byt s).drop k) = 0 := by rw [HST.out, he10, if_neg (by decide)]
                    have h1 := HK.out
                    have h2 := HT1.out
                    have h3 := HP1.out
                    rw [List.drop_drop, show at' + 1 + tkw nnl ((byt s).drop (at' + 1)) = k by omega, show at' - bg + 1 + 1 + tkw nnl ((byt s).drop (at' + 1)) = k - bg + 1 by omega] at h3
                    exact h3)
                  have hce : (((e.toNat : Nat) : Int) == 10) = true := by rw [he10]; rfl
                  clear he10 HST
                  gi_wp2
                  exact ⟨⟨k, ln, bg, rb, false, pre, hk2, by omega, by omega, rfl, rfl, rfl, rfl, hr1, by omega, bar_off hr2 (by omega), HP2.out, HI.out, HJ1.out⟩, by simp [intOf]; omega⟩
                · have hce : (((e.toNat : Nat) : Int) == 10) = false := by
                    rw [show (((e.toNat : Nat) : Int) == 10) = decide (e.toNat = 10) from nat_beq _ 10, decide_eq_false]
                    exact fun h => he10 (UInt8.toNat_inj.1 (by rw [h]; rfl))
                  have HK2 := hide (show tkw nnl ((byt s).drop at') = (k + 1 - at') + tkw nnl ((byt s).drop (k + 1)) from by
                    have h1 := HK.out
                    rw [HST.out, if_pos (by unfold nnl; exact decide_eq_true he10)] at h1
                    omega)
                  clear he10 HST
                  gi_wp2
                  go_round
                  case rel => exact ⟨k + 1, by omega, by omega, by go_num, HK2.out⟩
                  case measure => simp [intOf]; omega
              · obtain rfl : k = n := by omega
                have HP2 := hide (show pv pre = Yl s from by
                  have h0 : tkw nnl ((byt s).drop k) = 0 := by rw [List.drop_of_length_le (by rw [HB.out]; omega), tkw_nil]
                  have h1 := HK.out
                  have h2 := HT1.out
                  have h3 := HP1.out
                  rw [List.drop_drop, show at' + 1 + tkw nnl ((byt s).drop (at' + 1)) = k by omega, List.drop_of_length_le (by rw [HB.out]; omega), lexL_nil] at h3
                  rw [← h3]; simp [ysF])
                gi_wp2
                refine bodyPost_ret (results_none rfl _ _ _) rfl ?_
                exact ⟨⟨_, rfl⟩, .inl ⟨pre, HP2.out, HJ1.out⟩⟩
          · have hc35 : (((c.toNat : Nat) : Int) == 35) = false := by
              rw [show (((c.toNat : Nat) : Int) == 35) = decide (c.toNat = 35) from nat_beq _ 35, decide_eq_false]
              exact fun e => h35 (UInt8.toNat_inj.1 (by rw [e]; rfl))
            obtain ⟨sub, hsub⟩ : ∃ sub, sub = s.extract at' s.size := ⟨_, rfl⟩
            have HSe := hide hsub.symm
            have HSub := hide (show byt sub = c :: (byt s).drop (at' + 1) from by rw [hsub, sub_from, HD.out])
            have HSz := hide (show sub.size = n - at' from by rw [hsub, ByteArray.size_extract, ← HN.out]; omega)
            have HRl := hide (show ((byt s).drop (at' + 1)).length = n - (at' + 1) from by rw [List.length_drop, HB.out])
            have HFs := hide (first_at sub c _ HSub.out (by rw [HSz.out]; omega) wr HI.out.env)
            clear hsub
            rw [HSub.out] at HFs
            cases hx : fstF (c :: (byt s).drop (at' + 1)) with
            | none =>
              replace HFs := hide (show Calls Tryd.prog 22 #[.string sub] wr (fun e w' => e = .returned (.agg #[.int .i64 0, .string ⟨#[]⟩, .int .i64 0, .int .i64 0, .int .i64 0]) ∧ Below wr.heap.size wr w') from by rw [hx] at HFs; exact HFs.out)
              have hcol : ((at' - bg + 1 : Nat) : Int) = (at' : Int) - (bg : Int) + 1 := by omega
              as_aux_lemma =>
                have HQ3 := hide (show pv (pre ++ [⟨⟨0, [], 0, ln, at' - bg + 1⟩, by simp⟩]) = Yl s from by
                  have h := HP.out
                  rw [HD.out, lexL_err hx h35 h10 hb] at h
                  rw [pv_snoc]; exact h)
                have HQ := hide (show pv (pre ++ [⟨⟨0, [], 0, ln, at' - bg + 1⟩, by simp⟩]) ++ [] = Yl s from by rw [List.append_nil]; exact HQ3.out)
                have HPL := hide (part_lt HQ.out)
                clear hx h10 hb h35
                gi_wp2
                refine ⟨trivial, (fun h => by cases h), (callsIn_wide.2 HBk.out).mono ?_⟩
                rintro e w' ⟨rfl, rfl⟩
                gi_wp2
                rw [HSe.out]
                refine ⟨trivial, (fun h => by cases h), (callsIn_wide.2 HFs.out).mono ?_⟩
                rintro e W2 ⟨rfl, hb2⟩
                have hI2 := HI.out.new hb2
                have hJ2 := abides_new HJ.out HJ1.out hb2
                have hbt := bal W2 (.cells #[.int .i64 0, .string ⟨#[]⟩, .int .i64 0, .int .i64 (ln : Nat), .int .i64 ((at' : Int) - (bg : Int) + 1)] 24)
                have hrow := heap_alloc_new W2 (.cells #[.int .i64 0, .string ⟨#[]⟩, .int .i64 0, .int .i64 (ln : Nat), .int .i64 ((at' : Int) - (bg : Int) + 1)] 24)
                have hW2 : b0 + 4 ≤ W2.heap.size := hI2.nb.2.1
                have HRow := hide hrow
                have HI4 := hide (hI2.new hbt)
                have HF4 := hide (hI2.fresh hbt)
                have HYs := HY.out pre ⟨⟨0, [], 0, ln, at' - bg + 1⟩, by simp⟩ _ (abides_new HJ.out hJ2 hbt) HPL.out
                obtain ⟨fn, tmps, assign, body, hy, hR⟩ := HYs
                dsimp only [ptEnc] at hy
                rw [show str [] = ⟨#[]⟩ from rfl, hcol, show (((0 : Nat) : Nat) : Int) = 0 from rfl] at hy
                have HR := hide hR
                clear hR hI2 hJ2 hbt hrow hb2
                gi_wp2
                refine ⟨(fun h => by cases h), HR.out.mono ?_⟩
                rintro e W3 (⟨rfl, hJ3, hk3⟩ | ⟨rfl, hJx3⟩)
                · have hrow3 := hk3.kp _ _ _ _ HRow.out (by omega) HF4.out
                  have HI3 := hide (HI4.out.kept hk3)
                  have HJ3 := hide hJ3
                  have k0 : W3.cell? ⟨W2.heap.size, 0, none⟩ = some (.int .i64 0) := by rw [cell_of_row _ _ _ _ _ _ hrow3]; rfl
                  have k1 : W3.cell? ⟨W2.heap.size, 1, none⟩ = some (.string ⟨#[]⟩) := by rw [cell_of_row _ _ _ _ _ _ hrow3]; rfl
                  clear hy hk3 hJ3 hrow3
                  gi_wp2
                  try rw [Exit.noGoto_ret]
                  refine bodyPost_ret (results_none rfl _ _ _) rfl ?_
                  exact ⟨⟨_, rfl⟩, .inl ⟨_, HQ3.out, HJ3.out⟩⟩
                · have HJ3 := hide hJx3
                  clear hy hJx3
                  gi_wp2
                  try rw [Exit.noGoto_ret]
                  refine bodyPost_ret (results_none rfl _ _ _) rfl ?_
                  exact ⟨⟨_, rfl⟩, .inr ⟨_, take_part HQ.out, HJ3.out⟩⟩
            | some x =>
              obtain ⟨k, m, z⟩ := x
              have hm : m ≤ n - (at' + 1) := by rw [← HRl.out]; exact fst_le hx
              have hkd := fst_kind hx
              dsimp only at hkd
              rw [hx] at HFs
              unfold fstV tokV at HFs
              dsimp only at HFs
              obtain ⟨T, hT⟩ : ∃ T, T = sub.extract 0 (m + 1) := ⟨_, rfl⟩
              rw [← hT] at HFs
              have HT := hide (show T = str (c :: ((byt s).drop (at' + 1)).take m) from by rw [hT]; exact byt_inj (by rw [sub_to, HSub.out, byt_str]; rfl))
              have HTz := hide (show (T.size : Int) = ((m + 1 : Nat) : Int) from by rw [HT.out, str_size, List.length_cons, List.length_take, Nat.min_eq_left (by rw [HRl.out]; exact hm)])
              have hcol : ((at' - bg + 1 : Nat) : Int) = (at' : Int) - (bg : Int) + 1 := by omega
              rcases hkd with rfl | rfl | rfl
              · replace HFs := hide (show Calls Tryd.prog 22 #[.string sub] wr (fun e w' => e = .returned (.agg #[.int .i64 1, .string T, .int .i64 z, .int .i64 0, .int .i64 0]) ∧ Below wr.heap.size wr w') from HFs.out)
                by_cases hbh : bh = true
                · have hrb : rb = (at' : Int) := HR3.out.2 hbh
                  have hrb2 : ((at' : Int) == rb) = true := by rw [hrb]; simp
                  as_aux_lemma =>
                    have HQ3 := hide (show pv (pre ++ [⟨⟨0, [], 0, ln, at' - bg + 1⟩, by simp⟩]) = Yl s from by
                      have h := HP.out
                      rw [HD.out, lexL_bar hx ⟨hbh, rfl⟩] at h
                      rw [pv_snoc]; exact h)
                    have HQ := hide (show pv (pre ++ [⟨⟨0, [], 0, ln, at' - bg + 1⟩, by simp⟩]) ++ [] = Yl s from by rw [List.append_nil]; exact HQ3.out)
                    have HPL := hide (part_lt HQ.out)
                    clear hx h10 hb h35
                    gi_wp2
                    refine ⟨trivial, (fun h => by cases h), (callsIn_wide.2 HBk.out).mono ?_⟩
                    rintro e w' ⟨rfl, rfl⟩
                    gi_wp2
                    rw [HSe.out]
                    refine ⟨trivial, (fun h => by cases h), (callsIn_wide.2 HFs.out).mono ?_⟩
                    rintro e W2 ⟨rfl, hb2⟩
                    have hI2 := HI.out.new hb2
                    have hJ2 := abides_new HJ.out HJ1.out hb2
                    have hbt := bal W2 (.cells #[.int .i64 0, .string ⟨#[]⟩, .int .i64 0, .int .i64 (ln : Nat), .int .i64 ((at' : Int) - (bg : Int) + 1)] 24)
                    have hrow := heap_alloc_new W2 (.cells #[.int .i64 0, .string ⟨#[]⟩, .int .i64 0, .int .i64 (ln : Nat), .int .i64 ((at' : Int) - (bg : Int) + 1)] 24)
                    have hW2 : b0 + 4 ≤ W2.heap.size := hI2.nb.2.1
                    have HRow := hide hrow
                    have HI4 := hide (hI2.new hbt)
                    have HF4 := hide (hI2.fresh hbt)
                    have HYs := HY.out pre ⟨⟨0, [], 0, ln, at' - bg + 1⟩, by simp⟩ _ (abides_new HJ.out hJ2 hbt) HPL.out
                    obtain ⟨fn, tmps, assign, body, hy, hR⟩ := HYs
                    dsimp only [ptEnc] at hy
                    rw [show str [] = ⟨#[]⟩ from rfl, hcol, show (((0 : Nat) : Nat) : Int) = 0 from rfl] at hy
                    have HR := hide hR
                    clear hR hI2 hJ2 hbt hrow hb2
                    gi_wp2
                    refine ⟨(fun h => by cases h), HR.out.mono ?_⟩
                    rintro e W3 (⟨rfl, hJ3, hk3⟩ | ⟨rfl, hJx3⟩)
                    · have hrow3 := hk3.kp _ _ _ _ HRow.out (by omega) HF4.out
                      have HI3 := hide (HI4.out.kept hk3)
                      have HJ3 := hide hJ3
                      have k0 : W3.cell? ⟨W2.heap.size, 0, none⟩ = some (.int .i64 0) := by rw [cell_of_row _ _ _ _ _ _ hrow3]; rfl
                      have k1 : W3.cell? ⟨W2.heap.size, 1, none⟩ = some (.string ⟨#[]⟩) := by rw [cell_of_row _ _ _ _ _ _ hrow3]; rfl
                      clear hy hk3 hJ3 hrow3
                      gi_wp2
                      try rw [Exit.noGoto_ret]
                      refine bodyPost_ret (results_none rfl _ _ _) rfl ?_
                      exact ⟨⟨_, rfl⟩, .inl ⟨_, HQ3.out, HJ3.out⟩⟩
                    · have HJ3 := hide hJx3
                      clear hy hJx3
                      gi_wp2
                      try rw [Exit.noGoto_ret]
                      refine bodyPost_ret (results_none rfl _ _ _) rfl ?_
                      exact ⟨⟨_, rfl⟩, .inr ⟨_, take_part HQ.out, HJ3.out⟩⟩
                · have hrb : ¬ rb = (at' : Int) := fun e => hbh (HR3.out.1 e)
                  have hrb2 : ((at' : Int) == rb) = false := beq_eq_false_iff_ne.2 (fun e => hrb e.symm)
                  as_aux_lemma =>
                    have HLe := hide (show (c :: ((byt s).drop (at' + 1)).take m).length ≤ 140737488355328 from by rw [List.length_cons, List.length_take]; omega)
                    have HQ := hide (show pv (pre ++ [⟨⟨1, c :: ((byt s).drop (at' + 1)).take m, z, ln, at' - bg + 1⟩, HLe.out⟩]) ++ ysF (lexL (((byt s).drop (at' + 1)).drop m) ln (at' - bg + 1 + 1 + m) (1 == 2)) = Yl s from by
                      have h := HP.out
                      rw [HD.out, lexL_tok hx (fun h => hbh h.1)] at h
                      rw [pv_snoc, List.append_assoc]; exact h)
                    have HPL := hide (part_lt HQ.out)
                    have HQ2 := hide (show pv (pre ++ [⟨⟨1, c :: ((byt s).drop (at' + 1)).take m, z, ln, at' - bg + 1⟩, HLe.out⟩]) ++ ysF (lexL ((byt s).drop (at' + (m + 1))) ln (at' + (m + 1) - bg + 1) (1 == 2)) = Yl s from by
                      have h := HQ.out
                      rw [List.drop_drop, show at' + 1 + m = at' + (m + 1) by omega, show at' - bg + 1 + 1 + m = at' + (m + 1) - bg + 1 by omega] at h
                      exact h)
                    clear hT hx h10 hb h35
                    gi_wp2
                    refine ⟨trivial, (fun h => by cases h), (callsIn_wide.2 HBk.out).mono ?_⟩
                    rintro e w' ⟨rfl, rfl⟩
                    gi_wp2
                    rw [HSe.out]
                    refine ⟨trivial, (fun h => by cases h), (callsIn_wide.2 HFs.out).mono ?_⟩
                    rintro e W2 ⟨rfl, hb2⟩
                    have hI2 := HI.out.new hb2
                    have hJ2 := abides_new HJ.out HJ1.out hb2
                    have hbt := bal W2 (.cells #[.int .i64 1, .string T, .int .i64 z, .int .i64 (ln : Nat), .int .i64 ((at' : Int) - (bg : Int) + 1)] 24)
                    have hrow := heap_alloc_new W2 (.cells #[.int .i64 1, .string T, .int .i64 z, .int .i64 (ln : Nat), .int .i64 ((at' : Int) - (bg : Int) + 1)] 24)
                    have hW2 : b0 + 4 ≤ W2.heap.size := hI2.nb.2.1
                    have HRow := hide hrow
                    have HI4 := hide (hI2.new hbt)
                    have HF4 := hide (hI2.fresh hbt)
                    have HYs := HY.out pre ⟨⟨1, c :: ((byt s).drop (at' + 1)).take m, z, ln, at' - bg + 1⟩, HLe.out⟩ _ (abides_new HJ.out hJ2 hbt) HPL.out
                    obtain ⟨fn, tmps, assign, body, hy, hR⟩ := HYs
                    dsimp only [ptEnc] at hy
                    rw [← HT.out, hcol, show (((1 : Nat) : Nat) : Int) = 1 from rfl] at hy
                    have HR := hide hR
                    clear hR hI2 hJ2 hbt hrow hb2
                    gi_wp2
                    refine ⟨(fun h => by cases h), HR.out.mono ?_⟩
                    rintro e W3 (⟨rfl, hJ3, hk3⟩ | ⟨rfl, hJx3⟩)
                    · have hrow3 := hk3.kp _ _ _ _ HRow.out (by omega) HF4.out
                      have HI3 := hide (HI4.out.kept hk3)
                      have HJ3 := hide hJ3
                      have k0 : W3.cell? ⟨W2.heap.size, 0, none⟩ = some (.int .i64 1) := by rw [cell_of_row _ _ _ _ _ _ hrow3]; rfl
                      have k1 : W3.cell? ⟨W2.heap.size, 1, none⟩ = some (.string T) := by rw [cell_of_row _ _ _ _ _ _ hrow3]; rfl
                      clear hy hk3 hJ3 hrow3
                      have hTz := HTz.out
                      gi_wp2
                      exact ⟨⟨at' + (m + 1), ln, bg, rb, (1 == 2), _, by omega, by omega, by omega, rfl, rfl, rfl, by go_num, by omega, by omega, bar_off hr2 (by omega), HQ2.out, HI3.out, HJ3.out⟩, by simp [intOf]; omega⟩
                    · have HJ3 := hide hJx3
                      clear hy hJx3
                      gi_wp2
                      try rw [Exit.noGoto_ret]
                      refine bodyPost_ret (results_none rfl _ _ _) rfl ?_
                      exact ⟨⟨_, rfl⟩, .inr ⟨_, take_part HQ.out, HJ3.out⟩⟩
              · replace HFs := hide (show Calls Tryd.prog 22 #[.string sub] wr (fun e w' => e = .returned (.agg #[.int .i64 2, .string T, .int .i64 z, .int .i64 0, .int .i64 0]) ∧ Below wr.heap.size wr w') from HFs.out)
                as_aux_lemma =>
                  have HLe := hide (show (c :: ((byt s).drop (at' + 1)).take m).length ≤ 140737488355328 from by rw [List.length_cons, List.length_take]; omega)
                  have HQ := hide (show pv (pre ++ [⟨⟨2, c :: ((byt s).drop (at' + 1)).take m, z, ln, at' - bg + 1⟩, HLe.out⟩]) ++ ysF (lexL (((byt s).drop (at' + 1)).drop m) ln (at' - bg + 1 + 1 + m) (2 == 2)) = Yl s from by
                    have h := HP.out
                    rw [HD.out, lexL_tok hx (fun h => by have := h.2; simp at this)] at h
                    rw [pv_snoc, List.append_assoc]; exact h)
                  have HPL := hide (part_lt HQ.out)
                  have HQ2 := hide (show pv (pre ++ [⟨⟨2, c :: ((byt s).drop (at' + 1)).take m, z, ln, at' - bg + 1⟩, HLe.out⟩]) ++ ysF (lexL ((byt s).drop (at' + (m + 1))) ln (at' + (m + 1) - bg + 1) (2 == 2)) = Yl s from by
                    have h := HQ.out
                    rw [List.drop_drop, show at' + 1 + m = at' + (m + 1) by omega, show at' - bg + 1 + 1 + m = at' + (m + 1) - bg + 1 by omega] at h
                    exact h)
                  clear hT hx h10 hb h35
                  gi_wp2
                  refine ⟨trivial, (fun h => by cases h), (callsIn_wide.2 HBk.out).mono ?_⟩
                  rintro e w' ⟨rfl, rfl⟩
                  gi_wp2
                  rw [HSe.out]
                  refine ⟨trivial, (fun h => by cases h), (callsIn_wide.2 HFs.out).mono ?_⟩
                  rintro e W2 ⟨rfl, hb2⟩
                  have hI2 := HI.out.new hb2
                  have hJ2 := abides_new HJ.out HJ1.out hb2
                  have hbt := bal W2 (.cells #[.int .i64 2, .string T, .int .i64 z, .int .i64 (ln : Nat), .int .i64 ((at' : Int) - (bg : Int) + 1)] 24)
                  have hrow := heap_alloc_new W2 (.cells #[.int .i64 2, .string T, .int .i64 z, .int .i64 (ln : Nat), .int .i64 ((at' : Int) - (bg : Int) + 1)] 24)
                  have hW2 : b0 + 4 ≤ W2.heap.size := hI2.nb.2.1
                  have HRow := hide hrow
                  have HI4 := hide (hI2.new hbt)
                  have HF4 := hide (hI2.fresh hbt)
                  have HYs := HY.out pre ⟨⟨2, c :: ((byt s).drop (at' + 1)).take m, z, ln, at' - bg + 1⟩, HLe.out⟩ _ (abides_new HJ.out hJ2 hbt) HPL.out
                  obtain ⟨fn, tmps, assign, body, hy, hR⟩ := HYs
                  dsimp only [ptEnc] at hy
                  rw [← HT.out, hcol, show (((2 : Nat) : Nat) : Int) = 2 from rfl] at hy
                  have HR := hide hR
                  clear hR hI2 hJ2 hbt hrow hb2
                  gi_wp2
                  refine ⟨(fun h => by cases h), HR.out.mono ?_⟩
                  rintro e W3 (⟨rfl, hJ3, hk3⟩ | ⟨rfl, hJx3⟩)
                  · have hrow3 := hk3.kp _ _ _ _ HRow.out (by omega) HF4.out
                    have HI3 := hide (HI4.out.kept hk3)
                    have HJ3 := hide hJ3
                    have k0 : W3.cell? ⟨W2.heap.size, 0, none⟩ = some (.int .i64 2) := by rw [cell_of_row _ _ _ _ _ _ hrow3]; rfl
                    have k1 : W3.cell? ⟨W2.heap.size, 1, none⟩ = some (.string T) := by rw [cell_of_row _ _ _ _ _ _ hrow3]; rfl
                    clear hy hk3 hJ3 hrow3
                    have hTz := HTz.out
                    gi_wp2
                    exact ⟨⟨at' + (m + 1), ln, bg, ((at' + (m + 1) : Nat) : Int), (2 == 2), _, by omega, by omega, by omega, rfl, rfl, rfl, by go_num, by omega, by omega, by simp, HQ2.out, HI3.out, HJ3.out⟩, by simp [intOf]; omega⟩
                  · have HJ3 := hide hJx3
                    clear hy hJx3
                    gi_wp2
                    try rw [Exit.noGoto_ret]
                    refine bodyPost_ret (results_none rfl _ _ _) rfl ?_
                    exact ⟨⟨_, rfl⟩, .inr ⟨_, take_part HQ.out, HJ3.out⟩⟩
              · replace HFs := hide (show Calls Tryd.prog 22 #[.string sub] wr (fun e w' => e = .returned (.agg #[.int .i64 3, .string T, .int .i64 z, .int .i64 0, .int .i64 0]) ∧ Below wr.heap.size wr w') from HFs.out)
                as_aux_lemma =>
                  have HLe := hide (show (c :: ((byt s).drop (at' + 1)).take m).length ≤ 140737488355328 from by rw [List.length_cons, List.length_take]; omega)
                  have HQ := hide (show pv (pre ++ [⟨⟨3, c :: ((byt s).drop (at' + 1)).take m, z, ln, at' - bg + 1⟩, HLe.out⟩]) ++ ysF (lexL (((byt s).drop (at' + 1)).drop m) ln (at' - bg + 1 + 1 + m) (3 == 2)) = Yl s from by
                    have h := HP.out
                    rw [HD.out, lexL_tok hx (fun h => by have := h.2; simp at this)] at h
                    rw [pv_snoc, List.append_assoc]; exact h)
                  have HPL := hide (part_lt HQ.out)
                  have HQ2 := hide (show pv (pre ++ [⟨⟨3, c :: ((byt s).drop (at' + 1)).take m, z, ln, at' - bg + 1⟩, HLe.out⟩]) ++ ysF (lexL ((byt s).drop (at' + (m + 1))) ln (at' + (m + 1) - bg + 1) (3 == 2)) = Yl s from by
                    have h := HQ.out
                    rw [List.drop_drop, show at' + 1 + m = at' + (m + 1) by omega, show at' - bg + 1 + 1 + m = at' + (m + 1) - bg + 1 by omega] at h
                    exact h)
                  clear hT hx h10 hb h35
                  gi_wp2
                  refine ⟨trivial, (fun h => by cases h), (callsIn_wide.2 HBk.out).mono ?_⟩
                  rintro e w' ⟨rfl, rfl⟩
                  gi_wp2
                  rw [HSe.out]
                  refine ⟨trivial, (fun h => by cases h), (callsIn_wide.2 HFs.out).mono ?_⟩
                  rintro e W2 ⟨rfl, hb2⟩
                  have hI2 := HI.out.new hb2
                  have hJ2 := abides_new HJ.out HJ1.out hb2
                  have hbt := bal W2 (.cells #[.int .i64 3, .string T, .int .i64 z, .int .i64 (ln : Nat), .int .i64 ((at' : Int) - (bg : Int) + 1)] 24)
                  have hrow := heap_alloc_new W2 (.cells #[.int .i64 3, .string T, .int .i64 z, .int .i64 (ln : Nat), .int .i64 ((at' : Int) - (bg : Int) + 1)] 24)
                  have hW2 : b0 + 4 ≤ W2.heap.size := hI2.nb.2.1
                  have HRow := hide hrow
                  have HI4 := hide (hI2.new hbt)
                  have HF4 := hide (hI2.fresh hbt)
                  have HYs := HY.out pre ⟨⟨3, c :: ((byt s).drop (at' + 1)).take m, z, ln, at' - bg + 1⟩, HLe.out⟩ _ (abides_new HJ.out hJ2 hbt) HPL.out
                  obtain ⟨fn, tmps, assign, body, hy, hR⟩ := HYs
                  dsimp only [ptEnc] at hy
                  rw [← HT.out, hcol, show (((3 : Nat) : Nat) : Int) = 3 from rfl] at hy
                  have HR := hide hR
                  clear hR hI2 hJ2 hbt hrow hb2
                  gi_wp2
                  refine ⟨(fun h => by cases h), HR.out.mono ?_⟩
                  rintro e W3 (⟨rfl, hJ3, hk3⟩ | ⟨rfl, hJx3⟩)
                  · have hrow3 := hk3.kp _ _ _ _ HRow.out (by omega) HF4.out
                    have HI3 := hide (HI4.out.kept hk3)
                    have HJ3 := hide hJ3
                    have k0 : W3.cell? ⟨W2.heap.size, 0, none⟩ = some (.int .i64 3) := by rw [cell_of_row _ _ _ _ _ _ hrow3]; rfl
                    have k1 : W3.cell? ⟨W2.heap.size, 1, none⟩ = some (.string T) := by rw [cell_of_row _ _ _ _ _ _ hrow3]; rfl
                    clear hy hk3 hJ3 hrow3
                    have hTz := HTz.out
                    gi_wp2
                    exact ⟨⟨at' + (m + 1), ln, bg, rb, (3 == 2), _, by omega, by omega, by omega, rfl, rfl, rfl, by go_num, by omega, by omega, bar_off hr2 (by omega), HQ2.out, HI3.out, HJ3.out⟩, by simp [intOf]; omega⟩
                  · have HJ3 := hide hJx3
                    clear hy hJx3
                    gi_wp2
                    try rw [Exit.noGoto_ret]
                    refine bodyPost_ret (results_none rfl _ _ _) rfl ?_
                    exact ⟨⟨_, rfl⟩, .inr ⟨_, take_part HQ.out, HJ3.out⟩⟩
    · obtain rfl : at' = n := by omega
      have HP2 := hide (show pv pre = Yl s from by
        have h := HP.out
        rw [List.drop_of_length_le (by rw [HB.out]; omega), lexL_nil] at h
        rw [← h]; simp [ysF])
      have hsz : (s.size : Int) = at' := by rw [HN.out]
      gi_wp2
      try rw [Exit.noGoto_normal]
      go_end0
      exact ⟨⟨_, rfl⟩, .inl ⟨pre, HP2.out, HJ1.out⟩⟩
end Go.Proofs.YtohmenghlboalaaDoor
