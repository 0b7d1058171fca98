/-
  Send, Take, Arrive and Recv of any box that New made.
-/
import Derived.Test.YtdimllmbalponaaTwo
import Derived.Test.YtdimllmbalponaaFresh
import Derived.Test.YtdimllmbalponaaDest
namespace Go.Proofs.Ytdimllmbalponaa
open Go.RowKit Go.Shelf
attribute [local go_sem] Oper.semAt_some
set_option linter.unusedVariables false

set_option maxRecDepth 100000 in
set_option maxHeartbeats 1000000 in
theorem fresh_none (b cap : Nat) (A : Option Addr) (z' : Int) (w : World) (hh : w.cell? ⟨b, 13, none⟩ = some (.slice A 0 cap)) :
    Calls Try.prog 27 #[.pointer (some ⟨b, 0, none⟩), .int .i64 z'] w fun e w' => e = .returned (.tuple #[.slice none 0 0, .int .i64 42]) ∧ Below w.heap.size w w' := by
  have hz := (zero_of_info info_msg).1
  have hbl : b < w.heap.size := World.block_lt_of_cell? w _ hh
  refine calls_of_wp_marks Try.func27 rfl ?_
  simp only [Try.ntmps27, List.size_toArray, List.length_cons, List.length_nil, Nat.reduceAdd, Nat.reduceSub, Array.replicate_succ, Array.replicate_zero, List.push_toArray, List.append_toArray, List.nil_append, List.cons_append]
  go_wp2_with fail
  have PB0 := hide (show PB w b z' ((w.alloc (.cells #[.pointer (some ⟨b, 0, none⟩)] 25)).alloc (.cells #[.int .i64 z'] 3)) from ⟨(bal w _).alloc (by simp) _, heap_alloc2_old w _ _, heap_alloc2_new w _ _, by simp⟩)
  obtain ⟨w0, hw0⟩ : ∃ w0, ((w.alloc (.cells #[.pointer (some ⟨b, 0, none⟩)] 25)).alloc (.cells #[.int .i64 z'] 3)) = w0 := ⟨_, rfl⟩
  rw [hw0] at PB0 ⊢
  have e0 : w.heap.size + 1 + 1 = w0.heap.size := PB0.out.siz.symm
  rw [e0]
  have z0 : w.heap.size + 2 = w0.heap.size := e0
  clear hw0
  have F1 := hide (show FB w0 (.slice none 0 0) 0 ((w0.alloc (.cells #[.slice none 0 0] 37)).alloc (.cells #[.int .i64 0] 26)) from ⟨(bal w0 _).alloc (by simp) _, heap_alloc2_old w0 _ _, heap_alloc2_new w0 _ _, by simp⟩)
  generalize ((w0.alloc (.cells #[.slice none 0 0] 37)).alloc (.cells #[.int .i64 0] 26)) = w1 at F1 ⊢
  refine (messages_at b w1).mono ?_
  rintro e w2 ⟨rfl, hw2⟩
  have F2 := hide (show FB w0 (.slice none 0 0) 0 w2 from F1.out.later (by rw [hw2]; exact (bal w1 _).mono F1.out.siz))
  have hB : w2.cell? ⟨w1.heap.size, 0, none⟩ = some (.pointer (some ⟨b, 0, none⟩)) := by rw [hw2, cell_of_row _ _ _ _ _ _ (heap_alloc_new w1 _)]; rfl
  have hB1 : w1.heap.size < w2.heap.size := by rw [hw2]; simp
  clear hw2
  go_wp2_with fail
  refine wp_range2 (g := .tmp 8) rfl (enters_of Try.func40 (by kernel_rfl) rfl) ?_
  rintro W0 rec hl hD hb0 hz0 hst hpe _ _ _ _
  have F3 := hide (F2.out.later (hb0.mono F2.out.siz))
  have hsz2 := F2.out.siz
  have hbw : Below w.heap.size w W0 := PB0.out.bel.trans (F3.out.bel.mono (by omega))
  have hB0 := (bcl hb0 (by omega)).trans hB
  have hh0 := (bcl hbw hbl).trans hh
  refine messages1_none 1 _ _ b cap A W0 _ hB0 hh0 fun v => ⟨⟨v, rfl⟩, rec, hl, (by rw [hst]; simp), ?_⟩
  rw [hpe]
  have hlD : w2.heap.size ≠ w2.heap.size + 1 := by omega
  have F4 := hide (F3.out.put (l := w2.heap.size + 1) (by omega) (.loop { rec with state := .exhausted }))
  have HD4 := hide ((World.putObj_heap_other (o := .loop { rec with state := .exhausted }) hlD).trans hD)
  rw [hpe] at F4 HD4
  clear hl hD hb0 F1 F2 F3 hB0 hh0 hh hB
  simp only []
  generalize W0.putObj (w2.heap.size + 1) (.loop { state := .exhausted, pending := none, fn := rec.fn, tmps := rec.tmps, params := rec.params, assign := rec.assign, body := rec.body, defers := rec.defers }) = W4 at F4 HD4 ⊢
  obtain ⟨q40, q41⟩ := F4.out.c4
  obtain ⟨q50, q51⟩ := (F4.out.set4 (.slice none 0 0)).c5
  have F6 := hide ((F4.out.set4 (.slice none 0 0)).set5 42)
  have HD6 := hide ((((heap_setCell_other _ _ _ _ (by show w2.heap.size ≠ w0.heap.size + 1; omega)).trans (heap_setCell_other _ _ _ _ (by show w2.heap.size ≠ w0.heap.size; omega))).trans HD4.out : ((W4.setCell ⟨w0.heap.size, 0, none⟩ (.slice none 0 0)).setCell ⟨w0.heap.size + 1, 0, none⟩ (.int .i64 42)).heap[w2.heap.size]? = _))
  clear F4 HD4
  go_wp2
  generalize ((W4.setCell ⟨w0.heap.size, 0, none⟩ (.slice none 0 0)).setCell ⟨w0.heap.size + 1, 0, none⟩ (.int .i64 42)) = W6 at F6 HD6 ⊢
  have F8 := F6.out.put (l := w2.heap.size) (by omega) (.deferred none)
  have c4 := F8.c4.1; have c5 := F8.c5.1
  refine marks_done HD6.out (v := .tuple #[.slice none 0 0, .int .i64 42]) ?_ ⟨rfl, PB0.out.bel.trans (F8.bel.mono (by omega))⟩
  simp [results, Try.results27, go_sem, asAddr, c4, c5]

set_option maxRecDepth 100000 in
set_option maxHeartbeats 1000000 in
theorem take_q0 {base b : Nat} {P : Prm} {h : Value} {lost : Bool} {w : World} (x : BoxW w base b P h [] lost) (hd : P.d = 1) (hg : P.g = .func (.func 29) #[] #[]) :
    Calls Try.prog 16 #[.pointer (some ⟨b, 0, none⟩)] w fun e w' => e = .returned (.tuple #[.slice none 0 0, .bool false]) ∧ Below w.heap.size w w' := by
  have c0 := x.cell 0 _ rfl
  have c3 : w.cell? ⟨b, 3, none⟩ = some (.int .i64 1) := by rw [← hd]; exact x.cell 3 _ rfl
  have c12 : w.cell? ⟨b, 12, none⟩ = some (.func (.func 29) #[] #[]) := by rw [← hg]; exact x.cell 12 _ rfl
  have hmade := isMade_at b w c0
  have hl := leave_none x 0
  clear c0
  go_enter Try.func16, Try.ntmps16
  go_wp2_with fail
  refine hmade.mono ?_
  rintro e w' ⟨rfl, rfl⟩
  clear hmade
  go_wp2_with fail
  refine hl.mono ?_
  rintro e w2 ⟨rfl, h1⟩
  have H1 := hide h1
  clear h1 hl x
  go_wp2
  go_ret2
  exact ⟨rfl, H1.out⟩

set_option maxRecDepth 100000 in
set_option maxHeartbeats 1000000 in
theorem recv_l0 {base b : Nat} {P : Prm} {h : Value} {lost : Bool} {w : World} (x : BoxW w base b P h [] lost) (hd : P.d = 2) (hg : P.g = .func (.func 27) #[] #[]) (z' : Int) (hz0 : 0 ≤ z') :
    Calls Try.prog 21 #[.pointer (some ⟨b, 0, none⟩), .int .i64 z'] w fun e w' => e = .returned (.tuple #[.slice none 0 0, .int .i64 42]) ∧ Below w.heap.size w w' := by
  obtain ⟨A, cap, rfl⟩ := x.empty
  have c0 := x.cell 0 _ rfl
  have c3 : w.cell? ⟨b, 3, none⟩ = some (.int .i64 2) := by rw [← hd]; exact x.cell 3 _ rfl
  have c12 : w.cell? ⟨b, 12, none⟩ = some (.func (.func 27) #[] #[]) := by rw [← hg]; exact x.cell 12 _ rfl
  have hmade := isMade_at b w c0
  have hl := fresh_none b cap A z' w (x.cell 13 _ rfl)
  have hz1 : ¬ z' < 0 := by omega
  clear c0
  go_enter Try.func21, Try.ntmps21
  go_wp2_with fail
  refine hmade.mono ?_
  rintro e w' ⟨rfl, rfl⟩
  clear hmade
  go_wp2_with fail
  refine hl.mono ?_
  rintro e w2 ⟨rfl, h1⟩
  have H1 := hide h1
  clear h1 hl x
  go_wp2
  go_ret2
  exact ⟨rfl, H1.out⟩

/-- a port that may be -/
structure Okay (P : Prm) : Prop where
  s1 : 1 ≤ P.s
  s2 : P.s ≤ 32
  is : (P.k = 1 ∧ P.d = 1 ∧ P.p = .func (.func 25) #[] #[] ∧ P.g = .func (.func 26) #[] #[]) ∨ (P.k = 1 ∧ P.d = 2 ∧ P.p = .func (.func 25) #[] #[] ∧ P.g = .func (.func 27) #[] #[] ∧ 1 ≤ P.f ∧ P.f ≤ 65535) ∨
    (P.k = 2 ∧ P.d = 1 ∧ P.p = .func (.func 28) #[] #[] ∧ P.g = .func (.func 29) #[] #[] ∧ 1 ≤ P.e ∧ P.e ≤ 8) ∨ (P.k = 2 ∧ P.d = 2 ∧ P.p = .func (.func 30) #[] #[] ∧ P.g = .func (.func 31) #[] #[] ∧ 1 ≤ P.e ∧ P.e ≤ 8)
/-- what a box holds: messages with their slots; whether one was lost -/
abbrev St := List (List Nat × Int) × Bool
def putF (P : Prm) (S : St) (x : List Nat × Int) : Int × St :=
  if P.k = 1 then (0, [x], S.2) else if P.e ≤ S.1.length then (41, S.1, if P.d = 2 then true else S.2) else (0, S.1 ++ [x], S.2)
def getF (P : Prm) (S : St) (z : Int) : (List Nat × Int) × St :=
  if P.k = 2 ∧ P.d = 2 ∧ S.2 = true then (([], 44), S.1, false) else
  match S.1 with
  | [] => (([], 42), S)
  | x :: r => if P.k = 1 ∧ P.d = 2 ∧ P.f ≤ z - x.2 then (([], 43), S) else ((x.1, 0), if P.k = 2 then r else x :: r, S.2)
def sendF (P : Prm) (S : St) (l : List Nat) : Int × St := if P.d ≠ 1 then (40, S) else if (l.length : Int) ≠ P.s then (45, S) else putF P S (l, 0)
def arriveF (P : Prm) (S : St) (l : List Nat) (z : Int) : Int × St := if P.d ≠ 2 then (40, S) else if z < 0 then (2, S) else if (l.length : Int) ≠ P.s then (45, S) else putF P S (l, z)
def takeF (P : Prm) (S : St) : (List Nat × Bool) × St := if P.d ≠ 1 then (([], false), S) else (((getF P S 0).1.1, decide ((getF P S 0).1.2 = 0)), (getF P S 0).2)
def recvF (P : Prm) (S : St) (z : Int) : (List Nat × Int) × St := if P.d ≠ 2 then (([], 40), S) else if z < 0 then (([], 2), S) else getF P S z
def Msg.tell (m : Msg) : List Nat × Int := (m.txt, m.slot)
/-- a box that has such a state -/
structure BoxS (W : World) (base b : Nat) (P : Prm) (h : Value) (ms : List Msg) (S : St) : Prop where
  box : BoxW W base b P h ms S.2
  is : ms.map Msg.tell = S.1
  size : ∀ m ∈ ms, (m.txt.length : Int) = P.s
  slot : ∀ m ∈ ms, 0 ≤ m.slot ∧ m.slot ≤ 9223372036854775807
  few : ms.length ≤ 8
  one : P.k = 1 → ms.length ≤ 1
theorem BoxS.len {W : World} {base b : Nat} {P : Prm} {h : Value} {ms : List Msg} {S : St} (x : BoxS W base b P h ms S) : ms.length = S.1.length := by rw [← x.is]; simp
theorem BoxS.later {W W' : World} {base b : Nat} {P : Prm} {h : Value} {ms : List Msg} {S : St} (x : BoxS W base b P h ms S) (hb : Below W.heap.size W W') : BoxS W' base b P h ms S := { x with box := x.box.later hb }
/-- how a box came to be another one -/
structure Went (W W' : World) (base b : Nat) (P : Prm) (h : Value) (ms : List Msg) (S : St) : Prop where
  is : ∃ h' ms', BoxS W' base b P h' ms' S ∧ KeepH base b h h' W W' ∧ ∀ m ∈ ms', m ∈ ms ∨ W.heap.size ≤ m.blk
theorem Went.stay {W W' : World} {base b : Nat} {P : Prm} {h : Value} {ms : List Msg} {S : St} (x : BoxS W base b P h ms S) (hb : Below W.heap.size W W') : Went W W' base b P h ms S :=
  ⟨h, ms, x.later hb, Keep.same ⟨hb.mono (by have := x.box.lt; have := x.box.lo; omega), fun k hk _ _ => hb.block k hk, hb.size⟩, fun m hm => .inl hm⟩
/-- bytes that were handed back: none, or new ones -/
def Got (W W' : World) (v : Value) (l : List Nat) : Prop := (v = .slice none 0 0 ∧ l = []) ∨ ∃ g c, v = .slice (some ⟨g, 0, none⟩) l.length c ∧ OwnS W' W.heap.size g l.length c l

theorem put_ok {W W' : World} {base b : Nat} {P : Prm} {h h' : Value} {ms : List Msg} {S : St} {m : Msg} {l : List Nat} {z : Int} (x : BoxS W base b P h ms S) (ht : m.txt = l) (hs : m.slot = z) (hn : W.heap.size ≤ m.blk) (hl : (l.length : Int) = P.s) (hz : 0 ≤ z ∧ z ≤ 9223372036854775807) :
    (P.k = 1 → BoxW W' base b P h' [m] S.2 → KeepH base b h h' W W' → Went W W' base b P h ms (putF P S (l, z)).2) ∧
    (P.k = 2 → (ms.length : Int) < P.e → P.e ≤ 8 → BoxW W' base b P h' (ms ++ [m]) S.2 → KeepH base b h h' W W' → Went W W' base b P h ms (putF P S (l, z)).2 ∧ (putF P S (l, z)).1 = 0) := by
  refine ⟨fun hk bx k => ?_, fun hk he he8 bx k => ?_⟩
  · rw [show putF P S (l, z) = (0, [(l, z)], S.2) by simp [putF, hk]]
    exact ⟨h', [m], ⟨bx, by simp [Msg.tell, ht, hs], by simpa [ht] using hl, by simpa [hs] using hz, by simp, fun _ => by simp⟩, k, by simpa using .inr hn⟩
  · have hl2 := x.len
    rw [show putF P S (l, z) = (0, S.1 ++ [(l, z)], S.2) by simp only [putF]; rw [if_neg (by omega), if_neg (by omega)]]
    refine ⟨⟨h', ms ++ [m], ⟨bx, by simp [Msg.tell, ht, hs, ← x.is], ?_, ?_, by simp; omega, fun h => by omega⟩, k, ?_⟩, rfl⟩
    · intro m' hm'
      rcases List.mem_append.1 hm' with h1 | h1
      · exact x.size m' h1
      · rw [List.mem_singleton.1 h1, ht]; exact hl
    · intro m' hm'
      rcases List.mem_append.1 hm' with h1 | h1
      · exact x.slot m' h1
      · rw [List.mem_singleton.1 h1, hs]; exact hz
    · intro m' hm'
      rcases List.mem_append.1 hm' with h1 | h1
      · exact .inl h1
      · rw [List.mem_singleton.1 h1]; exact .inr hn
theorem put_full {W W' : World} {base b : Nat} {P : Prm} {h : Value} {ms : List Msg} {S : St} {y : List Nat × Int} {lost : Bool} (x : BoxS W base b P h ms S) (hk : P.k = 2) (he : P.e ≤ (ms.length : Int)) (bx : BoxW W' base b P h ms lost) (hl : lost = if P.d = 2 then true else S.2) (k : Keep base b h W W') :
    Went W W' base b P h ms (putF P S y).2 ∧ (putF P S y).1 = 41 := by
  have hl2 := x.len
  rw [show putF P S y = (41, S.1, if P.d = 2 then true else S.2) by simp only [putF]; rw [if_neg (by omega), if_pos (by omega)]]
  exact ⟨⟨h, ms, { x with box := hl ▸ bx }, k.same, fun m hm => .inl hm⟩, rfl⟩

section
variable {base b : Nat} {P : Prm} {h : Value} {ms : List Msg} {S : St} {w : World}
theorem some_of_bytes {A : Option Addr} {l : List Nat} (hB : Bytes w A l) (h0 : 0 < l.length) : ∃ ad, A = some ad := by
  obtain ⟨g, off, h1, _⟩ := hB.at (k := 0) h0
  exact ⟨_, h1⟩

set_option maxRecDepth 100000 in
set_option maxHeartbeats 1000000 in
theorem send_any (x : BoxS w base b P h ms S) (ok : Okay P) (l : List Nat) (n : Nat) (A : Option Addr) (cap : Nat) (hn : l.length = n) (hB : Bytes w A l) :
    Calls Try.prog 14 #[.pointer (some ⟨b, 0, none⟩), .slice A n cap] w fun e w' => e = .returned (.int .i64 (sendF P S l).1) ∧ Went w w' base b P h ms (sendF P S l).2 := by
  have c0 := x.box.cell 0 _ rfl
  have c3 : w.cell? ⟨b, 3, none⟩ = some (.int .i64 P.d) := x.box.cell 3 _ rfl
  have c4 : w.cell? ⟨b, 4, none⟩ = some (.int .i64 P.s) := x.box.cell 4 _ rfl
  have hmade := isMade_at b w c0
  have s1 := ok.s1; have s2 := ok.s2
  by_cases hd : P.d = 1
  · by_cases hs : (n : Int) = P.s
    · have hF : sendF P S l = putF P S (l, 0) := by simp only [sendF]; rw [if_neg (by simpa using hd), if_neg (by simpa [hn] using hs)]
      obtain ⟨ad, rfl⟩ := some_of_bytes hB (by omega)
      rw [hF]
      rcases ok.is with ⟨hk, _, hp, _⟩ | ⟨_, h2, _⟩ | ⟨hk, _, hp, _, _, he⟩ | ⟨_, h2, _⟩
      · refine (send_last x.box hd hp l n ad cap hn (by omega) hs hB).mono ?_
        rintro e w' ⟨rfl, h', m, h1, h2, h3, h4, h5⟩
        refine ⟨by simp [putF, hk], ((put_ok x h1 h2 h3 (by rw [hn]; exact hs) (by omega)).1 hk h4 h5)⟩
      · omega
      · have := x.few
        refine (send_queue x.box hd hp l n ad cap hn (by omega) hs hB (by omega) (by omega)).mono ?_
        rintro e w' (⟨h0, rfl, h', m, h1, h2, h3, h4, h5⟩ | ⟨h0, rfl, h4, h5⟩)
        · obtain ⟨q1, q2⟩ := (put_ok x h1 h2 h3 (by rw [hn]; exact hs) (by omega)).2 hk h0 he h4 h5
          exact ⟨by rw [q2], q1⟩
        · obtain ⟨q1, q2⟩ := put_full (y := (l, 0)) x hk h0 h4 (by rw [if_neg (by omega)]) h5
          exact ⟨by rw [q2], q1⟩
      · omega
    · have hF : sendF P S l = (45, S) := by simp only [sendF]; rw [if_neg (by simpa using hd), if_pos (by simpa [hn] using hs)]
      rw [hF]
      rw [hd] at c3
      have HX := hide x
      clear x c0
      go_enter Try.func14, Try.ntmps14
      go_wp2_with fail
      refine hmade.mono ?_
      rintro e w' ⟨rfl, rfl⟩
      clear hmade
      go_wp2
      go_ret
      exact ⟨rfl, Went.stay HX.out (Below.refl _ _)⟩
  · have hF : sendF P S l = (40, S) := by simp only [sendF]; rw [if_pos hd]
    rw [hF]
    have HX := hide x
    clear x c0
    go_enter Try.func14, Try.ntmps14
    go_wp2_with fail
    refine hmade.mono ?_
    rintro e w' ⟨rfl, rfl⟩
    clear hmade
    go_wp2
    go_ret
    exact ⟨rfl, Went.stay HX.out (Below.refl _ _)⟩

set_option maxRecDepth 100000 in
set_option maxHeartbeats 1000000 in
theorem arrive_any (x : BoxS w base b P h ms S) (ok : Okay P) (l : List Nat) (n : Nat) (A : Option Addr) (cap : Nat) (z : Int) (hz : z ≤ 9223372036854775807) (hn : l.length = n) (hB : Bytes w A l) :
    Calls Try.prog 19 #[.pointer (some ⟨b, 0, none⟩), .slice A n cap, .int .i64 z] w fun e w' => e = .returned (.int .i64 (arriveF P S l z).1) ∧ Went w w' base b P h ms (arriveF P S l z).2 := by
  have c0 := x.box.cell 0 _ rfl
  have c3 : w.cell? ⟨b, 3, none⟩ = some (.int .i64 P.d) := x.box.cell 3 _ rfl
  have c4 : w.cell? ⟨b, 4, none⟩ = some (.int .i64 P.s) := x.box.cell 4 _ rfl
  have hmade := isMade_at b w c0
  have s1 := ok.s1; have s2 := ok.s2
  by_cases hd : P.d = 2
  · by_cases hz0 : z < 0
    · have hF : arriveF P S l z = (2, S) := by simp only [arriveF]; rw [if_neg (by simpa using hd), if_pos hz0]
      rw [hF]
      rw [hd] at c3
      have HX := hide x
      clear x c0
      go_enter Try.func19, Try.ntmps19
      go_wp2_with fail
      refine hmade.mono ?_
      rintro e w' ⟨rfl, rfl⟩
      clear hmade
      go_wp2
      go_ret
      exact ⟨rfl, Went.stay HX.out (Below.refl _ _)⟩
    · by_cases hs : (n : Int) = P.s
      · have hF : arriveF P S l z = putF P S (l, z) := by simp only [arriveF]; rw [if_neg (by simpa using hd), if_neg hz0, if_neg (by simpa [hn] using hs)]
        obtain ⟨ad, rfl⟩ := some_of_bytes hB (by omega)
        rw [hF]
        rcases ok.is with ⟨_, h2, _⟩ | ⟨hk, _, hp, _⟩ | ⟨_, h2, _⟩ | ⟨hk, _, hp, _, _, he⟩
        · omega
        · refine (arrive_last x.box hd hp l n ad cap z (by omega) hn (by omega) hs hB).mono ?_
          rintro e w' ⟨rfl, h', m, h1, h2, h3, h4, h5⟩
          refine ⟨by simp [putF, hk], ((put_ok x h1 h2 h3 (by rw [hn]; exact hs) (by omega)).1 hk h4 h5)⟩
        · omega
        · have := x.few
          refine (arrive_queue x.box hd hp l n ad cap z (by omega) hn (by omega) hs hB (by omega) (by omega)).mono ?_
          rintro e w' (⟨h0, rfl, h', m, h1, h2, h3, h4, h5⟩ | ⟨h0, rfl, h4, h5⟩)
          · obtain ⟨q1, q2⟩ := (put_ok x h1 h2 h3 (by rw [hn]; exact hs) (by omega)).2 hk h0 he h4 h5
            exact ⟨by rw [q2], q1⟩
          · obtain ⟨q1, q2⟩ := put_full (y := (l, z)) x hk h0 h4 (by rw [if_pos hd]) h5
            exact ⟨by rw [q2], q1⟩
      · have hF : arriveF P S l z = (45, S) := by simp only [arriveF]; rw [if_neg (by simpa using hd), if_neg hz0, if_pos (by simpa [hn] using hs)]
        rw [hF]
        rw [hd] at c3
        have hz1 : 0 ≤ z := by omega
        have HX := hide x
        clear x c0
        go_enter Try.func19, Try.ntmps19
        go_wp2_with fail
        refine hmade.mono ?_
        rintro e w' ⟨rfl, rfl⟩
        clear hmade
        go_wp2
        go_ret
        exact ⟨rfl, Went.stay HX.out (Below.refl _ _)⟩
  · have hF : arriveF P S l z = (40, S) := by simp only [arriveF]; rw [if_pos hd]
    rw [hF]
    have HX := hide x
    clear x c0
    go_enter Try.func19, Try.ntmps19
    go_wp2_with fail
    refine hmade.mono ?_
    rintro e w' ⟨rfl, rfl⟩
    clear hmade
    go_wp2
    go_ret
    exact ⟨rfl, Went.stay HX.out (Below.refl _ _)⟩

set_option maxRecDepth 100000 in
set_option maxHeartbeats 1000000 in
theorem take_any (x : BoxS w base b P h ms S) (ok : Okay P) :
    Calls Try.prog 16 #[.pointer (some ⟨b, 0, none⟩)] w fun e w' => ∃ v, e = .returned (.tuple #[v, .bool (takeF P S).1.2]) ∧ Got w w' v (takeF P S).1.1 ∧ Went w w' base b P h ms (takeF P S).2 := by
  have c0 := x.box.cell 0 _ rfl
  have c3 : w.cell? ⟨b, 3, none⟩ = some (.int .i64 P.d) := x.box.cell 3 _ rfl
  have hmade := isMade_at b w c0
  have s1 := ok.s1; have s2 := ok.s2
  by_cases hd : P.d = 1
  · have hF : takeF P S = (((getF P S 0).1.1, decide ((getF P S 0).1.2 = 0)), (getF P S 0).2) := by simp only [takeF]; rw [if_neg (by simpa using hd)]
    have hG : getF P S 0 = match S.1 with | [] => (([], 42), S) | x :: r => ((x.1, 0), if P.k = 2 then r else x :: r, S.2) := by
      simp only [getF]
      rw [if_neg (by omega)]
      rcases S.1 with _ | ⟨y, r⟩
      · rfl
      · simp only []; rw [if_neg (by omega)]
    rw [hF, hG]
    have his := x.is
    rcases S with ⟨L, lost⟩
    simp only at his ⊢
    rcases ms with _ | ⟨m, ms⟩
    · simp only [List.map_nil] at his
      subst his
      rcases ok.is with ⟨hk, _, _, hg⟩ | ⟨_, h2, _⟩ | ⟨hk, _, _, hg, _⟩ | ⟨_, h2, _⟩
      · refine (take_last_none x.box hd hg).mono ?_
        rintro e w' ⟨rfl, hb⟩
        exact ⟨_, rfl, .inl ⟨rfl, rfl⟩, Went.stay x hb⟩
      · omega
      · refine (take_q0 x.box hd hg).mono ?_
        rintro e w' ⟨rfl, hb⟩
        exact ⟨_, rfl, .inl ⟨rfl, rfl⟩, Went.stay x hb⟩
      · omega
    · simp only [List.map_cons] at his
      subst his
      have hml := x.size m (List.mem_cons_self ..)
      rcases ok.is with ⟨hk, _, _, hg⟩ | ⟨_, h2, _⟩ | ⟨hk, _, _, hg, _⟩ | ⟨_, h2, _⟩
      · have h1 := x.one hk
        obtain rfl : ms = [] := List.eq_nil_of_length_eq_zero (by simpa using h1)
        refine (take_last x.box hd hg (by omega)).mono ?_
        rintro e w' ⟨g', c', rfl, ho, hb⟩
        refine ⟨_, rfl, .inr ⟨g', c', rfl, ho⟩, ?_⟩
        simp only []
        rw [if_neg (by omega)]
        exact Went.stay x hb
      · omega
      · refine (take_queue x.box hd hg (by omega)).mono ?_
        rintro e w' ⟨g', c', h', rfl, ho, bx, k⟩
        refine ⟨_, rfl, .inr ⟨g', c', rfl, ho⟩, ?_⟩
        simp only []
        rw [if_pos hk]
        exact ⟨h', ms, ⟨bx, rfl, fun m' hm' => x.size m' (List.mem_cons_of_mem _ hm'), fun m' hm' => x.slot m' (List.mem_cons_of_mem _ hm'), by have := x.few; simp at this; omega, fun h => by omega⟩, k, fun m' hm' => .inl (List.mem_cons_of_mem _ hm')⟩
      · omega
  · have hF : takeF P S = (([], false), S) := by simp only [takeF]; rw [if_pos hd]
    rw [hF]
    have HX := hide x
    clear x c0
    go_enter Try.func16, Try.ntmps16
    go_wp2_with fail
    refine hmade.mono ?_
    rintro e w' ⟨rfl, rfl⟩
    clear hmade
    go_wp2
    go_ret2
    exact ⟨_, rfl, .inl ⟨rfl, rfl⟩, Went.stay HX.out (Below.refl _ _)⟩

set_option maxRecDepth 100000 in
set_option maxHeartbeats 1000000 in
theorem recv_any (x : BoxS w base b P h ms S) (ok : Okay P) (z : Int) (hz : z ≤ 9223372036854775807) :
    Calls Try.prog 21 #[.pointer (some ⟨b, 0, none⟩), .int .i64 z] w fun e w' => ∃ v, e = .returned (.tuple #[v, .int .i64 (recvF P S z).1.2]) ∧ Got w w' v (recvF P S z).1.1 ∧ Went w w' base b P h ms (recvF P S z).2 := by
  have c0 := x.box.cell 0 _ rfl
  have c3 : w.cell? ⟨b, 3, none⟩ = some (.int .i64 P.d) := x.box.cell 3 _ rfl
  have hmade := isMade_at b w c0
  have s1 := ok.s1; have s2 := ok.s2
  by_cases hd : P.d = 2
  · by_cases hz0 : z < 0
    · have hF : recvF P S z = (([], 2), S) := by simp only [recvF]; rw [if_neg (by simpa using hd), if_pos hz0]
      rw [hF]
      rw [hd] at c3
      have HX := hide x
      clear x c0
      go_enter Try.func21, Try.ntmps21
      go_wp2_with fail
      refine hmade.mono ?_
      rintro e w' ⟨rfl, rfl⟩
      clear hmade
      go_wp2
      go_ret2
      exact ⟨_, rfl, .inl ⟨rfl, rfl⟩, Went.stay HX.out (Below.refl _ _)⟩
    · have hF : recvF P S z = getF P S z := by simp only [recvF]; rw [if_neg (by simpa using hd), if_neg hz0]
      rw [hF]
      have hz1 : 0 ≤ z := by omega
      have his := x.is
      rcases S with ⟨L, lost⟩
      simp only at his
      rcases ok.is with ⟨_, h2, _⟩ | ⟨hk, _, _, hg, hf1, hf2⟩ | ⟨_, h2, _⟩ | ⟨hk, _, _, hg, _⟩
      · omega
      · rcases ms with _ | ⟨m, ms⟩
        · simp only [List.map_nil] at his
          subst his
          rw [show getF P ([], lost) z = (([], 42), ([], lost)) by simp [getF, hk]]
          refine (recv_l0 x.box hd hg z hz1).mono ?_
          rintro e w' ⟨rfl, hb⟩
          exact ⟨_, rfl, .inl ⟨rfl, rfl⟩, Went.stay x hb⟩
        · have h1 := x.one hk
          obtain rfl : ms = [] := List.eq_nil_of_length_eq_zero (by simpa using h1)
          simp only [List.map_cons, List.map_nil] at his
          subst his
          have hml := x.size m (List.mem_cons_self ..)
          have hsl := x.slot m (List.mem_cons_self ..)
          rw [show getF P ([m.tell], lost) z = if P.f ≤ z - m.slot then (([], 43), ([m.tell], lost)) else ((m.txt, 0), ([m.tell], lost)) by simp [getF, hk, hd, Msg.tell]]
          refine (recv_last x.box hd hg (by omega) z hz1 (by rw [IntKind.wrap_i64]; omega) _ rfl).mono ?_
          rintro e w' ⟨h1 | h1, hb⟩
          · obtain ⟨h1, rfl⟩ := h1
            have h2 : P.f ≤ z - m.slot := of_decide_eq_true h1
            rw [if_pos h2]
            exact ⟨_, rfl, .inl ⟨rfl, rfl⟩, Went.stay x hb⟩
          · obtain ⟨h1, g', c', rfl, ho⟩ := h1
            have h2 : ¬ P.f ≤ z - m.slot := of_decide_eq_false h1
            rw [if_neg h2]
            exact ⟨_, rfl, .inr ⟨g', c', rfl, ho⟩, Went.stay x hb⟩
      · omega
      · rcases lost with _ | _
        · rcases ms with _ | ⟨m, ms⟩
          · simp only [List.map_nil] at his
            subst his
            rw [show getF P ([], false) z = (([], 42), ([], false)) by simp [getF]]
            refine (recv_none x.box hd hg z hz1).mono ?_
            rintro e w' ⟨rfl, hb⟩
            exact ⟨_, rfl, .inl ⟨rfl, rfl⟩, Went.stay x hb⟩
          · simp only [List.map_cons] at his
            subst his
            have hml := x.size m (List.mem_cons_self ..)
            rw [show getF P (m.tell :: ms.map Msg.tell, false) z = ((m.txt, 0), (ms.map Msg.tell, false)) by simp [getF, hk, Msg.tell]]
            refine (recv_queue x.box hd hg (by omega) z hz1).mono ?_
            rintro e w' ⟨g', c', h', rfl, ho, bx, k⟩
            exact ⟨_, rfl, .inr ⟨g', c', rfl, ho⟩, ⟨h', ms, ⟨bx, rfl, fun m' hm' => x.size m' (List.mem_cons_of_mem _ hm'), fun m' hm' => x.slot m' (List.mem_cons_of_mem _ hm'), by have := x.few; simp at this; omega, fun h => by omega⟩, k, fun m' hm' => .inl (List.mem_cons_of_mem _ hm')⟩⟩
        · rw [show getF P (L, true) z = (([], 44), (L, false)) by simp [getF, hk, hd]]
          refine (recv_lost x.box hd hg z hz1).mono ?_
          rintro e w' ⟨rfl, bx, k⟩
          exact ⟨_, rfl, .inl ⟨rfl, rfl⟩, ⟨h, ms, ⟨bx, his, x.size, x.slot, x.few, x.one⟩, k.same, fun m hm => .inl hm⟩⟩
  · have hF : recvF P S z = (([], 40), S) := by simp only [recvF]; rw [if_pos hd]
    rw [hF]
    have HX := hide x
    clear x c0
    go_enter Try.func21, Try.ntmps21
    go_wp2_with fail
    refine hmade.mono ?_
    rintro e w' ⟨rfl, rfl⟩
    clear hmade
    go_wp2
    go_ret2
    exact ⟨_, rfl, .inl ⟨rfl, rfl⟩, Went.stay HX.out (Below.refl _ _)⟩
end
end Go.Proofs.Ytdimllmbalponaa
