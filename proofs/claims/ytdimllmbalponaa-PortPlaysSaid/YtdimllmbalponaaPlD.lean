/-
  do.
-/
import Derived.Test.YtdimllmbalponaaPlE
import Derived.Deep.DeepCutAuto
import Derived.Deep.CutBlock
import Derived.Deep.LoopGhost
namespace Go.Proofs.Ytdimllmbalponaa
open Go.RowKit Go.Shelf
set_option linter.unusedVariables false

theorem lost_put {P : Prm} {S : St} {x : List Nat × Int} (ok : Okay P) (h : S.2 = true → P.k = 2) : (putF P S x).2.2 = true → P.k = 2 := by
  intro hp
  by_cases hk : P.k = 1
  · rw [show (putF P S x).2.2 = S.2 by simp [putF, hk]] at hp; exact h hp
  · exact (kinds_of ok).resolve_left hk
theorem lost_get {P : Prm} {S : St} {z : Int} (h : S.2 = true → P.k = 2) : (getF P S z).2.2 = true → P.k = 2 := by
  intro hp
  unfold getF at hp
  split at hp
  · cases hp
  · split at hp
    · exact h hp
    · split at hp
      · exact h hp
      · exact h hp
theorem lost_send {P : Prm} {S : St} {l : List Nat} (ok : Okay P) (h : S.2 = true → P.k = 2) : (sendF P S l).2.2 = true → P.k = 2 := by
  intro hp
  unfold sendF at hp
  split at hp
  · exact h hp
  · split at hp
    · exact h hp
    · exact lost_put ok h hp
theorem lost_arrive {P : Prm} {S : St} {l : List Nat} {z : Int} (ok : Okay P) (h : S.2 = true → P.k = 2) : (arriveF P S l z).2.2 = true → P.k = 2 := by
  intro hp
  unfold arriveF at hp
  split at hp
  · exact h hp
  · split at hp
    · exact h hp
    · split at hp
      · exact h hp
      · exact lost_put ok h hp
theorem lost_take {P : Prm} {S : St} (h : S.2 = true → P.k = 2) : (takeF P S).2.2 = true → P.k = 2 := by
  intro hp
  unfold takeF at hp
  split at hp
  · exact h hp
  · exact lost_get h hp
theorem lost_recv {P : Prm} {S : St} {z : Int} (h : S.2 = true → P.k = 2) : (recvF P S z).2.2 = true → P.k = 2 := by
  intro hp
  unfold recvF at hp
  split at hp
  · exact h hp
  · split at hp
    · exact h hp
    · exact lost_get h hp
theorem got_len {P : Prm} {S : St} {z : Int} (hs : ∀ x ∈ S.1, (x.1.length : Int) = P.s) (h2 : P.s ≤ 32) : (getF P S z).1.1.length ≤ 32 := by
  unfold getF
  split
  · simp
  · split
    · simp
    · rename_i heq
      split
      · simp
      · have := hs _ (by rw [heq]; exact List.mem_cons_self ..)
        simp only []; omega
theorem take_len {P : Prm} {S : St} (hs : ∀ x ∈ S.1, (x.1.length : Int) = P.s) (h2 : P.s ≤ 32) : (takeF P S).1.1.length ≤ 32 := by
  unfold takeF
  split
  · simp
  · exact got_len hs h2
theorem recv_len {P : Prm} {S : St} {z : Int} (hs : ∀ x ∈ S.1, (x.1.length : Int) = P.s) (h2 : P.s ≤ 32) : (recvF P S z).1.1.length ≤ 32 := by
  unfold recvF
  split
  · simp
  · split
    · simp
    · exact got_len hs h2

set_option maxRecDepth 100000 in
set_option maxHeartbeats 2000000 in
theorem do_at {base b rb kb : Nat} {P : Prm} {S : St} {h : Value} {ms : List Msg} {hT hW : Value} {tT tW : List Rw} {w : World} (p : Pl w base b rb kb P S S (fun _ => False) h ms hT hW tT tW) (ok : Okay P) (hlost : S.2 = true → P.k = 2)
    (k z : Int) (A : Option Addr) (n c : Nat) (l : List Nat) (hl : l.length = n) (hn : n ≤ 100) (w0 : World) (h00 : w0.heap.size ≤ base) (hB0 : Bytes w0 A l) (hb0 : Below base w0 w) (hz : z ≤ 9223372036854775807) (hnt : tT.length ≤ 4000) :
    Calls Try.prog 6 #[.pointer (some ⟨b, 0, none⟩), .pointer (some ⟨rb, 0, none⟩), .agg #[.int .i64 k, .slice A n c, .int .i64 z], .pointer (some ⟨kb, 0, none⟩)] w fun e w' =>
      ∃ (b' : Nat) (h' : Value) (ms' : List Msg) (hT' hW' : Value) (tT' tW' : List Rw) (S' : St), e = .returned (.tuple #[.pointer (some ⟨b', 0, none⟩), .bool true]) ∧ Pl w' base b' rb kb P S' S' (fun _ => False) h' ms' hT' hW' tT' tW' ∧ (S'.2 = true → P.k = 2) ∧ tT'.length ≤ tT.length + 1 ∧ Below base w w' := by
  have hB := hB0.of_below hb0 h00
  have HB0 := hide hB0; have B0 := hide hb0
  clear hB0 hb0
  have hbase : base ≤ w.heap.size := by have := p.kept.lo; have := (Array.getElem?_eq_some_iff.1 p.kept.row).1; omega
  have hb1 := bal w (.cells #[.int .i64 k, .slice A n c, .int .i64 z] 39)
  have hr1 := heap_alloc_new w (.cells #[.int .i64 k, .slice A n c, .int .i64 z] 39)
  have hz1 : w.heap.size < (w.alloc (.cells #[.int .i64 k, .slice A n c, .int .i64 z] 39)).heap.size := by simp
  obtain ⟨w1, hw1⟩ : ∃ w1, w.alloc (.cells #[.int .i64 k, .slice A n c, .int .i64 z] 39) = w1 := ⟨_, rfl⟩
  rw [hw1] at hb1 hr1 hz1
  have PP := hide p; have HL := hide hl; have HB := hide hB; have OK := hide ok; have LOST := hide hlost
  have B1 := hide hb1; have R1 := hide hr1
  have d1 : w1.cell? ⟨w.heap.size, 1, none⟩ = some (.slice A n c) := by rw [cell_of_row _ _ _ _ _ _ hr1]; rfl
  clear p hl hB ok hlost hb1 hr1
  go_enter Try.func6, Try.ntmps6
  go_wp2_with fail
  refine (twin_at A n c l w1 HL.out (HB.out.of_below B1.out (Nat.le_refl _)) (by omega)).mono ?_
  rintro e w2 ⟨v, rfl, gg, hb2⟩
  have G2 := hide (show GotB w2 w1.heap.size v l from gg)
  have hz2 := hb2.size
  have B2 := hide (B1.out.trans (hb2.mono (by omega)))
  have r2 := (hb2.block w.heap.size hz1).trans R1.out
  have R2 := hide r2
  clear gg hb2 d1 hw1 r2 R1
  have hll : l.length ≤ 1000 := by have := HL.out; omega
  go_upto_block 0 with (
               at_builtin
               refine wpList_got_append rfl (.tmp 31) (.tmp 32) rfl w1.heap.size v l rfl (G2.out.later (bal w2 (.cells #[.int .u8 7] 5))) w2.heap.size 1 7 rfl (by omega) (by simp) (by rw [cell_of_row _ _ _ _ _ _ (heap_alloc_new w2 _)]; rfl) hll (by simp; omega) ?_
               intro r3 w3 ht3 ha3 hg3
               have B3 := hide ((B2.out.trans ((bal w2 (.cells #[.int .u8 7] 5)).mono (by omega))).trans ((Below.refl _ _).grown hg3 (by simp; omega) (fun k hk => by have := (G2.out.blk hk).2.1; omega)))
               have r3r := (hg3.block w.heap.size (by simp; omega) (fun e => by have := (G2.out.blk e.symm).2.1; omega)).trans (((bal w2 (.cells #[.int .u8 7] 5)).block w.heap.size (by omega)).trans R2.out)
               have HT3 := hide ht3; have HA3 := hide ha3; have R3 := hide r3r
               have hz3 : w2.heap.size < w3.heap.size := by have := hg3.size; simp at this; omega
               have q1 : w3.cell? ⟨w.heap.size, 1, none⟩ = some (.slice A n c) := by rw [cell_of_row _ _ _ _ _ _ r3r]; rfl
               have q0 : w3.cell? ⟨w.heap.size, 0, none⟩ = some (.int .i64 k) := by rw [cell_of_row _ _ _ _ _ _ r3r]; rfl
               have hlt3 : r3.txt.length = n + 1 := by have := HL.out; rw [ht3]; simp; omega
               have hcap3 : n + 1 ≤ r3.cap := by have := OwnS.le ha3; omega
               have hR3 : r3.cell = .slice (some ⟨r3.blk, 0, none⟩) (n + 1) r3.cap := by unfold Rw.cell; rw [hlt3]
               rw [hR3]
               clear ht3 ha3 hg3 r3r hR3)
  go_cut [0, 12] from 13 (fun va vf wc => ∃ (b' : Nat) (h' : Value) (ms' : List Msg) (hT' hW' : Value) (tT' tW' : List Rw) (S' : St), va = .pointer (some ⟨b', 0, none⟩) ∧ vf = .bool true ∧
    Pl wc base b' rb kb P S' S' (fun k => w.heap.size ≤ k ∧ k < w3.heap.size) h' ms' hT' hW' tT' tW' ∧ (S'.2 = true → P.k = 2) ∧ tT'.length ≤ tT.length + 1 ∧ Below base w wc ∧ wc.heap[r3.blk]? = w3.heap[r3.blk]? ∧ wc.heap[w.heap.size]? = w3.heap[w.heap.size]?)
  case first =>
    have P3 := hide ((PP.out.wide (Xs' := fun k => w.heap.size ≤ k ∧ k < w3.heap.size) fun k hk e => by omega).later B3.out)
    have q2 : w3.cell? ⟨w.heap.size, 2, none⟩ = some (.int .i64 z) := by rw [cell_of_row _ _ _ _ _ _ R3.out]; rfl
    have hbw : Bytes w3 A l := HB.out.of_below B3.out (Nat.le_refl _)
    have hbl0 : r3.blk < w3.heap.size := OwnS.blk HA3.out
    have hX3 : ∀ k, (w.heap.size ≤ k ∧ k < w3.heap.size) → k < w3.heap.size := fun k hk => hk.2
    obtain ⟨cur, dr3, _⟩ := OwnS.row HA3.out
    have DR3 := hide dr3
    have s1 := OK.out.s1; have s2 := OK.out.s2
    have hb3s := B3.out.size
    have HSZ := hide P3.out.ref.size
    clear dr3
    by_cases k1 : k = 1
    · as_aux_lemma =>
        subst k1
        have hc := take_sub P3.out.box OK.out
        have hL := take_len HSZ.out s2
        have hlo := lost_take LOST.out
        have hr := fun (W : World) (X : Nat → Prop) (x : RefS W base rb P S X) (hX : ∀ k, X k → k < W.heap.size) => ref_take x hX OK.out
        obtain ⟨⟨⟨m, q⟩, S4⟩, hR⟩ : ∃ R, takeF P S = R := ⟨_, rfl⟩
        rw [hR] at hc hL hlo
        simp only [hR] at hr
        have HL4 := hide hL; have HLO4 := hide hlo; have HR4 := hide hr
        clear hR hL hlo hr
        go_wp2_with fail
        refine hc.mono ?_
        rintro e w4 ⟨v1, rfl, gg, g⟩
        obtain ⟨h4, ms4, p4, k4⟩ := P3.out.wentB g
        have P4 := hide p4
        have hz4 := k4.siz
        have G4 := hide (show GotB w4 w3.heap.size v1 m from gg)
        have DR4 := hide (P3.out.rowS k4 DR3.out (by decide) (by decide))
        have OR4 := hide (P3.out.rowS k4 R3.out (by decide) (by decide))
        have B4 := hide k4.bel
        clear hc gg g p4 k4 q0 q1 q2 hbw
        go_wp2_with fail
        refine (HR4.out _ _ P4.out.ref (P4.out.bound fun k hk => by rcases hk with hk | hk <;> omega)).mono ?_
        rintro e w5 ⟨v2, rfl, gg2, y5, k5⟩
        have P5 := hide (P4.out.refd y5 k5)
        have hz5 := k5.siz
        have G5 := hide (P4.out.gotR k5 G4.out)
        have G6 := hide (show GotB w5 w4.heap.size v2 m from gg2)
        have DR5 := hide (P4.out.rowR k5 DR4.out (by decide))
        have OR5 := hide (P4.out.rowR k5 OR4.out (by decide))
        have B5 := hide (B4.out.trans k5.bel)
        obtain ⟨A1, c1, rfl⟩ := G5.out.len
        obtain ⟨A2, c2, rfl⟩ := G6.out.len
        have st1 := G5.out.str0
        have st2 := G6.out.str0
        obtain ⟨nm, hnm⟩ : ∃ nm, m.length = nm := ⟨_, rfl⟩
        have HNM := hide hnm
        simp only [hnm] at st1 st2 ⊢
        clear gg2 y5 k5 hnm
        go_wp2_with fail
        refine (keep_at (zm := w3.heap.size) P5.out.kept A1 nm c1 m (by have h := G5.out; rw [HNM.out] at h; exact h) HNM.out (by omega) (by omega) (fun r hr => ?_) ?_ ?_ ?_ (by have h9 : m.length ≤ 32 := HL4.out; have := HNM.out; omega) (by omega)).mono ?_
        · rcases List.mem_append.1 hr with h | h
          · exact OwnS.blk (P3.out.kept.told.each r h)
          · exact OwnS.blk (P3.out.kept.was.each r h)
        · exact (Array.getElem?_eq_some_iff.1 P3.out.kept.row).1
        · exact fun k hk => (P3.out.kept.told.blk hk).1
        · exact fun k hk => (P3.out.kept.was.blk hk).1
        rintro e w6 ⟨rfl, hT', hW', ra, rr, y6, ha, hb, h1, h2, ch6⟩
        have hG5 : GotB w5 w3.heap.size (.slice A1 nm c1) m := by have h := G5.out; rw [HNM.out] at h; exact h
        have hG4 : ∀ k, (Value.slice A1 nm c1).ownBlock = some k → w3.heap.size ≤ k ∧ k < w4.heap.size := fun k hk => by
          have hk' : (Value.slice A1 m.length c1).ownBlock = some k := by rw [HNM.out]; exact hk
          exact ⟨(G4.out.blk hk').2.1, (G4.out.blk hk').1⟩
        have P6 := hide (P5.out.keep (Xs := fun k => w.heap.size ≤ k ∧ k < w3.heap.size) y6 ch6 hG5 (fun k hk => .inr (hG4 k hk)) (fun k hk => ⟨.inl hk, hk.2⟩) ha hb h1 h2)
        have DR6 := hide (P5.out.rowK ch6 DR5.out (by decide) (by decide) (fun e => by have := hG4 _ e; omega))
        have OR6 := hide (P5.out.rowK ch6 OR5.out (by decide) (by decide) (fun e => by have := hG4 _ e; omega))
        have B6 := hide ((B3.out.mono hbase).trans (B5.out.trans ch6.bel))
        clear y6 ha hb h1 h2 ch6 st1 st2
        go_wp2
        go_meet
        case rel => exact ⟨b, h4, ms4, hT', hW', _, _, S4, rfl, rfl, P6.out, HLO4.out, by simp, B6.out, DR6.out.trans DR3.out.symm, OR6.out.trans R3.out.symm⟩
    by_cases k3 : k = 3
    · as_aux_lemma =>
        subst k3
        have hc := recv_sub P3.out.box OK.out z hz
        have hL := recv_len (z := z) HSZ.out s2
        have hlo := lost_recv (z := z) LOST.out
        have hr := fun (W : World) (X : Nat → Prop) (x : RefS W base rb P S X) (hX : ∀ k, X k → k < W.heap.size) => ref_recv x hX OK.out LOST.out z hz
        obtain ⟨⟨⟨m, q⟩, S4⟩, hR⟩ : ∃ R, recvF P S z = R := ⟨_, rfl⟩
        rw [hR] at hc hL hlo
        simp only [hR] at hr
        have HL4 := hide hL; have HLO4 := hide hlo; have HR4 := hide hr
        clear hR hL hlo hr
        go_wp2_with fail
        refine hc.mono ?_
        rintro e w4 ⟨v1, rfl, gg, g⟩
        obtain ⟨h4, ms4, p4, k4⟩ := P3.out.wentB g
        have P4 := hide p4
        have hz4 := k4.siz
        have G4 := hide (show GotB w4 w3.heap.size v1 m from gg)
        have DR4 := hide (P3.out.rowS k4 DR3.out (by decide) (by decide))
        have OR4 := hide (P3.out.rowS k4 R3.out (by decide) (by decide))
        have B4 := hide k4.bel
        have q24 : w4.cell? ⟨w.heap.size, 2, none⟩ = some (.int .i64 z) := by rw [cell_of_row _ _ _ _ _ _ OR4.out]; rfl
        clear hc gg g p4 k4 q0 q1 q2 hbw
        go_wp2_with fail
        refine (HR4.out _ _ P4.out.ref (P4.out.bound fun k hk => by rcases hk with hk | hk <;> omega)).mono ?_
        rintro e w5 ⟨v2, rfl, gg2, y5, k5⟩
        have P5 := hide (P4.out.refd y5 k5)
        have hz5 := k5.siz
        have G5 := hide (P4.out.gotR k5 G4.out)
        have G6 := hide (show GotB w5 w4.heap.size v2 m from gg2)
        have DR5 := hide (P4.out.rowR k5 DR4.out (by decide))
        have OR5 := hide (P4.out.rowR k5 OR4.out (by decide))
        have B5 := hide (B4.out.trans k5.bel)
        obtain ⟨A1, c1, rfl⟩ := G5.out.len
        obtain ⟨A2, c2, rfl⟩ := G6.out.len
        have st1 := G5.out.str0
        have st2 := G6.out.str0
        obtain ⟨nm, hnm⟩ : ∃ nm, m.length = nm := ⟨_, rfl⟩
        have HNM := hide hnm
        simp only [hnm] at st1 st2 ⊢
        clear gg2 y5 k5 hnm q24
        go_wp2_with fail
        refine (keep_at (zm := w3.heap.size) P5.out.kept A1 nm c1 m (by have h := G5.out; rw [HNM.out] at h; exact h) HNM.out (by omega) (by omega) (fun r hr => ?_) ?_ ?_ ?_ (by have h9 : m.length ≤ 32 := HL4.out; have := HNM.out; omega) (by omega)).mono ?_
        · rcases List.mem_append.1 hr with h | h
          · exact OwnS.blk (P3.out.kept.told.each r h)
          · exact OwnS.blk (P3.out.kept.was.each r h)
        · exact (Array.getElem?_eq_some_iff.1 P3.out.kept.row).1
        · exact fun k hk => (P3.out.kept.told.blk hk).1
        · exact fun k hk => (P3.out.kept.was.blk hk).1
        rintro e w6 ⟨rfl, hT', hW', ra, rr, y6, ha, hb, h1, h2, ch6⟩
        have hG5 : GotB w5 w3.heap.size (.slice A1 nm c1) m := by have h := G5.out; rw [HNM.out] at h; exact h
        have hG4 : ∀ k, (Value.slice A1 nm c1).ownBlock = some k → w3.heap.size ≤ k ∧ k < w4.heap.size := fun k hk => by
          have hk' : (Value.slice A1 m.length c1).ownBlock = some k := by rw [HNM.out]; exact hk
          exact ⟨(G4.out.blk hk').2.1, (G4.out.blk hk').1⟩
        have P6 := hide (P5.out.keep (Xs := fun k => w.heap.size ≤ k ∧ k < w3.heap.size) y6 ch6 hG5 (fun k hk => .inr (hG4 k hk)) (fun k hk => ⟨.inl hk, hk.2⟩) ha hb h1 h2)
        have DR6 := hide (P5.out.rowK ch6 DR5.out (by decide) (by decide) (fun e => by have := hG4 _ e; omega))
        have OR6 := hide (P5.out.rowK ch6 OR5.out (by decide) (by decide) (fun e => by have := hG4 _ e; omega))
        have B6 := hide ((B3.out.mono hbase).trans (B5.out.trans ch6.bel))
        clear y6 ha hb h1 h2 ch6 st1 st2
        go_wp2
        go_meet
        case rel => exact ⟨b, h4, ms4, hT', hW', _, _, S4, rfl, rfl, P6.out, HLO4.out, by simp, B6.out, DR6.out.trans DR3.out.symm, OR6.out.trans R3.out.symm⟩
    by_cases k4 : k = 4
    · as_aux_lemma =>
        subst k4
        have hl := len_at P3.out.box.box
        clear hl
        have HLn := hide (fun m => len_at (P3.out.box.box.later (W' := w3.drewN m) (below_drewN (Below.refl _ _) m)))
        obtain ⟨hr, rs, slot, y, hm, _⟩ := P3.out.ref.is
        obtain ⟨A9, c9, rfl, _, _⟩ := y.rws.len
        have hrl : rs.length = ms.length := by have h1 := congrArg List.length hm; simp only [List.length_map] at h1; rw [h1, P3.out.box.len]
        have q6 : w3.cell? ⟨rb, 6, none⟩ = some (.slice A9 rs.length c9) := y.cell 6 _ rfl
        rw [hrl] at q6
        clear y hm hrl q0 q1 q2 hbw
        go_wp2_with fail
        go_quiet ((go_at_call 8; refine Calls.quiet_of_same ((HLn.out _).mono fun _ _ h => ⟨h.1, h.2.symm⟩)))
        have HB4 := hide (below_drewN (Below.refl w3.heap.size w3) nq)
        go_wp2
        go_meet
        case rel => exact ⟨b, h, ms, hT, hW, tT, tW, S, rfl, by simp, P3.out.later HB4.out, LOST.out, by omega, (B3.out.mono hbase).trans (HB4.out.mono (by omega)), rfl, rfl⟩
    by_cases k0 : k = 0
    · as_aux_lemma =>
        subst k0
        have hlo := lost_send (l := l) OK.out LOST.out
        obtain ⟨⟨r, S2⟩, hR⟩ : ∃ R, sendF P S l = R := ⟨_, rfl⟩
        rw [hR] at hlo
        have HR := hide hR; have HLO := hide hlo
        obtain ⟨Xs, hXs⟩ : ∃ Xs : Nat → Prop, (fun k => w.heap.size ≤ k ∧ k < w3.heap.size) = Xs := ⟨_, rfl⟩
        have hX3 : ∀ k, Xs k → k < w3.heap.size := fun k hk => by rw [← hXs] at hk; exact hk.2
        rw [hXs] at P3
        have HXS := hide hXs
        obtain ⟨X, hX⟩ : ∃ X : Nat → Prop, (fun k => Xs k ∨ hT.ownBlock = some k ∨ hW.ownBlock = some k) = X := ⟨_, rfl⟩
        have HX3 := hide (show ∀ k, X k → k < w3.heap.size from by rw [← hX]; exact P3.out.bound hX3)
        have P3X := P3.out.ref
        have BB3 := hide (B0.out.trans (B3.out.mono hbase))
        have BB3w := hide (B3.out.mono hbase)
        have MINE := hide (show ∀ W : World, W.heap[r3.blk]? = some (.cells cur 5 (0, 0)) → Bytes W (some ⟨r3.blk, 0, none⟩) l from fun W hr => by
          have h1 := OwnS.bytes (OwnS.kept HA3.out (hr.trans DR3.out.symm))
          rw [HT3.out] at h1
          have h2 := h1.take n
          rwa [List.take_append_of_le_length (by rw [HL.out]; omega), List.take_of_length_le (by rw [HL.out]; omega)] at h2)
        clear hR hlo q0 q1 q2 hbw hXs
        go_wp2_with fail
        refine wp_region_factsW (Ch base (fun q => q = b ∨ h.ownBlock = some q ∨ q = rb) w3) (soF base b rb w.heap.size r3.blk A n c r3.cap 0 z P S S2 r Xs X h ms cur) soT soM ?m0 ?mb soF_sup (by kernel_rfl) (by kernel_rfl) ?com ?ini ?steps ?fin
        case m0 =>
          intro j hj
          have hj' : 9 ≤ j := hj
          unfold soM; rw [if_pos hj']
        case mb =>
          intro j i hi hij
          unfold soM at hi
          split at hi
          · cases hi
          · exact absurd (List.mem_singleton.1 hi) hij
        case com => exact Ch.of (below_drewN (Below.refl _ _) 1) (by omega)
        case ini =>
          intro j hj
          have hj' : 9 ≤ j := hj
          match j, hj' with
          | 9, _ => exact P3.out.box.later (below_drewN (Below.refl _ _) 1)
          | 10, _ => exact (by rw [← hX]; exact P3.out.ref.later (below_drewN (Below.refl _ _) 1))
          | 11, _ => exact ⟨DR3.out, R3.out⟩
          | _ + 12, _ => exact trivial
        case steps =>
          refine AllFrom.cons (step_isW (by kernel_rfl) ?s0) (AllFrom.cons (i := 1) (step_isW (by kernel_rfl) ?s1) (AllFrom.cons (i := 2) (step_fnW (by kernel_rfl) 14 #[.tmp 43, .tmp 44] _ rfl (enters_of Try.func14 (by kernel_rfl) rfl) ?s2) (AllFrom.cons (i := 3) (step_isW (by kernel_rfl) ?s3) (AllFrom.cons (i := 4) (step_isW (by kernel_rfl) ?s4) (AllFrom.cons (i := 5) (step_isW (by kernel_rfl) ?s5) (AllFrom.cons (i := 6) (step_fnW (by kernel_rfl) 15 #[.tmp 46, .tmp 48] _ rfl (enters_of Try.func15 (by kernel_rfl) rfl) ?s6) (AllFrom.cons (i := 7) (step_isW (by kernel_rfl) ?s7) (AllFrom.cons (i := 8) (step_isW (by kernel_rfl) ?s8) (trivial)))))))))
          case s0 =>
            intro L vals W ρ hI hi hdep hnew hold hc
            have e0 : ρ (.tmp 0) = .pointer (some ⟨b, 0, none⟩) := (hold 0 (by kernel_rfl)).trans (by kernel_rfl)
            refine ⟨.pointer (some ⟨b, 0, none⟩), ?_, by simp [soF, upd]⟩
            simp [execOp, e0, go_sem]
          case s1 =>
            intro L vals W ρ hI hi hdep hnew hold hc
            have e0 : ρ (.tmp 11) = .slice (some ⟨r3.blk, 0, none⟩) n r3.cap := (hold 11 (by kernel_rfl)).trans (by kernel_rfl)
            refine ⟨.slice (some ⟨r3.blk, 0, none⟩) n r3.cap, ?_, by simp [soF, upd]⟩
            simp [execOp, e0, go_sem]
          case s2 =>
            intro L vals W ρ hI hi hdep hnew hold hc
            have e0 : ρ (.tmp 43) = .pointer (some ⟨b, 0, none⟩) := (hnew 0 43 (dep hdep 0 (by kernel_rfl)) (by kernel_rfl) (of_decide_eq_true (by kernel_rfl)) (of_decide_eq_true (by kernel_rfl))).trans (hI.fact 0 (.inr (dep hdep 0 (by kernel_rfl))) (neverW hI (of_decide_eq_true (by kernel_rfl))))
            have e1 : ρ (.tmp 44) = .slice (some ⟨r3.blk, 0, none⟩) n r3.cap := (hnew 1 44 (dep hdep 1 (by kernel_rfl)) (by kernel_rfl) (of_decide_eq_true (by kernel_rfl)) (of_decide_eq_true (by kernel_rfl))).trans (hI.fact 1 (.inr (dep hdep 1 (by kernel_rfl))) (neverW hI (of_decide_eq_true (by kernel_rfl))))
            have hrow := (show W.heap[r3.blk]? = some (.cells cur 5 (0, 0)) ∧ W.heap[w.heap.size]? = some (.cells #[.int .i64 0, .slice A n c, .int .i64 z] 39 (0, 0)) from hI.fact 11 (.inl (of_decide_eq_true (by kernel_rfl))) (neverW hI (of_decide_eq_true (by kernel_rfl))))
            have hbx : ∀ (hh : L.getD 2 false = false), BoxS W base b P h ms S := fun hh => hI.fact 9 (.inl (of_decide_eq_true (by kernel_rfl))) hh
            have hrx : ∀ (hh : L.getD 6 false = false), RefS W base rb P S X := fun hh => hI.fact 10 (.inl (of_decide_eq_true (by kernel_rfl))) hh
            have hsz := hI.com.siz
            refine ⟨#[.pointer (some ⟨b, 0, none⟩), .slice (some ⟨r3.blk, 0, none⟩) n r3.cap], by simp [e0, e1], (send_any (hbx hi) OK.out l n (some ⟨r3.blk, 0, none⟩) r3.cap HL.out (MINE.out W hrow.1)).mono ?_⟩
            rw [HR.out]
            rintro e W' ⟨rfl, g⟩
            obtain ⟨h', ms', y, k', hm⟩ := g.is
            have kn := fun q (hq : q = b ∨ h.ownBlock = some q) => (hbx hi).box.kin hq
            have row : ∀ {j : Nat} {cs : Array Value} {t : TypeId}, W.heap[j]? = some (.cells cs t (0, 0)) → t ≠ 60 → t ≠ 76 → W'.heap[j]? = some (.cells cs t (0, 0)) := fun hr h1 h2 => (k'.blk _ (Array.getElem?_eq_some_iff.1 hr).1 (kept_ne hr (hbx hi).box.row h1) (fun e => by
              obtain ⟨_, _, cur, hc⟩ := (hbx hi).box.own_lt e.symm
              exact kept_ne hr hc h2 rfl)).trans hr
            refine ⟨_, rfl, hI.com.trans (k'.toKeep.ch.wide fun q _ hq => hq.elim .inl fun hq => .inr (.inl hq)), ⟨by simp [upd], h', ms', y, fun m hm' e => ?_⟩, fun j hj1 hT1 hj hT => ?_⟩
            · rcases hm m hm' with h1 | h1
              · exact P3.out.xm m h1 e
              · have := hX3 _ e; omega
            · have hf := hI.fact j hj hT
              match j, hf, hT1, hj1, hT with
              | 0, hf, _, _, _ | 1, hf, _, _, _ | 3, hf, _, _, _ | 4, hf, _, _, _ | 5, hf, _, _, _ | 7, hf, _, _, _ | 8, hf, _, _, _ => exact hf
              | 2, _, _, hj1, _ => exact absurd rfl hj1
              | 6, hf, _, _, _ => exact ⟨hf.1, hf.2.ch k'.toKeep.ch fun q _ hq => ⟨(kn q hq).sub (by simp), .inr ((kn q hq).sub (by simp))⟩⟩
              | 9, _, hT1, _, _ => exact absurd rfl hT1
              | 10, hf, _, _, _ => exact RefS.ch hf k'.toKeep.ch fun q _ hq => ⟨(kn q hq).sub (by simp), .inr ((kn q hq).sub (by simp))⟩
              | 11, hf, _, _, _ => exact ⟨row hf.1 (by decide) (by decide), row hf.2 (by decide) (by decide)⟩
              | _ + 12, _, _, _, _ => trivial
          case s3 =>
            intro L vals W ρ hI hi hdep hnew hold hc
            have e0 : ρ (.tmp 1) = .pointer (some ⟨rb, 0, none⟩) := (hold 1 (by kernel_rfl)).trans (by kernel_rfl)
            refine ⟨.pointer (some ⟨rb, 0, none⟩), ?_, by simp [soF, upd]⟩
            simp [execOp, e0, go_sem]
          case s4 =>
            intro L vals W ρ hI hi hdep hnew hold hc
            have e0 : ρ (.tmp 6) = .pointer (some ⟨w.heap.size, 0, none⟩) := (hold 6 (by kernel_rfl)).trans (by kernel_rfl)
            refine ⟨.pointer (some ⟨w.heap.size, 1, none⟩), ?_, by simp [soF, upd]⟩
            simp [execOp, e0, go_sem]
          case s5 =>
            intro L vals W ρ hI hi hdep hnew hold hc
            have e0 : ρ (.tmp 47) = .pointer (some ⟨w.heap.size, 1, none⟩) := (hnew 4 47 (dep hdep 4 (by kernel_rfl)) (by kernel_rfl) (of_decide_eq_true (by kernel_rfl)) (of_decide_eq_true (by kernel_rfl))).trans (hI.fact 4 (.inr (dep hdep 4 (by kernel_rfl))) (neverW hI (of_decide_eq_true (by kernel_rfl))))
            have hrow := (show W.heap[r3.blk]? = some (.cells cur 5 (0, 0)) ∧ W.heap[w.heap.size]? = some (.cells #[.int .i64 0, .slice A n c, .int .i64 z] 39 (0, 0)) from hI.fact 11 (.inl (of_decide_eq_true (by kernel_rfl))) (neverW hI (of_decide_eq_true (by kernel_rfl))))
            have c0 : W.cell? ⟨w.heap.size, 1, none⟩ = some (.slice A n c) := by rw [cell_of_row _ _ _ _ _ _ hrow.2]; rfl
            refine ⟨.slice A n c, ?_, by simp [soF, upd]⟩
            simp [execOp, e0, c0, go_sem]
          case s6 =>
            intro L vals W ρ hI hi hdep hnew hold hc
            have e0 : ρ (.tmp 46) = .pointer (some ⟨rb, 0, none⟩) := (hnew 3 46 (dep hdep 3 (by kernel_rfl)) (by kernel_rfl) (of_decide_eq_true (by kernel_rfl)) (of_decide_eq_true (by kernel_rfl))).trans (hI.fact 3 (.inr (dep hdep 3 (by kernel_rfl))) (neverW hI (of_decide_eq_true (by kernel_rfl))))
            have e1 : ρ (.tmp 48) = .slice A n c := (hnew 5 48 (dep hdep 5 (by kernel_rfl)) (by kernel_rfl) (of_decide_eq_true (by kernel_rfl)) (of_decide_eq_true (by kernel_rfl))).trans (hI.fact 5 (.inr (dep hdep 5 (by kernel_rfl))) (neverW hI (of_decide_eq_true (by kernel_rfl))))
            have hrow := (show W.heap[r3.blk]? = some (.cells cur 5 (0, 0)) ∧ W.heap[w.heap.size]? = some (.cells #[.int .i64 0, .slice A n c, .int .i64 z] 39 (0, 0)) from hI.fact 11 (.inl (of_decide_eq_true (by kernel_rfl))) (neverW hI (of_decide_eq_true (by kernel_rfl))))
            have hbx : ∀ (hh : L.getD 2 false = false), BoxS W base b P h ms S := fun hh => hI.fact 9 (.inl (of_decide_eq_true (by kernel_rfl))) hh
            have hrx : ∀ (hh : L.getD 6 false = false), RefS W base rb P S X := fun hh => hI.fact 10 (.inl (of_decide_eq_true (by kernel_rfl))) hh
            have hsz := hI.com.siz
            refine ⟨#[.pointer (some ⟨rb, 0, none⟩), .slice A n c], by simp [e0, e1], (ref_send (hrx hi) (fun q hq => Nat.lt_of_lt_of_le (HX3.out q hq) hsz) OK.out A n c l HL.out (HB0.out.of_below (BB3.out.trans hI.com.bel) h00)).mono ?_⟩
            rw [HR.out]
            rintro e W' ⟨rfl, y, k'⟩
            obtain ⟨_, _, _, zr, _⟩ := (hrx hi).is
            have kn : Kin W rb [60, 76, 36, 37, 5] := ⟨_, _, zr.row, by decide⟩
            have row : ∀ {j : Nat} {cs : Array Value} {t : TypeId}, W.heap[j]? = some (.cells cs t (0, 0)) → t ≠ 31 → W'.heap[j]? = some (.cells cs t (0, 0)) := fun hr h1 => (k'.blk _ (Array.getElem?_eq_some_iff.1 hr).1 (kept_ne hr zr.row h1)).trans hr
            have bx : ∀ {h' : Value} {ms' : List Msg} {S' : St}, BoxS W base b P h' ms' S' → (∀ m ∈ ms', ¬ Xs m.blk) → BoxS W' base b P h' ms' S' := fun y0 hm => y0.ch k'.ch hm fun q _ hq => by subst hq; exact ⟨kn.sub (by simp), .inr (kn.sub (by simp))⟩
            refine ⟨_, rfl, hI.com.trans (k'.ch.wide fun q _ hq => .inr (.inr hq)), ⟨by simp [upd], y⟩, fun j hj1 hT1 hj hT => ?_⟩
            have hf := hI.fact j hj hT
            match j, hf, hT1, hj1, hT with
            | 0, hf, _, _, _ | 1, hf, _, _, _ | 3, hf, _, _, _ | 4, hf, _, _, _ | 5, hf, _, _, _ | 7, hf, _, _, _ | 8, hf, _, _, _ => exact hf
            | 6, _, _, hj1, _ => exact absurd rfl hj1
            | 2, ⟨h1, h', ms', y0, hm⟩, _, _, _ => exact ⟨h1, h', ms', bx y0 hm, hm⟩
            | 10, _, hT1, _, _ => exact absurd rfl hT1
            | 9, hf, _, _, _ => exact bx hf P3.out.xm
            | 11, hf, _, _, _ => exact ⟨row hf.1 (by decide), row hf.2 (by decide)⟩
            | _ + 12, _, _, _, _ => trivial
          case s7 =>
            intro L vals W ρ hI hi hdep hnew hold hc
            have f0 : soF base b rb w.heap.size r3.blk A n c r3.cap 0 z P S S2 r Xs X h ms cur 2 vals W := hI.fact 2 (.inr (dep hdep 2 (by kernel_rfl))) (neverW hI (of_decide_eq_true (by kernel_rfl)))
            have f1 : soF base b rb w.heap.size r3.blk A n c r3.cap 0 z P S S2 r Xs X h ms cur 6 vals W := hI.fact 6 (.inr (dep hdep 6 (by kernel_rfl))) (neverW hI (of_decide_eq_true (by kernel_rfl)))
            have e0 : ρ (.tmp 45) = .int .i64 r := (hnew 2 45 (dep hdep 2 (by kernel_rfl)) (by kernel_rfl) (of_decide_eq_true (by kernel_rfl)) (of_decide_eq_true (by kernel_rfl))).trans f0.1
            have e1 : ρ (.tmp 49) = .int .i64 r := (hnew 6 49 (dep hdep 6 (by kernel_rfl)) (by kernel_rfl) (of_decide_eq_true (by kernel_rfl)) (of_decide_eq_true (by kernel_rfl))).trans f1.1
            refine ⟨.bool true, ?_, by simp [soF, upd]⟩
            simp [execOp, e0, e1, go_sem]
          case s8 =>
            intro L vals W ρ hI hi hdep hnew hold hc
            have e0 : ρ (.tmp 50) = .bool true := (hnew 7 50 (dep hdep 7 (by kernel_rfl)) (by kernel_rfl) (of_decide_eq_true (by kernel_rfl)) (of_decide_eq_true (by kernel_rfl))).trans (hI.fact 7 (.inr (dep hdep 7 (by kernel_rfl))) (neverW hI (of_decide_eq_true (by kernel_rfl))))
            refine ⟨.bool true, ?_, by simp [soF, upd]⟩
            simp [execOp, e0, go_sem]
        case fin =>
          intro vals W hC hF
          obtain ⟨_, h', ms', y, hm⟩ : soF base b rb w.heap.size r3.blk A n c r3.cap 0 z P S S2 r Xs X h ms cur 2 vals W := hF 2 (of_decide_eq_true (by kernel_rfl)) (of_decide_eq_true (by kernel_rfl))
          obtain ⟨_, yr⟩ : soF base b rb w.heap.size r3.blk A n c r3.cap 0 z P S S2 r Xs X h ms cur 6 vals W := hF 6 (of_decide_eq_true (by kernel_rfl)) (of_decide_eq_true (by kernel_rfl))
          have hv : vals 8 = .bool true := hF 8 (of_decide_eq_true (by kernel_rfl)) (of_decide_eq_true (by kernel_rfl))
          obtain ⟨_, _, _, zr0, _⟩ := P3.out.ref.is
          have rowC : ∀ {j : Nat} {cs : Array Value} {t : TypeId}, w3.heap[j]? = some (.cells cs t (0, 0)) → t ≠ 60 → t ≠ 76 → t ≠ 31 → W.heap[j]? = some (.cells cs t (0, 0)) := fun hr h1 h2 h3 => (hC.blk _ (Array.getElem?_eq_some_iff.1 hr).1 (fun e => by
            rcases e with e | e | e
            · exact kept_ne hr P3.out.box.box.row h1 e
            · obtain ⟨_, _, cur, hc⟩ := P3.out.box.box.own_lt e
              exact kept_ne hr hc h2 rfl
            · exact kept_ne hr zr0.row h3 e)).trans hr
          have dr := rowC DR3.out (by decide) (by decide) (by decide)
          have orow := rowC R3.out (by decide) (by decide) (by decide)
          clear rowC zr0
          obtain ⟨_, _, _, zr, _⟩ := P3.out.ref.is
          have kr : Kin w3 rb [60, 76, 36, 37, 5] := ⟨_, _, zr.row, by decide⟩
          have HP := hide (show Pl W base b rb kb P S2 S2 Xs h' ms' hT hW tT tW from ⟨y, (by rw [hX]; exact yr), P3.out.kept.chK hC P3.out.xT P3.out.xW fun q _ hq => (by
            rcases hq with hq | hq | hq
            · exact ⟨(P3.out.box.box.kin (.inl hq)).sub (by simp), .inr ((P3.out.box.box.kin (.inl hq)).sub (by simp))⟩
            · exact ⟨(P3.out.box.box.kin (.inr hq)).sub (by simp), .inr ((P3.out.box.box.kin (.inr hq)).sub (by simp))⟩
            · subst hq; exact ⟨kr.sub (by simp), .inr (kr.sub (by simp))⟩), hm, P3.out.xT, P3.out.xW⟩)
          have HC := hide (BB3w.out.trans hC.bel); have HDR := hide dr; have HOR := hide orow
          simp [canon, dstOf, Act.put]
          rw [hv]
          clear hC hF y hm yr dr orow zr kr hv
          go_wp2
          go_meet
          case rel => exact ⟨b, h', ms', hT, hW, tT, tW, S2, rfl, rfl, (by rw [HXS.out]; exact HP.out), HLO.out, by omega, HC.out, HDR.out.trans DR3.out.symm, HOR.out.trans R3.out.symm⟩
    by_cases k2 : k = 2
    · as_aux_lemma =>
        subst k2
        have hlo := lost_arrive (l := l) (z := z) OK.out LOST.out
        obtain ⟨⟨r, S2⟩, hR⟩ : ∃ R, arriveF P S l z = R := ⟨_, rfl⟩
        rw [hR] at hlo
        have HR := hide hR; have HLO := hide hlo
        obtain ⟨Xs, hXs⟩ : ∃ Xs : Nat → Prop, (fun k => w.heap.size ≤ k ∧ k < w3.heap.size) = Xs := ⟨_, rfl⟩
        have hX3 : ∀ k, Xs k → k < w3.heap.size := fun k hk => by rw [← hXs] at hk; exact hk.2
        rw [hXs] at P3
        have HXS := hide hXs
        obtain ⟨X, hX⟩ : ∃ X : Nat → Prop, (fun k => Xs k ∨ hT.ownBlock = some k ∨ hW.ownBlock = some k) = X := ⟨_, rfl⟩
        have HX3 := hide (show ∀ k, X k → k < w3.heap.size from by rw [← hX]; exact P3.out.bound hX3)
        have P3X := P3.out.ref
        have BB3 := hide (B0.out.trans (B3.out.mono hbase))
        have BB3w := hide (B3.out.mono hbase)
        have MINE := hide (show ∀ W : World, W.heap[r3.blk]? = some (.cells cur 5 (0, 0)) → Bytes W (some ⟨r3.blk, 0, none⟩) l from fun W hr => by
          have h1 := OwnS.bytes (OwnS.kept HA3.out (hr.trans DR3.out.symm))
          rw [HT3.out] at h1
          have h2 := h1.take n
          rwa [List.take_append_of_le_length (by rw [HL.out]; omega), List.take_of_length_le (by rw [HL.out]; omega)] at h2)
        clear hR hlo q0 q1 q2 hbw hXs
        go_wp2_with fail
        refine wp_region_factsW (Ch base (fun q => q = b ∨ h.ownBlock = some q ∨ q = rb) w3) (arF base b rb w.heap.size r3.blk A n c r3.cap 2 z P S S2 r Xs X h ms cur) arT arM ?m0 ?mb arF_sup (by kernel_rfl) (by kernel_rfl) ?com ?ini ?steps ?fin
        case m0 =>
          intro j hj
          have hj' : 13 ≤ j := hj
          unfold arM; rw [if_pos hj']
        case mb =>
          intro j i hi hij
          unfold arM at hi
          split at hi
          · cases hi
          · exact absurd (List.mem_singleton.1 hi) hij
        case com => exact Ch.of (below_drewN (Below.refl _ _) 1) (by omega)
        case ini =>
          intro j hj
          have hj' : 13 ≤ j := hj
          match j, hj' with
          | 13, _ => exact P3.out.box.later (below_drewN (Below.refl _ _) 1)
          | 14, _ => exact (by rw [← hX]; exact P3.out.ref.later (below_drewN (Below.refl _ _) 1))
          | 15, _ => exact ⟨DR3.out, R3.out⟩
          | _ + 16, _ => exact trivial
        case steps =>
          refine AllFrom.cons (step_isW (by kernel_rfl) ?s0) (AllFrom.cons (i := 1) (step_isW (by kernel_rfl) ?s1) (AllFrom.cons (i := 2) (step_isW (by kernel_rfl) ?s2) (AllFrom.cons (i := 3) (step_isW (by kernel_rfl) ?s3) (AllFrom.cons (i := 4) (step_fnW (by kernel_rfl) 19 #[.tmp 78, .tmp 79, .tmp 81] _ rfl (enters_of Try.func19 (by kernel_rfl) rfl) ?s4) (AllFrom.cons (i := 5) (step_isW (by kernel_rfl) ?s5) (AllFrom.cons (i := 6) (step_isW (by kernel_rfl) ?s6) (AllFrom.cons (i := 7) (step_isW (by kernel_rfl) ?s7) (AllFrom.cons (i := 8) (step_isW (by kernel_rfl) ?s8) (AllFrom.cons (i := 9) (step_isW (by kernel_rfl) ?s9) (AllFrom.cons (i := 10) (step_fnW (by kernel_rfl) 20 #[.tmp 83, .tmp 85, .tmp 87] _ rfl (enters_of Try.func20 (by kernel_rfl) rfl) ?s10) (AllFrom.cons (i := 11) (step_isW (by kernel_rfl) ?s11) (AllFrom.cons (i := 12) (step_isW (by kernel_rfl) ?s12) (trivial)))))))))))))
          case s0 =>
            intro L vals W ρ hI hi hdep hnew hold hc
            have e0 : ρ (.tmp 0) = .pointer (some ⟨b, 0, none⟩) := (hold 0 (by kernel_rfl)).trans (by kernel_rfl)
            refine ⟨.pointer (some ⟨b, 0, none⟩), ?_, by simp [arF, upd]⟩
            simp [execOp, e0, go_sem]
          case s1 =>
            intro L vals W ρ hI hi hdep hnew hold hc
            have e0 : ρ (.tmp 11) = .slice (some ⟨r3.blk, 0, none⟩) n r3.cap := (hold 11 (by kernel_rfl)).trans (by kernel_rfl)
            refine ⟨.slice (some ⟨r3.blk, 0, none⟩) n r3.cap, ?_, by simp [arF, upd]⟩
            simp [execOp, e0, go_sem]
          case s2 =>
            intro L vals W ρ hI hi hdep hnew hold hc
            have e0 : ρ (.tmp 6) = .pointer (some ⟨w.heap.size, 0, none⟩) := (hold 6 (by kernel_rfl)).trans (by kernel_rfl)
            refine ⟨.pointer (some ⟨w.heap.size, 2, none⟩), ?_, by simp [arF, upd]⟩
            simp [execOp, e0, go_sem]
          case s3 =>
            intro L vals W ρ hI hi hdep hnew hold hc
            have e0 : ρ (.tmp 80) = .pointer (some ⟨w.heap.size, 2, none⟩) := (hnew 2 80 (dep hdep 2 (by kernel_rfl)) (by kernel_rfl) (of_decide_eq_true (by kernel_rfl)) (of_decide_eq_true (by kernel_rfl))).trans (hI.fact 2 (.inr (dep hdep 2 (by kernel_rfl))) (neverW hI (of_decide_eq_true (by kernel_rfl))))
            have hrow := (show W.heap[r3.blk]? = some (.cells cur 5 (0, 0)) ∧ W.heap[w.heap.size]? = some (.cells #[.int .i64 2, .slice A n c, .int .i64 z] 39 (0, 0)) from hI.fact 15 (.inl (of_decide_eq_true (by kernel_rfl))) (neverW hI (of_decide_eq_true (by kernel_rfl))))
            have c0 : W.cell? ⟨w.heap.size, 2, none⟩ = some (.int .i64 z) := by rw [cell_of_row _ _ _ _ _ _ hrow.2]; rfl
            refine ⟨.int .i64 z, ?_, by simp [arF, upd]⟩
            simp [execOp, e0, c0, go_sem]
          case s4 =>
            intro L vals W ρ hI hi hdep hnew hold hc
            have e0 : ρ (.tmp 78) = .pointer (some ⟨b, 0, none⟩) := (hnew 0 78 (dep hdep 0 (by kernel_rfl)) (by kernel_rfl) (of_decide_eq_true (by kernel_rfl)) (of_decide_eq_true (by kernel_rfl))).trans (hI.fact 0 (.inr (dep hdep 0 (by kernel_rfl))) (neverW hI (of_decide_eq_true (by kernel_rfl))))
            have e1 : ρ (.tmp 79) = .slice (some ⟨r3.blk, 0, none⟩) n r3.cap := (hnew 1 79 (dep hdep 1 (by kernel_rfl)) (by kernel_rfl) (of_decide_eq_true (by kernel_rfl)) (of_decide_eq_true (by kernel_rfl))).trans (hI.fact 1 (.inr (dep hdep 1 (by kernel_rfl))) (neverW hI (of_decide_eq_true (by kernel_rfl))))
            have e2 : ρ (.tmp 81) = .int .i64 z := (hnew 3 81 (dep hdep 3 (by kernel_rfl)) (by kernel_rfl) (of_decide_eq_true (by kernel_rfl)) (of_decide_eq_true (by kernel_rfl))).trans (hI.fact 3 (.inr (dep hdep 3 (by kernel_rfl))) (neverW hI (of_decide_eq_true (by kernel_rfl))))
            have hrow := (show W.heap[r3.blk]? = some (.cells cur 5 (0, 0)) ∧ W.heap[w.heap.size]? = some (.cells #[.int .i64 2, .slice A n c, .int .i64 z] 39 (0, 0)) from hI.fact 15 (.inl (of_decide_eq_true (by kernel_rfl))) (neverW hI (of_decide_eq_true (by kernel_rfl))))
            have hbx : ∀ (hh : L.getD 4 false = false), BoxS W base b P h ms S := fun hh => hI.fact 13 (.inl (of_decide_eq_true (by kernel_rfl))) hh
            have hrx : ∀ (hh : L.getD 10 false = false), RefS W base rb P S X := fun hh => hI.fact 14 (.inl (of_decide_eq_true (by kernel_rfl))) hh
            have hsz := hI.com.siz
            refine ⟨#[.pointer (some ⟨b, 0, none⟩), .slice (some ⟨r3.blk, 0, none⟩) n r3.cap, .int .i64 z], by simp [e0, e1, e2], (arrive_any (hbx hi) OK.out l n (some ⟨r3.blk, 0, none⟩) r3.cap z hz HL.out (MINE.out W hrow.1)).mono ?_⟩
            rw [HR.out]
            rintro e W' ⟨rfl, g⟩
            obtain ⟨h', ms', y, k', hm⟩ := g.is
            have kn := fun q (hq : q = b ∨ h.ownBlock = some q) => (hbx hi).box.kin hq
            have row : ∀ {j : Nat} {cs : Array Value} {t : TypeId}, W.heap[j]? = some (.cells cs t (0, 0)) → t ≠ 60 → t ≠ 76 → W'.heap[j]? = some (.cells cs t (0, 0)) := fun hr h1 h2 => (k'.blk _ (Array.getElem?_eq_some_iff.1 hr).1 (kept_ne hr (hbx hi).box.row h1) (fun e => by
              obtain ⟨_, _, cur, hc⟩ := (hbx hi).box.own_lt e.symm
              exact kept_ne hr hc h2 rfl)).trans hr
            refine ⟨_, rfl, hI.com.trans (k'.toKeep.ch.wide fun q _ hq => hq.elim .inl fun hq => .inr (.inl hq)), ⟨by simp [upd], h', ms', y, fun m hm' e => ?_⟩, fun j hj1 hT1 hj hT => ?_⟩
            · rcases hm m hm' with h1 | h1
              · exact P3.out.xm m h1 e
              · have := hX3 _ e; omega
            · have hf := hI.fact j hj hT
              match j, hf, hT1, hj1, hT with
              | 0, hf, _, _, _ | 1, hf, _, _, _ | 2, hf, _, _, _ | 3, hf, _, _, _ | 5, hf, _, _, _ | 6, hf, _, _, _ | 7, hf, _, _, _ | 8, hf, _, _, _ | 9, hf, _, _, _ | 11, hf, _, _, _ | 12, hf, _, _, _ => exact hf
              | 4, _, _, hj1, _ => exact absurd rfl hj1
              | 10, hf, _, _, _ => exact ⟨hf.1, hf.2.ch k'.toKeep.ch fun q _ hq => ⟨(kn q hq).sub (by simp), .inr ((kn q hq).sub (by simp))⟩⟩
              | 13, _, hT1, _, _ => exact absurd rfl hT1
              | 14, hf, _, _, _ => exact RefS.ch hf k'.toKeep.ch fun q _ hq => ⟨(kn q hq).sub (by simp), .inr ((kn q hq).sub (by simp))⟩
              | 15, hf, _, _, _ => exact ⟨row hf.1 (by decide) (by decide), row hf.2 (by decide) (by decide)⟩
              | _ + 16, _, _, _, _ => trivial
          case s5 =>
            intro L vals W ρ hI hi hdep hnew hold hc
            have e0 : ρ (.tmp 1) = .pointer (some ⟨rb, 0, none⟩) := (hold 1 (by kernel_rfl)).trans (by kernel_rfl)
            refine ⟨.pointer (some ⟨rb, 0, none⟩), ?_, by simp [arF, upd]⟩
            simp [execOp, e0, go_sem]
          case s6 =>
            intro L vals W ρ hI hi hdep hnew hold hc
            have e0 : ρ (.tmp 6) = .pointer (some ⟨w.heap.size, 0, none⟩) := (hold 6 (by kernel_rfl)).trans (by kernel_rfl)
            refine ⟨.pointer (some ⟨w.heap.size, 1, none⟩), ?_, by simp [arF, upd]⟩
            simp [execOp, e0, go_sem]
          case s7 =>
            intro L vals W ρ hI hi hdep hnew hold hc
            have e0 : ρ (.tmp 84) = .pointer (some ⟨w.heap.size, 1, none⟩) := (hnew 6 84 (dep hdep 6 (by kernel_rfl)) (by kernel_rfl) (of_decide_eq_true (by kernel_rfl)) (of_decide_eq_true (by kernel_rfl))).trans (hI.fact 6 (.inr (dep hdep 6 (by kernel_rfl))) (neverW hI (of_decide_eq_true (by kernel_rfl))))
            have hrow := (show W.heap[r3.blk]? = some (.cells cur 5 (0, 0)) ∧ W.heap[w.heap.size]? = some (.cells #[.int .i64 2, .slice A n c, .int .i64 z] 39 (0, 0)) from hI.fact 15 (.inl (of_decide_eq_true (by kernel_rfl))) (neverW hI (of_decide_eq_true (by kernel_rfl))))
            have c0 : W.cell? ⟨w.heap.size, 1, none⟩ = some (.slice A n c) := by rw [cell_of_row _ _ _ _ _ _ hrow.2]; rfl
            refine ⟨.slice A n c, ?_, by simp [arF, upd]⟩
            simp [execOp, e0, c0, go_sem]
          case s8 =>
            intro L vals W ρ hI hi hdep hnew hold hc
            have e0 : ρ (.tmp 6) = .pointer (some ⟨w.heap.size, 0, none⟩) := (hold 6 (by kernel_rfl)).trans (by kernel_rfl)
            refine ⟨.pointer (some ⟨w.heap.size, 2, none⟩), ?_, by simp [arF, upd]⟩
            simp [execOp, e0, go_sem]
          case s9 =>
            intro L vals W ρ hI hi hdep hnew hold hc
            have e0 : ρ (.tmp 86) = .pointer (some ⟨w.heap.size, 2, none⟩) := (hnew 8 86 (dep hdep 8 (by kernel_rfl)) (by kernel_rfl) (of_decide_eq_true (by kernel_rfl)) (of_decide_eq_true (by kernel_rfl))).trans (hI.fact 8 (.inr (dep hdep 8 (by kernel_rfl))) (neverW hI (of_decide_eq_true (by kernel_rfl))))
            have hrow := (show W.heap[r3.blk]? = some (.cells cur 5 (0, 0)) ∧ W.heap[w.heap.size]? = some (.cells #[.int .i64 2, .slice A n c, .int .i64 z] 39 (0, 0)) from hI.fact 15 (.inl (of_decide_eq_true (by kernel_rfl))) (neverW hI (of_decide_eq_true (by kernel_rfl))))
            have c0 : W.cell? ⟨w.heap.size, 2, none⟩ = some (.int .i64 z) := by rw [cell_of_row _ _ _ _ _ _ hrow.2]; rfl
            refine ⟨.int .i64 z, ?_, by simp [arF, upd]⟩
            simp [execOp, e0, c0, go_sem]
          case s10 =>
            intro L vals W ρ hI hi hdep hnew hold hc
            have e0 : ρ (.tmp 83) = .pointer (some ⟨rb, 0, none⟩) := (hnew 5 83 (dep hdep 5 (by kernel_rfl)) (by kernel_rfl) (of_decide_eq_true (by kernel_rfl)) (of_decide_eq_true (by kernel_rfl))).trans (hI.fact 5 (.inr (dep hdep 5 (by kernel_rfl))) (neverW hI (of_decide_eq_true (by kernel_rfl))))
            have e1 : ρ (.tmp 85) = .slice A n c := (hnew 7 85 (dep hdep 7 (by kernel_rfl)) (by kernel_rfl) (of_decide_eq_true (by kernel_rfl)) (of_decide_eq_true (by kernel_rfl))).trans (hI.fact 7 (.inr (dep hdep 7 (by kernel_rfl))) (neverW hI (of_decide_eq_true (by kernel_rfl))))
            have e2 : ρ (.tmp 87) = .int .i64 z := (hnew 9 87 (dep hdep 9 (by kernel_rfl)) (by kernel_rfl) (of_decide_eq_true (by kernel_rfl)) (of_decide_eq_true (by kernel_rfl))).trans (hI.fact 9 (.inr (dep hdep 9 (by kernel_rfl))) (neverW hI (of_decide_eq_true (by kernel_rfl))))
            have hrow := (show W.heap[r3.blk]? = some (.cells cur 5 (0, 0)) ∧ W.heap[w.heap.size]? = some (.cells #[.int .i64 2, .slice A n c, .int .i64 z] 39 (0, 0)) from hI.fact 15 (.inl (of_decide_eq_true (by kernel_rfl))) (neverW hI (of_decide_eq_true (by kernel_rfl))))
            have hbx : ∀ (hh : L.getD 4 false = false), BoxS W base b P h ms S := fun hh => hI.fact 13 (.inl (of_decide_eq_true (by kernel_rfl))) hh
            have hrx : ∀ (hh : L.getD 10 false = false), RefS W base rb P S X := fun hh => hI.fact 14 (.inl (of_decide_eq_true (by kernel_rfl))) hh
            have hsz := hI.com.siz
            refine ⟨#[.pointer (some ⟨rb, 0, none⟩), .slice A n c, .int .i64 z], by simp [e0, e1, e2], (ref_arrive (hrx hi) (fun q hq => Nat.lt_of_lt_of_le (HX3.out q hq) hsz) OK.out A n c l z hz HL.out (HB0.out.of_below (BB3.out.trans hI.com.bel) h00)).mono ?_⟩
            rw [HR.out]
            rintro e W' ⟨rfl, y, k'⟩
            obtain ⟨_, _, _, zr, _⟩ := (hrx hi).is
            have kn : Kin W rb [60, 76, 36, 37, 5] := ⟨_, _, zr.row, by decide⟩
            have row : ∀ {j : Nat} {cs : Array Value} {t : TypeId}, W.heap[j]? = some (.cells cs t (0, 0)) → t ≠ 31 → W'.heap[j]? = some (.cells cs t (0, 0)) := fun hr h1 => (k'.blk _ (Array.getElem?_eq_some_iff.1 hr).1 (kept_ne hr zr.row h1)).trans hr
            have bx : ∀ {h' : Value} {ms' : List Msg} {S' : St}, BoxS W base b P h' ms' S' → (∀ m ∈ ms', ¬ Xs m.blk) → BoxS W' base b P h' ms' S' := fun y0 hm => y0.ch k'.ch hm fun q _ hq => by subst hq; exact ⟨kn.sub (by simp), .inr (kn.sub (by simp))⟩
            refine ⟨_, rfl, hI.com.trans (k'.ch.wide fun q _ hq => .inr (.inr hq)), ⟨by simp [upd], y⟩, fun j hj1 hT1 hj hT => ?_⟩
            have hf := hI.fact j hj hT
            match j, hf, hT1, hj1, hT with
            | 0, hf, _, _, _ | 1, hf, _, _, _ | 2, hf, _, _, _ | 3, hf, _, _, _ | 5, hf, _, _, _ | 6, hf, _, _, _ | 7, hf, _, _, _ | 8, hf, _, _, _ | 9, hf, _, _, _ | 11, hf, _, _, _ | 12, hf, _, _, _ => exact hf
            | 10, _, _, hj1, _ => exact absurd rfl hj1
            | 4, ⟨h1, h', ms', y0, hm⟩, _, _, _ => exact ⟨h1, h', ms', bx y0 hm, hm⟩
            | 14, _, hT1, _, _ => exact absurd rfl hT1
            | 13, hf, _, _, _ => exact bx hf P3.out.xm
            | 15, hf, _, _, _ => exact ⟨row hf.1 (by decide), row hf.2 (by decide)⟩
            | _ + 16, _, _, _, _ => trivial
          case s11 =>
            intro L vals W ρ hI hi hdep hnew hold hc
            have f0 : arF base b rb w.heap.size r3.blk A n c r3.cap 2 z P S S2 r Xs X h ms cur 4 vals W := hI.fact 4 (.inr (dep hdep 4 (by kernel_rfl))) (neverW hI (of_decide_eq_true (by kernel_rfl)))
            have f1 : arF base b rb w.heap.size r3.blk A n c r3.cap 2 z P S S2 r Xs X h ms cur 10 vals W := hI.fact 10 (.inr (dep hdep 10 (by kernel_rfl))) (neverW hI (of_decide_eq_true (by kernel_rfl)))
            have e0 : ρ (.tmp 82) = .int .i64 r := (hnew 4 82 (dep hdep 4 (by kernel_rfl)) (by kernel_rfl) (of_decide_eq_true (by kernel_rfl)) (of_decide_eq_true (by kernel_rfl))).trans f0.1
            have e1 : ρ (.tmp 88) = .int .i64 r := (hnew 10 88 (dep hdep 10 (by kernel_rfl)) (by kernel_rfl) (of_decide_eq_true (by kernel_rfl)) (of_decide_eq_true (by kernel_rfl))).trans f1.1
            refine ⟨.bool true, ?_, by simp [arF, upd]⟩
            simp [execOp, e0, e1, go_sem]
          case s12 =>
            intro L vals W ρ hI hi hdep hnew hold hc
            have e0 : ρ (.tmp 89) = .bool true := (hnew 11 89 (dep hdep 11 (by kernel_rfl)) (by kernel_rfl) (of_decide_eq_true (by kernel_rfl)) (of_decide_eq_true (by kernel_rfl))).trans (hI.fact 11 (.inr (dep hdep 11 (by kernel_rfl))) (neverW hI (of_decide_eq_true (by kernel_rfl))))
            refine ⟨.bool true, ?_, by simp [arF, upd]⟩
            simp [execOp, e0, go_sem]
        case fin =>
          intro vals W hC hF
          obtain ⟨_, h', ms', y, hm⟩ : arF base b rb w.heap.size r3.blk A n c r3.cap 2 z P S S2 r Xs X h ms cur 4 vals W := hF 4 (of_decide_eq_true (by kernel_rfl)) (of_decide_eq_true (by kernel_rfl))
          obtain ⟨_, yr⟩ : arF base b rb w.heap.size r3.blk A n c r3.cap 2 z P S S2 r Xs X h ms cur 10 vals W := hF 10 (of_decide_eq_true (by kernel_rfl)) (of_decide_eq_true (by kernel_rfl))
          have hv : vals 12 = .bool true := hF 12 (of_decide_eq_true (by kernel_rfl)) (of_decide_eq_true (by kernel_rfl))
          obtain ⟨_, _, _, zr0, _⟩ := P3.out.ref.is
          have rowC : ∀ {j : Nat} {cs : Array Value} {t : TypeId}, w3.heap[j]? = some (.cells cs t (0, 0)) → t ≠ 60 → t ≠ 76 → t ≠ 31 → W.heap[j]? = some (.cells cs t (0, 0)) := fun hr h1 h2 h3 => (hC.blk _ (Array.getElem?_eq_some_iff.1 hr).1 (fun e => by
            rcases e with e | e | e
            · exact kept_ne hr P3.out.box.box.row h1 e
            · obtain ⟨_, _, cur, hc⟩ := P3.out.box.box.own_lt e
              exact kept_ne hr hc h2 rfl
            · exact kept_ne hr zr0.row h3 e)).trans hr
          have dr := rowC DR3.out (by decide) (by decide) (by decide)
          have orow := rowC R3.out (by decide) (by decide) (by decide)
          clear rowC zr0
          obtain ⟨_, _, _, zr, _⟩ := P3.out.ref.is
          have kr : Kin w3 rb [60, 76, 36, 37, 5] := ⟨_, _, zr.row, by decide⟩
          have HP := hide (show Pl W base b rb kb P S2 S2 Xs h' ms' hT hW tT tW from ⟨y, (by rw [hX]; exact yr), P3.out.kept.chK hC P3.out.xT P3.out.xW fun q _ hq => (by
            rcases hq with hq | hq | hq
            · exact ⟨(P3.out.box.box.kin (.inl hq)).sub (by simp), .inr ((P3.out.box.box.kin (.inl hq)).sub (by simp))⟩
            · exact ⟨(P3.out.box.box.kin (.inr hq)).sub (by simp), .inr ((P3.out.box.box.kin (.inr hq)).sub (by simp))⟩
            · subst hq; exact ⟨kr.sub (by simp), .inr (kr.sub (by simp))⟩), hm, P3.out.xT, P3.out.xW⟩)
          have HC := hide (BB3w.out.trans hC.bel); have HDR := hide dr; have HOR := hide orow
          simp [canon, dstOf, Act.put]
          rw [hv]
          clear hC hF y hm yr dr orow zr kr hv
          go_wp2
          go_meet
          case rel => exact ⟨b, h', ms', hT, hW, tT, tW, S2, rfl, rfl, (by rw [HXS.out]; exact HP.out), HLO.out, by omega, HC.out, HDR.out.trans DR3.out.symm, HOR.out.trans R3.out.symm⟩
    by_cases k5 : k = 5
    · as_aux_lemma =>
        subst k5
        have hcp := P3.out.box.copied2 OK.out
        have HLEN := hide (fun (S : St) (hs : ∀ x ∈ S.1, (x.1.length : Int) = P.s) => take_len hs s2)
        have MINE := hide (show ∀ W : World, W.heap[r3.blk]? = some (.cells cur 5 (0, 0)) → Bytes W (some ⟨r3.blk, 0, none⟩) l from fun W hr => by
          have h1 := OwnS.bytes (OwnS.kept HA3.out (hr.trans DR3.out.symm))
          rw [HT3.out] at h1
          have h2 := h1.take n
          rwa [List.take_append_of_le_length (by rw [HL.out]; omega), List.take_of_length_le (by rw [HL.out]; omega)] at h2)
        clear q0 q1 q2 hbw
        go_wp2_with fail
        refine hcp.mono ?_
        rintro e w4 ⟨⟨b2, h2, ms2, rfl, y2, l2, o2, m2⟩, hb4⟩
        have P4 := hide (P3.out.later hb4)
        have T4 := hide (pair_new P3.out.box hb4 y2 l2 o2)
        have M2 := hide (show ∀ m ∈ ms2, w3.heap.size ≤ m.blk ∧ m.blk < w4.heap.size from fun m hm => ⟨m2 m hm, OwnS.blk (y2.box.each m hm)⟩)
        have hz4 := hb4.size
        have DR4 := hide ((hb4.block r3.blk hbl0).trans DR3.out)
        have OR4 := hide ((hb4.block w.heap.size (by omega)).trans R3.out)
        have B4 := hide ((B3.out.mono hbase).trans (hb4.mono (by omega)))
        clear hcp y2 l2 o2 m2 hb4
        have hc := send_any P4.out.box OK.out l n (some ⟨r3.blk, 0, none⟩) r3.cap HL.out (MINE.out w4 DR4.out)
        obtain ⟨⟨c5, S5⟩, hR5⟩ : ∃ R, sendF P S l = R := ⟨_, rfl⟩
        rw [hR5] at hc
        clear hR5
        go_wp2_with fail
        refine hc.mono ?_
        rintro e w5 ⟨rfl, g⟩
        obtain ⟨h5, ms5, p5, k5⟩ := P4.out.went g (fun q hq => by have := hq.2; omega)
        have P5 := hide p5
        have T5 := hide (T4.out.with p5.box k5)
        have hz5 := k5.siz
        have DR5 := hide (P4.out.rowS k5 DR4.out (by decide) (by decide))
        have OR5 := hide (P4.out.rowS k5 OR4.out (by decide) (by decide))
        have B5 := hide (B4.out.trans k5.bel)
        clear hc g p5 k5 P4 T4
        have hc := take_sub P5.out.box OK.out
        have hL1 := take_len P5.out.box.sizes s2
        obtain ⟨⟨⟨m1, q1⟩, S6⟩, hR6⟩ : ∃ R, takeF P S5 = R := ⟨_, rfl⟩
        rw [hR6] at hc hL1
        have hL1' : m1.length ≤ 32 := hL1
        clear hR6 hL1
        go_wp2_with fail
        refine hc.mono ?_
        rintro e w6 ⟨v1, rfl, gg, g⟩
        obtain ⟨h6, ms6, p6, k6⟩ := P5.out.wentB g
        have P6 := hide p6
        have T6 := hide (T5.out.with p6.box k6)
        have hz6 := k6.siz
        have G6 := hide (show GotB w6 w5.heap.size v1 m1 from gg)
        have DR6 := hide (P5.out.rowS k6 DR5.out (by decide) (by decide))
        have OR6 := hide (P5.out.rowS k6 OR5.out (by decide) (by decide))
        have B6 := hide (B5.out.trans k6.bel)
        clear hc gg g p6 k6 P5 T5
        have hc := recv_sub P6.out.box OK.out 0 (by omega)
        have hL2 := recv_len (z := 0) P6.out.box.sizes s2
        obtain ⟨⟨⟨n1, q2⟩, S7⟩, hR7⟩ : ∃ R, recvF P S6 0 = R := ⟨_, rfl⟩
        rw [hR7] at hc hL2
        have hL2' : n1.length ≤ 32 := hL2
        clear hR7 hL2
        go_wp2_with fail
        refine hc.mono ?_
        rintro e w7 ⟨v2, rfl, gg, g⟩
        obtain ⟨h7, ms7, p7, k7⟩ := P6.out.wentB g
        have P7 := hide p7
        have T7 := hide (T6.out.with p7.box k7)
        have hz7 := k7.siz
        have G71 := hide (P6.out.gotS k7 G6.out)
        have G72 := hide (show GotB w7 w6.heap.size v2 n1 from gg)
        have H1 := hide (show ∀ q, v1.ownBlock = some q → w5.heap.size ≤ q ∧ q < w6.heap.size from fun q hq => ⟨(G6.out.blk hq).2.1, (G6.out.blk hq).1⟩)
        have H2 := hide (show ∀ q, v2.ownBlock = some q → w6.heap.size ≤ q ∧ q < w7.heap.size from fun q hq => ⟨(G72.out.blk hq).2.1, (G72.out.blk hq).1⟩)
        have DR7 := hide (P6.out.rowS k7 DR6.out (by decide) (by decide))
        have OR7 := hide (P6.out.rowS k7 OR6.out (by decide) (by decide))
        have B7 := hide (B6.out.trans k7.bel)
        clear hc gg g p7 k7 P6 T6 G6
        obtain ⟨A1, c1, rfl⟩ := G71.out.len
        obtain ⟨A2, c2, rfl⟩ := G72.out.len
        obtain ⟨i1, hi1⟩ : ∃ i1, m1.length = i1 := ⟨_, rfl⟩
        obtain ⟨i2, hi2⟩ : ∃ i2, n1.length = i2 := ⟨_, rfl⟩
        rw [hi1] at G71 H1
        rw [hi2] at G72 H2
        have hm1 : i1 ≤ 32 := by omega
        have hm2 : i2 ≤ 32 := by omega
        simp only [hi1, hi2]
        have HI1 := hide hi1; have HI2 := hide hi2
        have NX := hide (show ∀ m ∈ ms2, ¬ (fun k => ((w.heap.size ≤ k ∧ k < w3.heap.size) ∨ (w5.heap.size ≤ k ∧ k < w6.heap.size)) ∨ (w6.heap.size ≤ k ∧ k < w7.heap.size)) m.blk from fun m hm e => by
          have h1 := M2.out m hm
          rcases e with (e | e) | e <;> omega)
        clear hi1 hi2 hL1' hL2'
        go_wp2_with fail
        go_loopg [148] i1 (fun r i wr => ∃ (j : Nat) (l' : List Nat), j + r = i1 ∧ i = .int .i64 j ∧ l'.length = i1 ∧ GotB wr w5.heap.size (.slice A1 i1 c1) l' ∧ Ch base (fun q => (Value.slice A1 i1 c1).ownBlock = some q) w7 wr)
        case atStart => exact ⟨0, _, by omega, rfl, HI1.out, G71.out, Ch.refl _ _ _⟩
        case round =>
          obtain ⟨j, l', hj, rfl, hl', gm, ch⟩ := hrel
          have GM := hide gm; have HLL := hide hl'; have CH := hide ch
          clear gm hl' ch
          by_cases hlt : j < i1
          · obtain ⟨g, rfl, _, own⟩ := GM.out.has (by rw [HLL.out]; omega)
            have OW := hide own
            obtain ⟨c0, f0⟩ := own.cell j (by rw [HLL.out]; exact hlt)
            obtain ⟨v, hv⟩ : ∃ v, l'.getD j 0 = v := ⟨_, rfl⟩
            rw [hv] at c0
            obtain ⟨u, hu, hul⟩ : ∃ u : Nat, IntKind.u8.wrap ((v : Int) + 3) = (u : Int) ∧ u < 256 := ⟨(v + 3) % 256, by show ((v : Int) + 3) % 256 = _; omega, by omega⟩
            clear own hv
            go_wp2
            go_roundg (i1 - j - 1)
            case measure => omega
            case rel => exact ⟨j + 1, l'.set j u, by omega, by go_num, by rw [List.length_set]; exact HLL.out, .inr ⟨g, c1, by rw [List.length_set, HLL.out], by rw [List.length_set]; exact OW.out.store j u hul (by rw [HLL.out]; exact hlt)⟩, CH.out.trans (Ch.set (by have := OW.out.base; omega) rfl)⟩
          · obtain rfl : j = i1 := by omega
            have P8 := hide (P7.out.wrote CH.out fun q hq => ⟨.inl (.inr (H1.out q hq)), by obtain ⟨_, _, cur, hc⟩ := G71.out.blk hq; exact ⟨cur, hc⟩⟩)
            have T8 := hide (show Pair wr base b b2 P h7 h2 ms7 ms2 S7 S from ⟨P8.out.box, T7.out.x2.ch (Xs := (fun k => ((w.heap.size ≤ k ∧ k < w3.heap.size) ∨ (w5.heap.size ≤ k ∧ k < w6.heap.size)) ∨ (w6.heap.size ≤ k ∧ k < w7.heap.size))) CH.out NX.out fun q _ hq => (by
              obtain ⟨_, _, cur, hc⟩ := G71.out.blk hq
              exact ⟨⟨_, _, hc, by decide⟩, .inl (.inl (.inr (H1.out q hq)))⟩), T7.out.nb, T7.out.nh⟩)
            have DR8 := hide ((CH.out.blk r3.blk (by have := CH.out.siz; omega) (fun e => by have := H1.out _ e; omega)).trans DR7.out)
            have OR8 := hide ((CH.out.blk w.heap.size (by have := CH.out.siz; omega) (fun e => by have := H1.out _ e; omega)).trans OR7.out)
            have B8 := hide (B7.out.trans CH.out.bel)
            have hz8 := CH.out.siz
            have G82 := hide (G72.out.kept fun q hq => CH.out.blk q (G72.out.blk hq).1 (fun e => by have h1 := H1.out _ e; have h2 := H2.out _ hq; omega))
            clear GM HLL CH hlt hj
            generalize wr = w8 at *
            go_wp2_with fail
            go_loopg [162] i2 (fun r i wr => ∃ (j : Nat) (l' : List Nat), j + r = i2 ∧ i = .int .i64 j ∧ l'.length = i2 ∧ GotB wr w6.heap.size (.slice A2 i2 c2) l' ∧ Ch base (fun q => (Value.slice A2 i2 c2).ownBlock = some q) w8 wr)
            case atStart => exact ⟨0, _, by omega, rfl, HI2.out, G82.out, Ch.refl _ _ _⟩
            case round =>
              obtain ⟨j, l', hj, rfl, hl', gm, ch⟩ := hrel
              have GM := hide gm; have HLL := hide hl'; have CH := hide ch
              clear gm hl' ch
              by_cases hlt : j < i2
              · obtain ⟨g, rfl, _, own⟩ := GM.out.has (by rw [HLL.out]; omega)
                have OW := hide own
                obtain ⟨c0, f0⟩ := own.cell j (by rw [HLL.out]; exact hlt)
                obtain ⟨v, hv⟩ : ∃ v, l'.getD j 0 = v := ⟨_, rfl⟩
                rw [hv] at c0
                obtain ⟨u, hu, hul⟩ : ∃ u : Nat, IntKind.u8.wrap ((v : Int) + 3) = (u : Int) ∧ u < 256 := ⟨(v + 3) % 256, by show ((v : Int) + 3) % 256 = _; omega, by omega⟩
                clear own hv
                go_wp2
                go_roundg (i2 - j - 1)
                case measure => omega
                case rel => exact ⟨j + 1, l'.set j u, by omega, by go_num, by rw [List.length_set]; exact HLL.out, .inr ⟨g, c2, by rw [List.length_set, HLL.out], by rw [List.length_set]; exact OW.out.store j u hul (by rw [HLL.out]; exact hlt)⟩, CH.out.trans (Ch.set (by have := OW.out.base; omega) rfl)⟩
              · obtain rfl : j = i2 := by omega
                have P9 := hide (P8.out.wrote CH.out fun q hq => ⟨.inr (H2.out q hq), by obtain ⟨_, _, cur, hc⟩ := G82.out.blk hq; exact ⟨cur, hc⟩⟩)
                have T9 := hide (show Pair wr base b b2 P h7 h2 ms7 ms2 S7 S from ⟨P9.out.box, T8.out.x2.ch (Xs := (fun k => ((w.heap.size ≤ k ∧ k < w3.heap.size) ∨ (w5.heap.size ≤ k ∧ k < w6.heap.size)) ∨ (w6.heap.size ≤ k ∧ k < w7.heap.size))) CH.out NX.out fun q _ hq => (by
                  obtain ⟨_, _, cur, hc⟩ := G82.out.blk hq
                  exact ⟨⟨_, _, hc, by decide⟩, .inl (.inr (H2.out q hq))⟩), T8.out.nb, T8.out.nh⟩)
                have DR9 := hide ((CH.out.blk r3.blk (by have := CH.out.siz; omega) (fun e => by have := H2.out _ e; omega)).trans DR8.out)
                have OR9 := hide ((CH.out.blk w.heap.size (by have := CH.out.siz; omega) (fun e => by have := H2.out _ e; omega)).trans OR8.out)
                have B9 := hide (B8.out.trans CH.out.bel)
                have hz9 := CH.out.siz
                clear GM HLL CH hlt hj
                generalize wr = w9 at *
                have hc := arrive_any P9.out.box OK.out l n (some ⟨r3.blk, 0, none⟩) r3.cap 5 (by omega) HL.out (MINE.out w9 DR9.out)
                obtain ⟨⟨c10, S10⟩, hR10⟩ : ∃ R, arriveF P S7 l 5 = R := ⟨_, rfl⟩
                rw [hR10] at hc
                clear hR10
                go_wp2_with fail
                refine hc.mono ?_
                rintro e w10 ⟨rfl, g⟩
                obtain ⟨h10, ms10, p10, k10⟩ := P9.out.went g (fun q hq => by rcases hq with (hq | hq) | hq <;> omega)
                have P10 := hide p10
                have T10 := hide (T9.out.with p10.box k10)
                have hz10 := k10.siz
                have DR10 := hide (P9.out.rowS k10 DR9.out (by decide) (by decide))
                have OR10 := hide (P9.out.rowS k10 OR9.out (by decide) (by decide))
                have B10 := hide (B9.out.trans k10.bel)
                clear hc g p10 k10 P9 T9
                have hc := arrive_any P10.out.box OK.out l n (some ⟨r3.blk, 0, none⟩) r3.cap 6 (by omega) HL.out (MINE.out w10 DR10.out)
                obtain ⟨⟨c11, S11⟩, hR11⟩ : ∃ R, arriveF P S10 l 6 = R := ⟨_, rfl⟩
                rw [hR11] at hc
                clear hR11
                go_wp2_with fail
                refine hc.mono ?_
                rintro e w11 ⟨rfl, g⟩
                obtain ⟨h11, ms11, p11, k11⟩ := P10.out.went g (fun q hq => by rcases hq with (hq | hq) | hq <;> omega)
                have P11 := hide p11
                have T11 := hide (T10.out.with p11.box k11)
                have DR11 := hide (P10.out.rowS k11 DR10.out (by decide) (by decide))
                have OR11 := hide (P10.out.rowS k11 OR10.out (by decide) (by decide))
                have B11 := hide (B10.out.trans k11.bel)
                clear hc g p11 k11 P10 T10
                go_wp2
                go_meet
                case rel =>
                  have pw := P11.out.wide (Xs' := fun k => w.heap.size ≤ k ∧ k < w3.heap.size) fun k _ e => .inl (.inl e)
                  exact ⟨b2, h2, ms2, hT, hW, tT, tW, S, rfl, rfl, ⟨T11.out.x2, pw.ref, pw.kept, fun m hm e => by have := M2.out m hm; omega, pw.xT, pw.xW⟩, LOST.out, by omega, B11.out, DR11.out.trans DR3.out.symm, OR11.out.trans R3.out.symm⟩
    · go_wp2
      go_meet
      case rel => exact ⟨b, h, ms, hT, hW, tT, tW, S, rfl, rfl, P3.out, LOST.out, by omega, B3.out.mono hbase, rfl, rfl⟩
  case rest =>
    obtain ⟨b', h', ms', hT', hW', tT', tW', S', rfl, rfl, pl, hlo, hln, hbw, hdat, hop⟩ := hcut
    have PL := hide pl; have HLO := hide hlo; have HBW := hide hbw
    have DAT := hide (HA3.out.kept hdat)
    have OP := hide (hop.trans R3.out)
    have x1 : wc.cell? ⟨w.heap.size, 1, none⟩ = some (.slice A n c) := by rw [cell_of_row _ _ _ _ _ _ OP.out]; rfl
    have hs7 := str_app7 l
    have hsz := str_size l
    rw [HL.out] at hsz
    have sto := str_of wc (some ⟨r3.blk, 0, none⟩) (n + 1) r3.cap (l ++ [7]) (by have h := OwnS.bytes DAT.out; rw [HT3.out] at h; exact h) (by simp; exact HL.out)
    have stb := str_of wc A n c l (HB0.out.of_below (B0.out.trans HBW.out) h00) HL.out
    clear pl hlo hbw hdat hop
    go_wp2_with fail
    go_loopg [193] (n + 1) (fun r i wr => ∃ (j : Nat) (dl : List Nat), j + r = n + 1 ∧ i = .int .i64 j ∧ OwnS wr w1.heap.size r3.blk (n + 1) r3.cap dl ∧ Ch base (fun k => k = r3.blk) wc wr)
    case atStart => exact ⟨0, r3.txt, by omega, rfl, by have h := DAT.out; unfold Rw.at at h; rw [hlt3] at h; exact h, Ch.refl _ _ _⟩
    case round =>
      clear x1 sto stb hs7 hsz
      obtain ⟨j, dl, hj, rfl, own, ch⟩ := hrel
      have OW := hide own; have CH := hide ch
      by_cases hlt : j < n + 1
      · obtain ⟨c0, f0⟩ := own.cell j hlt
        clear own ch
        go_wp2
        go_roundg (n + 1 - j - 1)
        case measure => omega
        case rel => exact ⟨j + 1, dl.set j 99, by omega, by go_num, OW.out.store j 99 (by omega) hlt, CH.out.trans (Ch.set (by have := OW.out.base; omega) rfl)⟩
      · obtain rfl : j = n + 1 := by omega
        clear own ch
        go_wp2
        go_ret2
        refine ⟨b', h', ms', hT', hW', tT', tW', S', rfl, (PL.out.wrote CH.out fun k e => ?_).wide fun _ _ e => absurd e id, HLO.out, hln, HBW.out.trans CH.out.bel⟩
        subst e
        obtain ⟨cur, h1, _⟩ := OwnS.row DAT.out
        exact ⟨⟨by have := OwnS.base DAT.out; omega, OwnS.blk HA3.out⟩, cur, h1⟩
end Go.Proofs.Ytdimllmbalponaa
