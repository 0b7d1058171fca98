/-
  A box of the document's own: Take and Recv.
-/
import Derived.Test.YtdimllmbalponaaRefCalls
namespace Go.Proofs.Ytdimllmbalponaa
open Go.RowKit Go.Shelf
set_option linter.unusedVariables false

section
variable {Xs : Nat → Prop} {base b : Nat} {P : Prm} {S : St} {w : World}

set_option maxRecDepth 100000 in
set_option maxHeartbeats 1000000 in
theorem ref_take (x : RefS w base b P S Xs) (hX : ∀ k, Xs k → k < w.heap.size) (ok : Okay P) :
    Calls Try.prog 17 #[.pointer (some ⟨b, 0, none⟩)] w fun e w' => ∃ v, e = .returned (.tuple #[v, .bool (takeF P S).1.2]) ∧ Got w w' v (takeF P S).1.1 ∧ RefS w' base b P (takeF P S).2 Xs ∧ KeepB base b w w' := by
  obtain ⟨h, rs, slot, y, hm, hsl, h0, h1⟩ := x.is
  have hbl := y.lt; have hlo := y.lo
  have c2 : w.cell? ⟨b, 2, none⟩ = some (.int .i64 P.d) := y.cell 2 _ rfl
  by_cases hd : P.d = 1
  · rw [hd] at c2
    rcases S with ⟨L, lost⟩
    have hsz := x.size; have hfw := x.few
    simp only at hm hsl y hsz hfw
    rcases rs with _ | ⟨r, rs⟩
    · simp only [List.map_nil] at hm
      have hL : L = [] := by cases L with | nil => rfl | cons a t => simp at hm
      subst hL
      rw [show takeF P ([], lost) = (([], false), ([], lost)) by simp [takeF, getF, hd]]
      have hc := ref_get0 y
      have X := hide x
      clear x y hm hsl
      go_enter Try.func17, Try.ntmps17
      go_wp2_with fail
      refine hc.mono ?_
      rintro e w' ⟨rfl, rfl⟩
      go_wp2
      go_ret2
      exact ⟨_, rfl, .inl ⟨rfl, rfl⟩, X.out, KeepB.of (Below.refl _ _) (by omega)⟩
    · obtain ⟨a, t, rfl⟩ : ∃ a t, L = a :: t := by
        cases L with
        | nil => simp at hm
        | cons a t => exact ⟨a, t, rfl⟩
      simp only [List.map_cons, List.cons.injEq] at hm
      rw [show takeF P (a :: t, lost) = ((a.1, true), (if P.k = 2 then t else a :: t, lost)) by simp [takeF, getF, hd]]
      have hlen : rs.length ≤ 500 := by have h1 := congrArg List.length hm.2; simp only [List.length_map] at h1; simp at hfw; omega
      have hc := ref_get y hX hlen (rs_sizes ok (S := (a :: t, lost)) (by simp [hm.1, hm.2]) hsz)
      rw [hm.1] at hc
      obtain ⟨L2, hL2⟩ : ∃ L2, (if P.k = 2 then t else a :: t) = L2 := ⟨_, rfl⟩
      rw [hL2]
      have HL2 := hide hL2
      clear hL2
      have HM := hide hm; have HSL := hide hsl; have HSZ := hide hsz; have HFW := hide hfw
      clear x y hm hsl hsz hfw hlen
      go_enter Try.func17, Try.ntmps17
      go_wp2_with fail
      refine hc.mono ?_
      rintro e w' ⟨v, rfl, gg, ⟨h', rs', y', hm'⟩, k⟩
      have G := hide gg; have HK := hide k
      have HR := hide (show RefS w' base b P (L2, lost) Xs from by
        rw [← HL2.out]
        refine ⟨⟨h', rs', slot, y', ?_, fun _ h => by omega, h0, h1⟩, ?_, ?_⟩
        · rw [hm']
          by_cases hk : P.k = 2
          · simp [hk, HM.out.2]
          · simp [hk, HM.out.1, HM.out.2]
        · intro x hx
          by_cases hk : P.k = 2
          · rw [if_pos hk] at hx; exact HSZ.out x (List.mem_cons_of_mem _ hx)
          · rw [if_neg hk] at hx; exact HSZ.out x hx
        · have h9 := HFW.out
          simp only [List.length_cons] at h9
          by_cases hk : P.k = 2
          · simp [hk]; omega
          · simp [hk]; omega)
      clear hc gg y' hm' k
      go_wp2
      go_ret2
      exact ⟨v, rfl, G.out, HR.out, HK.out⟩
  · rw [show takeF P S = (([], false), S) by simp only [takeF]; rw [if_pos hd]]
    have X := hide x
    clear x y hm hsl
    go_enter Try.func17, Try.ntmps17
    go_wp2
    go_ret2
    exact ⟨_, rfl, .inl ⟨rfl, rfl⟩, X.out, KeepB.of (Below.refl _ _) (by omega)⟩

set_option maxRecDepth 100000 in
set_option maxHeartbeats 2000000 in
theorem ref_recv (x : RefS w base b P S Xs) (hX : ∀ k, Xs k → k < w.heap.size) (ok : Okay P) (hlost : S.2 = true → P.k = 2) (z : Int) (hz : z ≤ 9223372036854775807) :
    Calls Try.prog 22 #[.pointer (some ⟨b, 0, none⟩), .int .i64 z] w fun e w' => ∃ v, e = .returned (.tuple #[v, .int .i64 (recvF P S z).1.2]) ∧ Got w w' v (recvF P S z).1.1 ∧ RefS w' base b P (recvF P S z).2 Xs ∧ KeepB base b w w' := by
  obtain ⟨h, rs, slot, y, hm, hsl, h0, h1⟩ := x.is
  have hbl := y.lt; have hlo := y.lo
  have c2 : w.cell? ⟨b, 2, none⟩ = some (.int .i64 P.d) := y.cell 2 _ rfl
  by_cases hd : P.d = 2
  · rw [hd] at c2
    by_cases hz0 : z < 0
    · rw [show recvF P S z = (([], 2), S) by simp only [recvF]; rw [if_neg (by simpa using hd), if_pos hz0]]
      have X := hide x
      clear x y hm hsl
      go_enter Try.func22, Try.ntmps22
      go_wp2
      go_ret2
      exact ⟨_, rfl, .inl ⟨rfl, rfl⟩, X.out, KeepB.of (Below.refl _ _) (by omega)⟩
    · have hz1 : 0 ≤ z := by omega
      rw [show recvF P S z = getF P S z by simp only [recvF]; rw [if_neg (by simpa using hd), if_neg hz0]]
      rcases S with ⟨L, lost⟩
      have hsz := x.size; have hfw := x.few
      simp only at hm hsl y hsz hfw hlost
      have c8 : w.cell? ⟨b, 8, none⟩ = some (.bool lost) := y.cell 8 _ rfl
      have f8 := y.free 8
      rcases lost with _ | _
      · rcases rs with _ | ⟨r, rs⟩
        · simp only [List.map_nil] at hm
          have hL : L = [] := by cases L with | nil => rfl | cons a t => simp at hm
          subst hL
          rw [show getF P ([], false) z = (([], 42), ([], false)) by simp [getF]]
          obtain ⟨A0, c0, rfl, _, _⟩ := y.rws.len
          have c6 : w.cell? ⟨b, 6, none⟩ = some (.slice A0 0 c0) := y.cell 6 _ rfl
          have X := hide x
          clear x y hm hsl f8
          go_enter Try.func22, Try.ntmps22
          go_wp2
          go_ret2
          exact ⟨_, rfl, .inl ⟨rfl, rfl⟩, X.out, KeepB.of (Below.refl _ _) (by omega)⟩
        · obtain ⟨a, t, rfl⟩ : ∃ a t, L = a :: t := by
            cases L with
            | nil => simp at hm
            | cons a t => exact ⟨a, t, rfl⟩
          simp only [List.map_cons, List.cons.injEq] at hm
          have hlen : rs.length ≤ 500 := by have h1 := congrArg List.length hm.2; simp only [List.length_map] at h1; simp at hfw; omega
          obtain ⟨g6, cap6, rfl, hc0, hc1, _⟩ := y.rws.head
          have c6 : w.cell? ⟨b, 6, none⟩ = some (.slice (some ⟨g6, 0, none⟩) (rs.length + 1) cap6) := y.cell 6 _ rfl
          have c1 : w.cell? ⟨b, 1, none⟩ = some (.int .i64 P.k) := y.cell 1 _ rfl
          have c5 : w.cell? ⟨b, 5, none⟩ = some (.int .i64 P.f) := y.cell 5 _ rfl
          have c7 : w.cell? ⟨b, 7, none⟩ = some (.int .i64 slot) := y.cell 7 _ rfl
          have hgf : getF P (a :: t, false) z = if P.k = 1 ∧ P.d = 2 ∧ P.f ≤ z - a.2 then (([], 43), (a :: t, false)) else ((a.1, 0), (if P.k = 2 then t else a :: t, false)) := by simp [getF]
          obtain ⟨L2, hL2⟩ : ∃ L2, (if P.k = 2 then t else a :: t) = L2 := ⟨_, rfl⟩
          rw [hL2] at hgf
          have HL2 := hide hL2
          clear hL2
          have wr1 : IntKind.i64.wrap (z - slot) = z - slot := by rw [IntKind.wrap_i64]; omega
          have HM := hide hm; have HSL := hide hsl; have HSZ := hide hsz; have HFW := hide hfw
          have X := hide x; have Y := hide y; have HLEN := hide hlen
          have hsz0 := hide (rs_sizes ok (S := (a :: t, false)) (rs := r :: rs) (by simp [hm.1, hm.2]) hsz)
          have good : ∀ (w' : World) (h' : Value) (rs' : List Rw), RefW w' base b P h' rs' slot false Xs → rs'.map Rw.txt = (if P.k = 2 then rs else r :: rs).map Rw.txt → RefS w' base b P (L2, false) Xs := by
            intro w' h' rs' y' hm'
            rw [← HL2.out]
            refine ⟨⟨h', rs', slot, y', ?_, fun hk1 hd2 x hx => ?_, h0, h1⟩, ?_, ?_⟩
            · rw [hm']
              by_cases hk : P.k = 2
              · simp [hk, HM.out.2]
              · simp [hk, HM.out.1, HM.out.2]
            · have hk2 : ¬ P.k = 2 := by omega
              simp only [if_neg hk2] at hx
              exact HSL.out hk1 hd2 x hx
            · intro x hx
              by_cases hk : P.k = 2
              · simp only [if_pos hk] at hx; exact HSZ.out x (List.mem_cons_of_mem _ hx)
              · simp only [if_neg hk] at hx; exact HSZ.out x hx
            · have h9 := HFW.out
              simp only [List.length_cons] at h9
              by_cases hk : P.k = 2
              · simp [hk]; omega
              · simp [hk]; omega
          have GOOD := hide good
          clear x y hm hsl hsz hfw hlen f8 good
          by_cases hk : P.k = 2
          · rw [hgf, if_neg (by omega)]
            rw [hk] at c1
            clear hgf
            go_enter Try.func22, Try.ntmps22
            go_wp2_with fail
            go_quiet (fail)
            have Y2 := hide (Y.out.later (W' := w.drewN nq) (below_drewN (Below.refl _ _) nq))
            have B2 := hide (below_drewN (Below.refl w.heap.size w) nq)
            have hc := ref_get Y2.out (fun k hk => Nat.lt_of_lt_of_le (hX k hk) B2.out.size) HLEN.out hsz0.out
            rw [HM.out.1] at hc
            clear c1 c5 c6 c7 c8 c2
            generalize w.drewN nq = w2 at Y2 B2 hc ⊢
            go_wp2_with fail
            refine hc.mono ?_
            rintro e w' ⟨v, rfl, gg, ⟨h', rs', y', hm'⟩, k⟩
            have hzz := B2.out.size
            have G := hide (show Got w w' v a.1 from by
              rcases gg with ⟨h1, h2⟩ | ⟨q, c, h1, h2⟩
              · exact .inl ⟨h1, h2⟩
              · exact .inr ⟨q, c, h1, h2.from (Nat.le_trans hzz h2.base)⟩)
            have HK := hide ((KeepB.of (b := b) B2.out (by omega : base ≤ w.heap.size)).trans k)
            have HR := hide (GOOD.out w' h' rs' y' hm')
            clear hc gg y' hm' k
            go_wp2
            go_ret2
            exact ⟨v, rfl, G.out, HR.out, HK.out⟩
          · have hk1 : P.k = 1 := by rcases kinds_of ok with h | h <;> omega
            have has : a.2 = slot := HSL.out hk1 hd a (List.mem_cons_self ..)
            have hf1 : 1 ≤ P.f := by
              rcases ok.is with ⟨_, h, _⟩ | ⟨_, _, _, _, h, _⟩ | ⟨h, _⟩ | ⟨h, _⟩
              · omega
              · exact h
              · omega
              · omega
            rw [hk1] at c1
            by_cases hst : P.f ≤ z - slot
            · rw [hgf, if_pos ⟨hk1, hd, by rw [has]; exact hst⟩]
              have hzs : slot ≤ z := by omega
              clear hgf has
              go_enter Try.func22, Try.ntmps22
              go_wp2_with fail
              go_quiet (fail)
              have X2 := hide (X.out.later (W' := w.drewN nq) (below_drewN (Below.refl _ _) nq))
              have B2 := hide (below_drewN (Below.refl w.heap.size w) nq)
              go_wp2
              go_ret2
              exact ⟨_, rfl, .inl ⟨rfl, rfl⟩, X2.out, KeepB.of B2.out (by omega)⟩
            · rw [hgf, if_neg (fun h => hst (by have := h.2.2; rw [has] at this; exact this))]
              have hst2 : z - slot < P.f := by omega
              clear hgf has hst
              by_cases hzs : slot ≤ z
              · have dd1 : decide (P.f ≤ z - slot) = false := decide_eq_false (by omega)
                go_enter Try.func22, Try.ntmps22
                go_wp2_with fail
                go_quiet (fail)
                have Y2 := hide (Y.out.later (W' := w.drewN nq) (below_drewN (Below.refl _ _) nq))
                have B2 := hide (below_drewN (Below.refl w.heap.size w) nq)
                have hc := ref_get Y2.out (fun k hk => Nat.lt_of_lt_of_le (hX k hk) B2.out.size) HLEN.out hsz0.out
                rw [HM.out.1] at hc
                clear c1 c5 c6 c7 c8 c2
                generalize w.drewN nq = w2 at Y2 B2 hc ⊢
                go_wp2_with fail
                refine hc.mono ?_
                rintro e w' ⟨v, rfl, gg, ⟨h', rs', y', hm'⟩, k⟩
                have hzz := B2.out.size
                have G := hide (show Got w w' v a.1 from by
                  rcases gg with ⟨h1, h2⟩ | ⟨q, c, h1, h2⟩
                  · exact .inl ⟨h1, h2⟩
                  · exact .inr ⟨q, c, h1, h2.from (Nat.le_trans hzz h2.base)⟩)
                have HK := hide ((KeepB.of (b := b) B2.out (by omega : base ≤ w.heap.size)).trans k)
                have HR := hide (GOOD.out w' h' rs' y' hm')
                clear hc gg y' hm' k
                go_wp2
                go_ret2
                exact ⟨v, rfl, G.out, HR.out, HK.out⟩
              · have dd2 : decide (slot ≤ z) = false := decide_eq_false hzs
                go_enter Try.func22, Try.ntmps22
                go_wp2_with fail
                go_quiet (fail)
                have Y2 := hide (Y.out.later (W' := w.drewN nq) (below_drewN (Below.refl _ _) nq))
                have B2 := hide (below_drewN (Below.refl w.heap.size w) nq)
                have hc := ref_get Y2.out (fun k hk => Nat.lt_of_lt_of_le (hX k hk) B2.out.size) HLEN.out hsz0.out
                rw [HM.out.1] at hc
                clear c1 c5 c6 c7 c8 c2
                generalize w.drewN nq = w2 at Y2 B2 hc ⊢
                go_wp2_with fail
                refine hc.mono ?_
                rintro e w' ⟨v, rfl, gg, ⟨h', rs', y', hm'⟩, k⟩
                have hzz := B2.out.size
                have G := hide (show Got w w' v a.1 from by
                  rcases gg with ⟨h1, h2⟩ | ⟨q, c, h1, h2⟩
                  · exact .inl ⟨h1, h2⟩
                  · exact .inr ⟨q, c, h1, h2.from (Nat.le_trans hzz h2.base)⟩)
                have HK := hide ((KeepB.of (b := b) B2.out (by omega : base ≤ w.heap.size)).trans k)
                have HR := hide (GOOD.out w' h' rs' y' hm')
                clear hc gg y' hm' k
                go_wp2
                go_ret2
                exact ⟨v, rfl, G.out, HR.out, HK.out⟩
      · rw [show getF P (L, true) z = (([], 44), (L, false)) by simp [getF, hd, hlost rfl]]
        have HR := hide (show RefS (w.setCell ⟨b, 8, none⟩ (.bool false)) base b P (L, false) Xs from ⟨⟨h, rs, slot, y.setLost false, hm, hsl, h0, h1⟩, hsz, hfw⟩)
        have HK := hide ((KeepB.of (b := b) (Below.refl _ w) (by omega : base ≤ w.heap.size)).set hlo 8 (.bool false))
        clear x y hm hsl
        go_enter Try.func22, Try.ntmps22
        go_wp2
        go_ret2
        exact ⟨_, rfl, .inl ⟨rfl, rfl⟩, HR.out, HK.out⟩
  · rw [show recvF P S z = (([], 40), S) by simp only [recvF]; rw [if_pos hd]]
    have X := hide x
    clear x y hm hsl
    go_enter Try.func22, Try.ntmps22
    go_wp2
    go_ret2
    exact ⟨_, rfl, .inl ⟨rfl, rfl⟩, X.out, KeepB.of (Below.refl _ _) (by omega)⟩
end
end Go.Proofs.Ytdimllmbalponaa
