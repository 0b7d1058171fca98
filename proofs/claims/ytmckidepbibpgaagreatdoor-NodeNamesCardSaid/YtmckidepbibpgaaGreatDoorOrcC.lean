/-
  config.Check at its word: a configuration in the run's memory, read off, and what Check says of it.
-/
import Derived.Test.YtmckidepbibpgaaGreatDoorChkP
import Derived.Test.YtmckidepbibpgaaGreatDoorEvE
namespace Go.Proofs.YtmckidepbibpgaaGreatDoor
open Go.RowKit Go.Deep Go.Proofs.YtmckidepbibpgaaGreatDoor.Ev
set_option linter.unusedVariables false
set_option linter.unusedSimpArgs false

noncomputable def asI : AV → Option Int
  | .i .i64 n => if inB n (-9223372036854775808) 9223372036854775807 = true then some n else none
  | _ => none
theorem asI_some {v : AV} {n : Int} (h : asI v = some n) : v = .i .i64 n ∧ I64 n := by
  unfold asI at h
  split at h
  · split at h
    · rename_i m hb
      cases h
      simp only [inB, Bool.and_eq_true, decide_eq_true_eq] at hb
      exact ⟨rfl, hb.1, hb.2⟩
    · cases h
  · cases h

noncomputable def capA (op : Bool) : Cp → Bool | .k n => decide (n ≤ 9223372036854775807) | .o _ => op
noncomputable def cellsA (σ : AW) (k : Nat) : AV → Option (List AV)
  | .sn => some []
  | .sl r o len c => (match rowOf σ r with | some (cs, _, op) => if capA op c = true then getRange cs o (len * k) else none | none => none)
  | _ => none
noncomputable def numsA : List AV → Option (List Int)
  | [] => some []
  | v :: l => (asI v).bind fun x => (numsA l).bind fun m => some (x :: m)
noncomputable def intsA (σ : AW) (v : AV) : Option (List Int) := (cellsA σ 1 v).bind numsA
noncomputable def ptsA : List AV → Option (List Pt)
  | [] => some []
  | a :: b :: c :: l => (asI a).bind fun x => (asI b).bind fun y => (asI c).bind fun z => (ptsA l).bind fun m => some (⟨x, y, z⟩ :: m)
  | _ => none
noncomputable def posA : List AV → Option (List Po)
  | [] => some []
  | a :: b :: c :: d :: e :: f :: l => (asI a).bind fun x => (asI b).bind fun y => (asI c).bind fun z => (asI d).bind fun u => (asI e).bind fun v => (asI f).bind fun w => (posA l).bind fun m => some (⟨x, y, z, u, v, w⟩ :: m)
  | _ => none
noncomputable def rowsA (σ : AW) : List AV → Option (List (List Int))
  | [] => some []
  | v :: l => (intsA σ v).bind fun x => (rowsA σ l).bind fun m => some (x :: m)
noncomputable def lksA (σ : AW) : List AV → Option (List Lk)
  | [] => some []
  | a :: v :: b :: l => (asI a).bind fun x => (intsA σ v).bind fun d => (asI b).bind fun y => (lksA σ l).bind fun m => some (⟨x, d, y⟩ :: m)
  | _ => none

noncomputable def confL (σ : AW) (l : List AV) : Option Conf :=
  if l.length = 12 then
    (asI (nthA l 0)).bind fun n => (intsA σ (nthA l 1)).bind fun ow => (asI (nthA l 2)).bind fun dr => (asI (nthA l 3)).bind fun rd => (asI (nthA l 4)).bind fun mg => (asI (nthA l 5)).bind fun bd => (asI (nthA l 6)).bind fun rj => (asI (nthA l 7)).bind fun qt =>
    ((cellsA σ 3 (nthA l 8)).bind ptsA).bind fun ps => ((cellsA σ 1 (nthA l 9)).bind (rowsA σ)).bind fun ws => ((cellsA σ 6 (nthA l 10)).bind posA).bind fun qs => ((cellsA σ 3 (nthA l 11)).bind (lksA σ)).bind fun ls =>
    some ⟨n, ow, dr, rd, mg, bd, rj, qt, ps, ws, qs, ls⟩
  else none

section
variable {W : World} {θ : Nat → Ent} {σ : AW} {w : World}

theorem slice_cells (hR : Rel Tryz.prog W θ σ w) {v : AV} {k n : Nat} {cs : List AV} (hV : V θ σ.n v) (h : cellsA σ k v = some cs) (hk : 0 < k) (hn : cs.length = n * k) :
    ∃ A C, conc θ v = .slice A n C ∧ n ≤ C ∧ C ≤ maxLen ∧ Vs θ σ.n cs ∧ (n = 0 ∨ ∃ b off, A = some ⟨b, off, none⟩ ∧ b < w.heap.size ∧ ∀ (j : Nat) (x : AV), cs[j]? = some x → w.cell? ⟨b, off + j, none⟩ = some (conc θ x)) := by
  unfold cellsA at h
  split at h
  · cases h
    have : n = 0 := by
      rcases Nat.eq_zero_or_pos n with h0 | h0
      · exact h0
      · have := Nat.mul_pos h0 hk
        simp at hn; omega
    subst this
    exact ⟨none, 0, by simp [conc], Nat.le_refl _, Nat.zero_le _, by simp [Vs], .inl rfl⟩
  · rename_i r o len c
    split at h
    · rename_i cs0 e op hrow
      split at h
      · rename_i hc
        obtain ⟨a1, a2, a3, a4⟩ := hR.cells hrow h
        obtain ⟨b1, b2, c0, fz, b3, b4, b5, b6⟩ := hR.row hrow
        have : n = len := Nat.eq_of_mul_eq_mul_right hk (hn.symm.trans a3)
        subst this
        simp only [V] at hV
        refine ⟨some ⟨(θ r).blk, o, none⟩, capC (θ r) c, by simp [conc], hV.2, ?_, a1, .inr ⟨_, _, rfl, (hR.blk r b1).2, fun j x hj => a4 j _ (by rw [concs_map, List.getElem?_map, hj]; rfl)⟩⟩
        cases c with
        | k m => simpa [capC, capA, maxLen] using hc
        | o d =>
          have := (b6 hc).2.1
          simp only [capC]; omega
      · cases h
    · cases h
  · cases h

theorem numsA_some : ∀ {cs : List AV} {L : List Int}, numsA cs = some L → cs.length = L.length ∧ (∀ z ∈ L, I64 z) ∧ ∀ i, i < L.length → cs[i]? = some (.i .i64 (L.getD i 0))
  | [], L, h => by simp only [numsA] at h; cases h; simp
  | v :: l, L, h => by
    simp only [numsA, Option.bind_eq_some_iff, Option.some.injEq] at h
    obtain ⟨x, hx, m, hm, rfl⟩ := h
    obtain ⟨rfl, hi⟩ := asI_some hx
    obtain ⟨h1, h2, h3⟩ := numsA_some hm
    refine ⟨by simp [h1], fun z hz => ?_, fun i hi => ?_⟩
    · rcases List.mem_cons.1 hz with rfl | hz
      · exact hi
      · exact h2 z hz
    · cases i with
      | zero => simp
      | succ i => simpa using h3 i (by simpa using hi)

theorem intsA_some (hR : Rel Tryz.prog W θ σ w) {v : AV} {L : List Int} (hV : V θ σ.n v) (h : intsA σ v = some L) : ∃ A C, conc θ v = .slice A L.length C ∧ L.length ≤ C ∧ C ≤ maxLen ∧ Ints w A L := by
  unfold intsA at h
  simp only [Option.bind_eq_some_iff] at h
  obtain ⟨cs, h1, h2⟩ := h
  obtain ⟨a1, a2, a3⟩ := numsA_some h2
  obtain ⟨A, C, b1, b2, b3, b4, b5⟩ := slice_cells (n := L.length) hR hV h1 (by omega) (by omega)
  refine ⟨A, C, b1, b2, b3, a2, ?_⟩
  rcases b5 with b5 | ⟨b, off, rfl, hb, hc⟩
  · exact .inl b5
  · refine .inr ⟨b, off, rfl, hb, fun i hi => ?_⟩
    have := hc i _ (a3 i hi)
    simpa [conc] using this

theorem ptsA_some : ∀ {cs : List AV} {L : List Pt}, ptsA cs = some L → cs.length = L.length * 3 ∧ (∀ p ∈ L, I64 p.node ∧ I64 p.lo ∧ I64 p.hi) ∧
    ∀ i, i < L.length → cs[i * 3]? = some (.i .i64 (L.getD i default).node) ∧ cs[i * 3 + 1]? = some (.i .i64 (L.getD i default).lo) ∧ cs[i * 3 + 2]? = some (.i .i64 (L.getD i default).hi)
  | [], L, h => by simp only [ptsA] at h; cases h; simp
  | [_], L, h => by simp [ptsA] at h
  | [_, _], L, h => by simp [ptsA] at h
  | a :: b :: c :: l, L, h => by
    simp only [ptsA, Option.bind_eq_some_iff, Option.some.injEq] at h
    obtain ⟨x, hx, y, hy, z, hz, m, hm, rfl⟩ := h
    obtain ⟨rfl, i1⟩ := asI_some hx
    obtain ⟨rfl, i2⟩ := asI_some hy
    obtain ⟨rfl, i3⟩ := asI_some hz
    obtain ⟨h1, h2, h3⟩ := ptsA_some hm
    refine ⟨by simp [h1]; omega, fun p hp => ?_, fun i hi => ?_⟩
    · rcases List.mem_cons.1 hp with rfl | hp
      · exact ⟨i1, i2, i3⟩
      · exact h2 p hp
    · cases i with
      | zero => simp
      | succ i =>
        have e : (i + 1) * 3 = i * 3 + 3 := by omega
        obtain ⟨k1, k2, k3⟩ := h3 i (by simpa using hi)
        rw [e]
        exact ⟨by simpa using k1, by simpa using k2, by simpa using k3⟩

theorem posA_some : ∀ {cs : List AV} {L : List Po}, posA cs = some L → cs.length = L.length * 6 ∧ (∀ p ∈ L, I64 p.part ∧ I64 p.kind ∧ I64 p.dir ∧ I64 p.size ∧ I64 p.depth ∧ I64 p.fresh) ∧
    ∀ i, i < L.length → cs[i * 6]? = some (.i .i64 (L.getD i default).part) ∧ cs[i * 6 + 1]? = some (.i .i64 (L.getD i default).kind) ∧ cs[i * 6 + 2]? = some (.i .i64 (L.getD i default).dir) ∧
      cs[i * 6 + 3]? = some (.i .i64 (L.getD i default).size) ∧ cs[i * 6 + 4]? = some (.i .i64 (L.getD i default).depth) ∧ cs[i * 6 + 5]? = some (.i .i64 (L.getD i default).fresh)
  | [], L, h => by simp only [posA] at h; cases h; simp
  | [_], L, h => by simp [posA] at h
  | [_, _], L, h => by simp [posA] at h
  | [_, _, _], L, h => by simp [posA] at h
  | [_, _, _, _], L, h => by simp [posA] at h
  | [_, _, _, _, _], L, h => by simp [posA] at h
  | a :: b :: c :: d :: e :: f :: l, L, h => by
    simp only [posA, Option.bind_eq_some_iff, Option.some.injEq] at h
    obtain ⟨x, hx, y, hy, z, hz, u, hu, v, hv, w, hw, m, hm, rfl⟩ := h
    obtain ⟨rfl, i1⟩ := asI_some hx
    obtain ⟨rfl, i2⟩ := asI_some hy
    obtain ⟨rfl, i3⟩ := asI_some hz
    obtain ⟨rfl, i4⟩ := asI_some hu
    obtain ⟨rfl, i5⟩ := asI_some hv
    obtain ⟨rfl, i6⟩ := asI_some hw
    obtain ⟨h1, h2, h3⟩ := posA_some hm
    refine ⟨by simp [h1]; omega, fun p hp => ?_, fun i hi => ?_⟩
    · rcases List.mem_cons.1 hp with rfl | hp
      · exact ⟨i1, i2, i3, i4, i5, i6⟩
      · exact h2 p hp
    · cases i with
      | zero => simp
      | succ i =>
        have e : (i + 1) * 6 = i * 6 + 6 := by omega
        obtain ⟨k1, k2, k3, k4, k5, k6⟩ := h3 i (by simpa using hi)
        rw [e]
        exact ⟨by simpa using k1, by simpa using k2, by simpa using k3, by simpa using k4, by simpa using k5, by simpa using k6⟩

theorem rowsA_some (hR : Rel Tryz.prog W θ σ w) : ∀ {cs : List AV} {L : List (List Int)}, Vs θ σ.n cs → rowsA σ cs = some L → cs.length = L.length ∧
    ∀ i, i < L.length → ∃ v Ai ci, cs[i]? = some v ∧ conc θ v = .slice Ai (L.getD i []).length ci ∧ (L.getD i []).length ≤ ci ∧ ci ≤ maxLen ∧ Ints w Ai (L.getD i [])
  | [], L, hV, h => by simp only [rowsA] at h; cases h; simp
  | v :: l, L, hV, h => by
    simp only [rowsA, Option.bind_eq_some_iff, Option.some.injEq] at h
    obtain ⟨x, hx, m, hm, rfl⟩ := h
    simp only [Vs] at hV
    obtain ⟨A, C, a1, a2, a3, a4⟩ := intsA_some hR hV.1 hx
    obtain ⟨h1, h2⟩ := rowsA_some hR hV.2 hm
    refine ⟨by simp [h1], fun i hi => ?_⟩
    cases i with
    | zero => exact ⟨v, A, C, by simp, by simpa using a1, by simpa using a2, a3, by simpa using a4⟩
    | succ i =>
      obtain ⟨u, Ai, ci, k1, k2, k3, k4, k5⟩ := h2 i (by simpa using hi)
      exact ⟨u, Ai, ci, by simpa using k1, by simpa using k2, by simpa using k3, k4, by simpa using k5⟩

theorem lksA_some (hR : Rel Tryz.prog W θ σ w) : ∀ {cs : List AV} {L : List Lk}, Vs θ σ.n cs → lksA σ cs = some L → cs.length = L.length * 3 ∧ (∀ p ∈ L, I64 p.source ∧ I64 p.offset) ∧
    ∀ i, i < L.length → ∃ v Ai ci, cs[i * 3]? = some (.i .i64 (L.getD i default).source) ∧ cs[i * 3 + 1]? = some v ∧ cs[i * 3 + 2]? = some (.i .i64 (L.getD i default).offset) ∧
      conc θ v = .slice Ai (L.getD i default).dests.length ci ∧ (L.getD i default).dests.length ≤ ci ∧ ci ≤ maxLen ∧ Ints w Ai (L.getD i default).dests
  | [], L, hV, h => by simp only [lksA] at h; cases h; simp
  | [_], L, hV, h => by simp [lksA] at h
  | [_, _], L, hV, h => by simp [lksA] at h
  | a :: v :: b :: l, L, hV, h => by
    simp only [lksA, Option.bind_eq_some_iff, Option.some.injEq] at h
    obtain ⟨x, hx, d, hd, y, hy, m, hm, rfl⟩ := h
    simp only [Vs] at hV
    obtain ⟨rfl, i1⟩ := asI_some hx
    obtain ⟨rfl, i2⟩ := asI_some hy
    obtain ⟨A, C, a1, a2, a3, a4⟩ := intsA_some hR hV.2.1 hd
    obtain ⟨h1, h2, h3⟩ := lksA_some hR hV.2.2.2 hm
    refine ⟨by simp [h1]; omega, fun p hp => ?_, fun i hi => ?_⟩
    · rcases List.mem_cons.1 hp with rfl | hp
      · exact ⟨i1, i2⟩
      · exact h2 p hp
    · cases i with
      | zero => exact ⟨v, A, C, by simp, by simp, by simp, by simpa using a1, by simpa using a2, a3, by simpa using a4⟩
      | succ i =>
        have e : (i + 1) * 3 = i * 3 + 3 := by omega
        obtain ⟨u, Ai, ci, k1, k2, k3, k4, k5, k6, k7⟩ := h3 i (by simpa using hi)
        rw [e]
        exact ⟨u, Ai, ci, by simpa using k1, by simpa using k2, by simpa using k3, by simpa using k4, by simpa using k5, k6, by simpa using k7⟩

theorem confL_some (hR : Rel Tryz.prog W θ σ w) {l : List AV} {c : Conf} (hV : Vs θ σ.n l) (h : confL σ l = some c) : ∃ d, conc θ (.agg l) = c.val d ∧ ConfAt w c d := by
  unfold confL at h
  split at h
  · rename_i hl
    match l, hl with
    | [a0, a1, a2, a3, a4, a5, a6, a7, a8, a9, a10, a11], _ =>
      simp only [nthA_eq, List.getD_cons_zero, List.getD_cons_succ, Option.bind_eq_some_iff, Option.some.injEq] at h
      obtain ⟨z0, h0, l1, h1, z2, h2, z3, h3, z4, h4, z5, h5, z6, h6, z7, h7, l8, ⟨c8, g8, h8⟩, l9, ⟨c9, g9, h9⟩, l10, ⟨c10, g10, h10⟩, l11, ⟨c11, g11, h11⟩, rfl⟩ := h
      simp only [Vs] at hV
      obtain ⟨v0, v1, v2, v3, v4, v5, v6, v7, v8, v9, v10, v11, _⟩ := hV
      obtain ⟨rfl, i0⟩ := asI_some h0
      obtain ⟨rfl, i2⟩ := asI_some h2
      obtain ⟨rfl, i3⟩ := asI_some h3
      obtain ⟨rfl, i4⟩ := asI_some h4
      obtain ⟨rfl, i5⟩ := asI_some h5
      obtain ⟨rfl, i6⟩ := asI_some h6
      obtain ⟨rfl, i7⟩ := asI_some h7
      obtain ⟨A1, C1, p1, q1, r1, s1⟩ := intsA_some hR v1 h1
      obtain ⟨n8, m8, k8⟩ := ptsA_some h8
      obtain ⟨A8, C8, p8, q8, r8, _, s8⟩ := slice_cells (n := l8.length) hR v8 g8 (by omega) n8
      have hn9 : c9.length = l9.length := by
        clear s1 k8 s8 n8 m8
        have hv9 : ∀ {cs : List AV} {L : List (List Int)}, rowsA σ cs = some L → cs.length = L.length := by
          intro cs
          induction cs with
          | nil => intro L h; simp only [rowsA] at h; cases h; rfl
          | cons v l ih =>
            intro L h
            simp only [rowsA, Option.bind_eq_some_iff, Option.some.injEq] at h
            obtain ⟨x, hx, m, hm, rfl⟩ := h
            simp [ih hm]
        exact hv9 h9
      obtain ⟨A9, C9, p9, q9, r9, u9, s9⟩ := slice_cells (n := l9.length) hR v9 g9 (by omega) (by omega)
      obtain ⟨n9, k9⟩ := rowsA_some hR u9 h9
      obtain ⟨n10, m10, k10⟩ := posA_some h10
      obtain ⟨A10, C10, p10, q10, r10, _, s10⟩ := slice_cells (n := l10.length) hR v10 g10 (by omega) n10
      have hn11 : c11.length = l11.length * 3 := by
        have hv : ∀ (n : Nat) {cs : List AV} {L : List Lk}, cs.length ≤ n → lksA σ cs = some L → cs.length = L.length * 3 := by
          intro n
          induction n with
          | zero => intro cs L hn h; cases cs with
            | nil => simp only [lksA] at h; cases h; rfl
            | cons _ _ => simp at hn
          | succ n ih =>
            intro cs L hn h
            match cs, h, hn with
            | [], h, _ => simp only [lksA] at h; cases h; rfl
            | [_], h, _ => simp [lksA] at h
            | [_, _], h, _ => simp [lksA] at h
            | a :: v :: b :: l, h, hn =>
              simp only [lksA, Option.bind_eq_some_iff, Option.some.injEq] at h
              obtain ⟨x, hx, d, hd, y, hy, m, hm, rfl⟩ := h
              have := ih (by simp at hn; omega) hm
              simp [this]; omega
        exact hv _ (Nat.le_refl _) h11
      obtain ⟨A11, C11, p11, q11, r11, u11, s11⟩ := slice_cells (n := l11.length) hR v11 g11 (by omega) hn11
      obtain ⟨n11, m11, k11⟩ := lksA_some hR u11 h11
      refine ⟨⟨A1, C1, A8, C8, A9, C9, A10, C10, A11, C11⟩, ?_, { nodes := i0, drift := i2, reading := i3, margin := i4, bound := i5, rejoin := i6, quota := i7, owners := s1, parts := ⟨m8, ?_⟩, windows := ?_, ports := ⟨m10, ?_⟩, links := ⟨m11, ?_⟩, oLen := ⟨q1, r1⟩, pLen := ⟨q8, r8⟩, wLen := ⟨q9, r9⟩, qLen := ⟨q10, r10⟩, lLen := ⟨q11, r11⟩ }⟩
      · simp [conc, concs, Conf.val, p1, p8, p9, p10, p11]
      · rcases s8 with s | ⟨b, off, e, hb, hc⟩
        · exact .inl s
        · refine .inr ⟨b, off, e, hb, fun i hi => ?_⟩
          obtain ⟨x1, x2, x3⟩ := k8 i hi
          exact ⟨by simpa [conc] using hc _ _ x1, by simpa [conc, Nat.add_assoc] using hc _ _ x2, by simpa [conc, Nat.add_assoc] using hc _ _ x3⟩
      · rcases s9 with s | ⟨b, off, e, hb, hc⟩
        · exact .inl s
        · refine .inr ⟨b, off, e, hb, fun i hi => ?_⟩
          obtain ⟨v, Ai, ci, x1, x2, x3, x4, x5⟩ := k9 i hi
          exact ⟨Ai, ci, by have := hc _ _ x1; rw [x2] at this; simpa using this, x3, x4, x5⟩
      · rcases s10 with s | ⟨b, off, e, hb, hc⟩
        · exact .inl s
        · refine .inr ⟨b, off, e, hb, fun i hi => ?_⟩
          obtain ⟨x1, x2, x3, x4, x5, x6⟩ := k10 i hi
          exact ⟨by simpa [conc] using hc _ _ x1, by simpa [conc, Nat.add_assoc] using hc _ _ x2, by simpa [conc, Nat.add_assoc] using hc _ _ x3, by simpa [conc, Nat.add_assoc] using hc _ _ x4, by simpa [conc, Nat.add_assoc] using hc _ _ x5, by simpa [conc, Nat.add_assoc] using hc _ _ x6⟩
      · rcases s11 with s | ⟨b, off, e, hb, hc⟩
        · exact .inl s
        · refine .inr ⟨b, off, e, hb, fun i hi => ?_⟩
          obtain ⟨v, Ai, ci, x1, x2, x3, x4, x5, x6, x7⟩ := k11 i hi
          exact ⟨Ai, ci, by simpa [conc] using hc _ _ x1, by have := hc _ _ x2; rw [x4] at this; simpa [Nat.add_assoc] using this, by simpa [conc, Nat.add_assoc] using hc _ _ x3, x5, x6, x7⟩
  · cases h
end

/-! ### What Check says, reckoned -/
def apartB : List Pt → Bool
  | [] => true
  | p :: l => l.all (fun q => !decide (p.node = q.node) || !meetS (spOf p) (spOf q)) && apartB l
theorem apartB_iff (l : List Pt) : apartB l = true ↔ ApartP l := by
  induction l with
  | nil => simp [apartB, ApartP]
  | cons p l ih =>
    unfold ApartP at ih ⊢
    simp only [apartB, Bool.and_eq_true, List.pairwise_cons, ih]
    refine and_congr ?_ Iff.rfl
    simp only [List.all_eq_true, Bool.or_eq_true, Bool.not_eq_true', decide_eq_false_iff_not]
    refine forall_congr' fun q => forall_congr' fun _ => ⟨fun h e => h.resolve_left (fun n => n e), fun h => ?_⟩
    by_cases e : p.node = q.node
    · exact .inr (h e)
    · exact .inl e
def partsB (c : Conf) : Bool := decide (c.parts.length ≤ 32) && (decide (∀ k, k < c.parts.length → (0 ≤ (c.parts.getD k default).node ∧ (c.parts.getD k default).node < c.nodes) ∧ 0 ≤ (c.parts.getD k default).lo ∧ (c.parts.getD k default).lo ≤ (c.parts.getD k default).hi ∧ (c.parts.getD k default).hi ≤ 256) && apartB c.parts)
theorem partsB_iff (c : Conf) : partsB c = true ↔ PartsK c := by
  unfold partsB PartsK
  rw [Bool.and_eq_true, Bool.and_eq_true, decide_eq_true_eq, decide_eq_true_eq, apartB_iff]
def linksB (c : Conf) : Bool := decide (c.links.length ≤ 64) && (decide (∀ k, k < c.links.length → LinkOk c (c.links.getD k default)) && ((standF (List.replicate c.ports.length false) (namesOf c.links)).isSome && apartB (c.links.map (ptOf c))))
theorem linksB_iff (c : Conf) : linksB c = true ↔ LinksK c := by
  unfold linksB LinksK
  rw [Bool.and_eq_true, Bool.and_eq_true, Bool.and_eq_true, decide_eq_true_eq, decide_eq_true_eq, apartB_iff]
def checkB (c : Conf) : Int :=
  if decide (NodesK c) = false then 21 else if ClockK c = false then 22 else if partsB c = false then 23 else if decide (WindowsK c) = false then 24 else if decide (PortsK c) = false then 25 else if linksB c = false then 26 else 0
theorem checkB_eq (c : Conf) : checkB c = checkF c := by
  have h1 := partsB_iff c
  have h2 := linksB_iff c
  unfold checkB checkF checkW
  cases hp : partsB c <;> cases hl : linksB c <;> rw [hp] at h1 <;> rw [hl] at h2 <;> simp at h1 h2 <;> simp [h1, h2]

/-- config.Check, told -/
noncomputable def checkO (args : List AV) (σ : AW) : Option (AV × AW) := match args with
  | [.agg l] => (match confL σ l with | some c => fInt (checkB c) fun z => some (.i .i64 z, σ) | none => none)
  | _ => none

theorem checkO_ok {W : World} (hG : ∀ w, Below W.heap.size W w → Glo w) (θ : Nat → Ent) (σ : AW) (w : World) (args : List AV) (v : AV) (σ' : AW) (hR : Rel Tryz.prog W θ σ w) (hV : Vs θ σ.n args) (h : checkO args σ = some (v, σ')) :
    (callFunc 38 (concs θ args).toArray).run Tryz.prog w = .ok (.enter 38 (concs θ args).toArray) w ∧ CallsIn Fence.wide 0 Tryz.prog 38 (concs θ args).toArray w (CPost Tryz.prog W θ σ w v σ') := by
  refine ⟨enter_run0 Tryz.func38 (by kernel_rfl) (by kernel_rfl) _ _, ?_⟩
  unfold checkO at h
  split at h
  · rename_i l
    split at h
    · rename_i c hc
      rw [fInt_eq, checkB_eq] at h
      cases h
      simp only [Vs, V] at hV
      obtain ⟨d, h1, h2⟩ := confL_some hR hV.1 hc
      have := check_any c d w (hG w hR.bel) h2
      simp only [concs, h1]
      exact orc_quiet hR (u := .int .i64 (checkF c)) rfl this
    · cases h
  · cases h
end Go.Proofs.YtmckidepbibpgaaGreatDoor
