/-
  The bus: what passes.
-/
import Derived.Test.YtbeggdahbhfhpaaDoorBuA
namespace Go.Proofs.YtbeggdahbhfhpaaDoor
open Go.RowKit Go.Deep
set_option linter.unusedVariables false
set_option linter.unusedSimpArgs false

theorem bbel (w : World) (n : Nat) : Below w.heap.size w (w.drewN n) := ⟨rfl, rfl, rfl, Nat.le_refl _, fun _ _ => rfl⟩
/-- all blocks but one are as they were -/
structure Gk (g : Nat) (w W : World) : Prop where
  siz : w.heap.size ≤ W.heap.size
  blk : ∀ j, j < w.heap.size → j ≠ g → W.heap[j]? = w.heap[j]?
theorem Gk.refl (g : Nat) (w : World) : Gk g w w := ⟨Nat.le_refl _, fun _ _ _ => rfl⟩
theorem Gk.of_below {g : Nat} {w W : World} (h : Below w.heap.size w W) : Gk g w W := ⟨h.size, fun j hj _ => h.block j hj⟩
theorem Gk.set (g : Nat) (w : World) (k : Nat) (v : Value) : Gk g w (w.setCell ⟨g, k, none⟩ v) := ⟨by rw [bset_size]; exact Nat.le_refl _, fun j _ h => bset_other h⟩
theorem Gk.trans {g : Nat} {a b c : World} (h : Gk g a b) (h' : Gk g b c) : Gk g a c :=
  ⟨Nat.le_trans h.siz h'.siz, fun j hj hn => (h'.blk j (Nat.lt_of_lt_of_le hj h.siz) hn).trans (h.blk j hj hn)⟩
/-- sends that stand whatever becomes of that one -/
def SnK (w : World) (g : Nat) (A : Option Addr) (L : List SnD) : Prop := ∀ W, Gk g w W → SnAt W A L
theorem SnK.mono {w W : World} {g : Nat} {A : Option Addr} {L : List SnD} (h : SnK w g A L) (k : Gk g w W) : SnK W g A L := fun V hV => h V (k.trans hV)

set_option maxRecDepth 100000 in
set_option maxHeartbeats 1000000 in
theorem first_at {g ob oc : Nat} {k : Bu} {w : World} (x : BuAt w g ob oc k) (slot : Int) (hs : 0 ≤ slot) (L : List SnD) (A : Option Addr) (c p : Nat) (hL : SnK w g A L) (hl : L.length ≤ 9223372036854775807) (hp : p < L.length)
    (h1 : (L.getD p default).node = ownF (turnsC k) slot) (h2 : ∀ j, j < p → (L.getD j default).node ≠ ownF (turnsC k) slot) :
    Calls Tryd.prog 97 #[.pointer (some ⟨g, 0, none⟩), .int .i64 slot, .slice A L.length c] w fun e w' => e = .returned (.tuple #[.int .i64 (p : Int), .bool true]) ∧ Below w.heap.size w w' := by
  have HO := hide (owner_any (turnsC k) (turnsA ob oc) slot w x.cf)
  have HI := hide (fun cb W (hb : Below w.heap.size w W) (hc : W.cell? ⟨cb, 0, none⟩ = some (.int .i64 (ownF (turnsC k) slot))) (hcb : cb < W.heap.size) => index_first L A c cb (ownF (turnsC k) slot) p W (hL W (Gk.of_below hb)) hl hp h1 h2 hc hcb)
  generalize ownF (turnsC k) slot = owner at HO HI
  have t1 : w.cell? ⟨g, 1, none⟩ = some (.int .i64 (k.N : Int)) := x.cs 0 _ rfl
  have t2 : w.cell? ⟨g, 2, none⟩ = some (.slice (some ⟨ob, 0, none⟩) k.ow.length oc) := x.cs 1 _ rfl
  have t3 : w.cell? ⟨g, 3, none⟩ = some (.int .i64 0) := x.cs 2 _ rfl
  have t4 : w.cell? ⟨g, 4, none⟩ = some (.int .i64 0) := x.cs 3 _ rfl
  have t5 : w.cell? ⟨g, 5, none⟩ = some (.int .i64 0) := x.cs 4 _ rfl
  have t6 : w.cell? ⟨g, 6, none⟩ = some (.int .i64 0) := x.cs 5 _ rfl
  have t7 : w.cell? ⟨g, 7, none⟩ = some (.int .i64 0) := x.cs 6 _ rfl
  have t8 : w.cell? ⟨g, 8, none⟩ = some (.int .i64 0) := x.cs 7 _ rfl
  have t9 : w.cell? ⟨g, 9, none⟩ = some (.slice none 0 0) := x.cs 8 _ rfl
  have t10 : w.cell? ⟨g, 10, none⟩ = some (.slice none 0 0) := x.cs 9 _ rfl
  have t11 : w.cell? ⟨g, 11, none⟩ = some (.slice none 0 0) := x.cs 10 _ rfl
  have t12 : w.cell? ⟨g, 12, none⟩ = some (.slice none 0 0) := x.cs 11 _ rfl
  have hd : decide (slot < 0) = false := decide_eq_false (by omega)
  have hpp : (0 : Int) ≤ (p : Int) := by omega
  clear x hL h1 h2 hs hp
  unfold turnsC turnsA Conf.val at HO
  dsimp only [List.length_nil] at HO
  go_enter Tryd.func97, Tryd.ntmps97
  go_wp2_with fail
  refine HO.out.mono ?_
  rintro e w1 ⟨rfl, hb1⟩
  clear t1 t2 t3 t4 t5 t6 t7 t8 t9 t10 t11 t12 HO
  have hb2 := hb1.trans ((bal w1 (.cells #[.int .i64 owner] 3)).mono hb1.size)
  have hcc : (w1.alloc (.cells #[.int .i64 owner] 3)).cell? ⟨w1.heap.size, 0, none⟩ = some (.int .i64 owner) := by
    unfold World.cell?
    rw [heap_alloc_new]; rfl
  have HII := hide (HI.out w1.heap.size _ hb2 hcc (by simp))
  have HB2 := hide hb2
  clear hb1 hb2 hcc HI
  go_wp2_with fail
  refine HII.out.mono ?_
  rintro e w2 ⟨rfl, hb3⟩
  have HB3 := hide (HB2.out.trans (hb3.mono HB2.out.size))
  clear hb3
  go_wp2
  go_ret2
  exact ⟨by first | rfl | simp, HB3.out⟩

set_option maxRecDepth 100000 in
set_option maxHeartbeats 1000000 in
theorem pass_at {g ob oc : Nat} {k : Bu} {w : World} (x : BuAt w g ob oc k) (slot : Int) (hs : 0 ≤ slot) (L : List SnD) (A : Option Addr) (c p : Nat) (hL : SnK w g A L) (hl : L.length ≤ 4611686018427387904) (hp : p < L.length)
    (h1 : (L.getD p default).node = ownF (turnsC k) slot) (h2 : ∀ j, j < p → (L.getD j default).node ≠ ownF (turnsC k) slot) (hm : (L.getD p default).l.length ≤ 1000000) (hbl : k.bl ≤ 4611686018427387904) (hpa : k.pa ≤ 4611686018427387904) :
    Calls Tryd.prog 51 #[.pointer (some ⟨g, 0, none⟩), .int .i64 slot, .slice A L.length c] w fun e w' => ∃ q cq, e = .returned (.tuple #[.slice (some ⟨q, 0, none⟩) (L.getD p default).l.length cq, .bool true]) ∧ w.heap.size ≤ q ∧ OwnS w' q q (L.getD p default).l.length cq (L.getD p default).l ∧
      Gk g w w' ∧ Below 0 w w' ∧ BuAt w' g ob oc { k with bl := k.bl + (L.length - 1), pa := k.pa + 1 } := by
  have hmade := bmade_at g w x.c0
  have HF := hide (first_at x slot hs L A c p hL (by omega) hp h1 h2)
  have X := hide x; have HL := hide hL
  have hi1 : ((L.length : Nat) : Int) - 1 = ((L.length - 1 : Nat) : Int) := by omega
  have hwu : IntKind.u64.wrap ((L.length - 1 : Nat) : Int) = ((L.length - 1 : Nat) : Int) := by
    have e := IntKind.wrap_u64 ((L.length - 1 : Nat) : Int)
    omega
  have hLn : 1 ≤ L.length := by omega
  clear x hL h1 h2 hs
  go_enter Tryd.func51, Tryd.ntmps51
  go_wp2_with fail
  refine hmade.mono ?_
  rintro e w' ⟨rfl, rfl⟩
  clear hmade
  go_wp2_with fail
  refine HF.out.mono ?_
  rintro e w1 ⟨rfl, hb1⟩
  have HX1 := hide (X.out.below hb1)
  have HG1 : Hid (Gk g w w1) := Gk.of_below hb1
  have HE1 := hide (hb1.mono (Nat.zero_le _))
  have HA := hide (uadd_at ⟨g, 14, none⟩ k.pa 1 1 rfl w1 (by omega) HX1.out.c14 (HX1.out.free 14))
  clear hb1 X HF
  go_wp2_with fail
  refine HA.out.mono ?_
  rintro e w2 ⟨rfl, hw2⟩
  have HX2 : Hid (BuAt w2 g ob oc { k with pa := k.pa + 1 }) := by
    have := HX1.out.put (.inr rfl) (k.pa + 1)
    rw [hw2] at this
    exact this
  have HG2 : Hid (Gk g w w2) := by
    have := HG1.out.trans (Gk.set g w1 14 (.int .u64 ((k.pa + 1 : Nat) : Int)))
    rw [hw2] at this
    exact this
  have HE2 : Hid (Below 0 w w2) := by
    have := HE1.out.setCell (p := ⟨g, 14, none⟩) (Nat.zero_le _) (.int .u64 ((k.pa + 1 : Nat) : Int))
    rw [hw2] at this
    exact this
  have HA2 := hide (uadd_at ⟨g, 13, none⟩ k.bl (L.length - 1) _ rfl w2 (by omega) HX2.out.c13 (HX2.out.free 13))
  clear hw2 HX1 HG1 HE1 HA
  go_wp2_with fail
  refine HA2.out.mono ?_
  rintro e w3 ⟨rfl, hw3⟩
  have HX3 : Hid (BuAt w3 g ob oc { k with bl := k.bl + (L.length - 1), pa := k.pa + 1 }) := by
    have := HX2.out.put (.inl rfl) (k.bl + (L.length - 1))
    rw [hw3] at this
    exact this
  have HG3 : Hid (Gk g w w3) := by
    have := HG2.out.trans (Gk.set g w2 13 (.int .u64 ((k.bl + (L.length - 1) : Nat) : Int)))
    rw [hw3] at this
    exact this
  have HE3 : Hid (Below 0 w w3) := by
    have := HE2.out.setCell (p := ⟨g, 13, none⟩) (Nat.zero_le _) (.int .u64 ((k.bl + (L.length - 1) : Nat) : Int))
    rw [hw3] at this
    exact this
  clear hw3 HX2 HG2 HE2 HA2
  obtain ⟨b, o, Ai, ci, rfl, hbl', e0, e1, hB⟩ := (HL.out w3 HG3.out).at hp
  have HOw := hide (ownList_at _ Ai _ ci w3 rfl hm hB)
  clear e0 hB hbl' hi1 hwu
  generalize hle : (L.getD p default).l = l at e1 HOw
  have HLe := hide hle
  clear hle
  go_wp2_with fail
  refine HOw.out.mono ?_
  rintro e w4 ⟨q, cq, rfl, hq, hb4⟩
  have HQ := hide hq
  have HR := hide (And.intro (Nat.le_trans HG3.out.siz hq.base) (And.intro (HG3.out.trans (Gk.of_below hb4)) (And.intro (HE3.out.trans (hb4.mono (Nat.zero_le _))) (HX3.out.below hb4))))
  clear hq hb4
  go_wp2
  go_ret2
  refine ⟨q, cq, ?_, HR.out.1, ?_, HR.out.2.1, HR.out.2.2.1, HR.out.2.2.2⟩
  · rw [HLe.out]; rfl
  · rw [HLe.out]; exact HQ.out.from (Nat.le_refl _)
end Go.Proofs.YtbeggdahbhfhpaaDoor
