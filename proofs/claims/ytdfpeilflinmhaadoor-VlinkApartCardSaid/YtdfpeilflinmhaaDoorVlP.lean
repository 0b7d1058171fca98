/-
  What is laid into a payload.
-/
import Derived.Test.YtdfpeilflinmhaaDoorVlG
import Derived.Test.YtdfpeilflinmhaaDoorVlM
import Derived.WalkMore
namespace Go.Proofs.YtdfpeilflinmhaaDoor
open Go.RowKit Go.Deep Go.Sort
attribute [local go_sem] Oper.semAt_some
set_option linter.unusedVariables false
set_option linter.unusedSimpArgs false

theorem bys_setN (p : List Nat) (k v : Nat) : (bys p).setIfInBounds k (.int .u8 (v : Int)) = bys (p.set k v) := by
  unfold bys
  simp [List.setIfInBounds_toArray, List.map_set]
theorem bys_splice (p : List Nat) (k : Nat) (m : List Nat) : (splice ((p.map fun c : Nat => Value.int .u8 (c : Int))) k (m.map fun c : Nat => Value.int .u8 (c : Int))).toArray = bys (p.take k ++ m ++ p.drop (k + m.length)) := by
  unfold bys splice
  simp [List.map_take, List.map_drop]

set_option maxRecDepth 100000 in
set_option maxHeartbeats 1000000 in
theorem lay_at (num src : Int) (v : Value) (gp o s cap : Nat) (A : Option Addr) (p m : List Nat) (h : o + 1 + s ≤ 64) (h1 : 1 ≤ s) (w : World) (hp : w.heap[gp]? = some (.cells (bys p) 38 (0, 0))) (hl : p.length = 64) (hm : m.length = s) (hb : Bytes w A m) (hA : ∀ b off, A = some ⟨b, off, none⟩ → b ≠ gp) :
    Calls Tryd.prog 50 #[.agg #[.int .i64 num, .int .i64 src, .int .i64 o, .int .i64 s, v], .pointer (some ⟨gp, 0, none⟩), .slice A s cap] w fun e w' => e = .returned (.tuple #[]) ∧ w'.heap[gp]? = some (.cells (bys (layF p o m)) 38 (0, 0)) ∧
      Below gp w w' ∧ (∀ j, j < w.heap.size → j ≠ gp → w'.heap[j]? = w.heap[j]?) := by
  have hgl := (Array.getElem?_eq_some_iff.1 hp).1
  have hb0 := bal w (.cells #[.int .i64 num, .int .i64 src, .int .i64 o, .int .i64 s, v] 134)
  have hrow := heap_alloc_new w (.cells #[.int .i64 num, .int .i64 src, .int .i64 o, .int .i64 s, v] 134)
  have hp1 := (hb0.block _ hgl).trans hp
  have hB1 := hb.of_below hb0 (Nat.le_refl _)
  have hz1 : (w.alloc (.cells #[.int .i64 num, .int .i64 src, .int .i64 o, .int .i64 s, v] 134)).heap.size = w.heap.size + 1 := by simp
  have HB0 := hide hb0; have HP1 := hide hp1; have HB1 := hide hB1; have HROW := hide hrow; have HZ1 := hide hz1
  have c2 : (w.alloc (.cells #[.int .i64 num, .int .i64 src, .int .i64 o, .int .i64 s, v] 134)).cell? ⟨w.heap.size, 2, none⟩ = some (.int .i64 o) := by rw [cell_of_row _ _ _ _ _ _ hrow]; rfl
  have pc : (w.alloc (.cells #[.int .i64 num, .int .i64 src, .int .i64 o, .int .i64 s, v] 134)).cell? ⟨gp, o, none⟩ = some (.int .u8 ((p.getD o 0 : Nat) : Int)) := by
    rw [cell_of_row _ _ _ _ _ _ hp1]
    simp [bys, List.getD_eq_getElem?_getD, List.getElem?_eq_getElem (show o < p.length by omega)]
  have pf : (w.alloc (.cells #[.int .i64 num, .int .i64 src, .int .i64 o, .int .i64 s, v] 134)).frozen? ⟨gp, o, none⟩ = false := by unfold World.frozen?; rw [hp1]; rfl
  have HP := hide hp; have HB := hide hb
  generalize p.getD o 0 = q at pc
  have ho : o < 64 := by omega
  clear hb0 hp1 hB1 hrow hz1 hp hb
  go_enter Tryd.func50, Tryd.ntmps50
  go_wp2_with fail
  go_region
  have hlt0 := hgl
  have kk : ∀ j, j < w.heap.size → j ≠ gp → ((w.setCell ⟨gp, o, none⟩ (.int .u8 1)).alloc (.cells #[.int .i64 num, .int .i64 src, .int .i64 o, .int .i64 s, v] 134)).drew.heap[j]? = w.heap[j]? := fun j h1 h2 => by
    show ((w.setCell ⟨gp, o, none⟩ (.int .u8 1)).alloc _).heap[j]? = _
    rw [heap_alloc_old _ _ (by rw [vset_size]; exact h1), setCell_other h2]
  have kp : ((w.setCell ⟨gp, o, none⟩ (.int .u8 1)).alloc (.cells #[.int .i64 num, .int .i64 src, .int .i64 o, .int .i64 s, v] 134)).drew.heap[gp]? = some (.cells (bys (p.set o 1)) 38 (0, 0)) := by
    show ((w.setCell ⟨gp, o, none⟩ (.int .u8 1)).alloc _).heap[gp]? = _
    rw [heap_alloc_old _ _ (by rw [vset_size]; exact hgl), vset_row HP.out, ← bys_setN]
    rfl
  have kl : ((w.setCell ⟨gp, o, none⟩ (.int .u8 1)).alloc (.cells #[.int .i64 num, .int .i64 src, .int .i64 o, .int .i64 s, v] 134)).drew.heap[w.heap.size]? = some (.cells #[.int .i64 num, .int .i64 src, .int .i64 o, .int .i64 s, v] 134 (0, 0)) := by
    have := heap_alloc_new (w.setCell ⟨gp, o, none⟩ (.int .u8 1)) (.cells #[.int .i64 num, .int .i64 src, .int .i64 o, .int .i64 s, v] 134)
    rwa [vset_size] at this
  have kb : Below gp w ((w.setCell ⟨gp, o, none⟩ (.int .u8 1)).alloc (.cells #[.int .i64 num, .int .i64 src, .int .i64 o, .int .i64 s, v] 134)).drew := vdrewN ((vset_below (Below.refl gp w) (Nat.le_refl _) _).alloc (by rw [vset_size]; omega) _) 1
  have hnb : Bytes ((w.setCell ⟨gp, o, none⟩ (.int .u8 1)).alloc (.cells #[.int .i64 num, .int .i64 src, .int .i64 o, .int .i64 s, v] 134)).drew A m := by
    have hb := HB.out
    refine ⟨hb.1, ?_⟩
    rcases hb.2 with h0 | ⟨b, off, rfl, hlt, hcell⟩
    · exact .inl h0
    · refine .inr ⟨b, off, rfl, ?_, fun i hi => (World.cell?_of_block (a := ⟨b, off + i, none⟩) (kk b hlt (hA b off rfl))).trans (hcell i hi)⟩
      show b < ((w.setCell _ _).alloc _).heap.size
      rw [World.size_alloc, vset_size]
      omega
  have kz : w.heap.size < ((w.setCell ⟨gp, o, none⟩ (.int .u8 1)).alloc (.cells #[.int .i64 num, .int .i64 src, .int .i64 o, .int .i64 s, v] 134)).drew.heap.size := by
    show _ < ((w.setCell _ _).alloc _).heap.size
    rw [World.size_alloc, vset_size]
    omega
  generalize ((w.setCell ⟨gp, o, none⟩ (.int .u8 1)).alloc (.cells #[.int .i64 num, .int .i64 src, .int .i64 o, .int .i64 s, v] 134)).drew = w2 at kk kp kl kb hnb kz ⊢
  have KK := hide kk; have KP := hide kp; have KL := hide kl; have KB := hide kb; have HN := hide hnb
  clear kk kp kl kb hnb c2 pc pf HB HP
  have y : ∀ j u, #[Value.int .i64 num, .int .i64 src, .int .i64 o, .int .i64 s, v][j]? = some u → w2.cell? ⟨w.heap.size, j, none⟩ = some u := fun j u hu => by rw [cell_of_row _ _ _ _ _ _ KL.out]; exact hu
  have y0 := y 0 _ rfl
  have y1 := y 1 _ rfl
  have y2 := y 2 _ rfl
  have y3 := y 3 _ rfl
  have y4 := y 4 _ rfl
  clear y
  go_wp2_with fail
  refine (room_at num src v gp o s h h1 w2).mono ?_
  rintro e w3 ⟨rfl, hb3⟩
  have hz3 := hb3.size
  have KP3 := hide ((hb3.block _ (by omega)).trans KP.out)
  have KB3 := hide (KB.out.trans (hb3.mono (by omega)))
  have KK3 := hide (show ∀ j, j < w.heap.size → j ≠ gp → w3.heap[j]? = w.heap[j]? from fun j h1 h2 => (hb3.block j (by omega)).trans (KK.out j h1 h2))
  have HN3 := hide (HN.out.of_below hb3 (Nat.le_refl _))
  clear hb3 y0 y1 y2 y3 y4 KK KP KL KB HN
  obtain ⟨ab, ao, hAe, hab, hcell⟩ := HN3.out.at (show 0 < m.length by omega)
  subst hAe
  have HC := hide hcell
  clear hcell
  have HLAY : Hid (((bys (p.set o 1)).toList.take (o + 1) ++ ((m.map fun c : Nat => Value.int .u8 (c : Int)) ++ (bys (p.set o 1)).toList.drop (o + 1 + (m.map fun c : Nat => Value.int .u8 (c : Int)).length))).toArray = bys (layF p o m)) := by
    show _ = _
    unfold layF bys
    simp [List.map_take, List.map_drop]
  have HR := hide (setRow_heap w3 gp _ (bys (layF p o m)) _ _ KP3.out)
  have HK := hide (show ∀ j, j < w.heap.size → j ≠ gp → (w3.setRow gp (bys (layF p o m))).heap[j]? = w.heap[j]? from fun j h1 h2 => (setRow_other _ _ _ _ h2).trans (KK3.out j h1 h2))
  have HB4 := hide (below_setRow KB3.out (Nat.le_refl gp) (bys (layF p o m)))
  go_wp2_with (refine wpList_copy_own rfl (.tmp 13) (.tmp 14) 53 53 rfl 5 Tryd.underlying53 (by kernel_rfl) gp (o + 1) s (63 - o) ⟨ab, ao, none⟩ s cap rfl rfl (bys (p.set o 1)) 38 KP3.out (m.map fun c : Nat => Value.int .u8 (c : Int)) (by simp [hm]) (fun j u hu => by
      rw [plain_add]
      have hj : j < m.length := by
        rcases Nat.lt_or_ge j m.length with hj | hj
        · exact hj
        · rw [List.getElem?_eq_none (by simpa using hj)] at hu; cases hu
      rw [HC.out j hj]
      rw [List.getElem?_map, List.getElem?_eq_getElem hj] at hu
      simp at hu
      rw [← hu, List.getD_eq_getElem?_getD, List.getElem?_eq_getElem hj]; rfl) (by rw [bys_size]; simp; omega) (by simp [Value.oneCell']) ?_; rw [HLAY.out]; have HR4 := HR; have HK4 := HK; have HB5 := HB4; generalize w3.setRow gp (bys (layF p o m)) = w4 at HR4 HK4 HB5 ⊢)
  go_end0
  exact ⟨rfl, HR4.out, HB5.out, HK4.out⟩

/-- who is asked for messages: what it answers (isF, dtF), what it knows after some were asked for (H), in which blocks of its own (S); lo: messages lie below -/
structure Takes (B lo : Nat) (xv : Value) (isF : Int → Bool) (dtF : Int → List Nat) (D : List Int) (H : List Int → (Nat → Prop) → World → Prop) : Prop where
  keep : ∀ l S W W', H l S W → (∀ j, S j → W'.heap[j]? = W.heap[j]?) → W.heap.size ≤ W'.heap.size → H l S W'
  call : ∀ l S W port, port ∈ D → H l S W → (∀ j, S j → j < W.heap.size) → B ≤ W.heap.size → lo ≤ W.heap.size → l.length ≤ 1000 →
    Calls Tryd.prog 17 #[xv, .int .i64 port] W fun e W' => ∃ A cap S', e = .returned (.tuple #[.slice A (dtF port).length cap, .bool (isF port)]) ∧ Bytes W' A (dtF port) ∧ (∀ b off, A = some ⟨b, off, none⟩ → dtF port ≠ [] → b < lo) ∧ H (l ++ [port]) S' W' ∧ (∀ j, S' j → S j ∨ W.heap.size ≤ j) ∧
      (∀ j, S' j → j < W'.heap.size) ∧ (∀ j, j < W.heap.size → ¬ S j → W'.heap[j]? = W.heap[j]?) ∧ Below B W W'

/-- what holds while messages are laid: the payload's block is gp -/
structure PkI (w w1 : World) (B gp : Nat) (S0 : Nat → Prop) (rec : Loop) (H : List Int → (Nat → Prop) → World → Prop) (l : List Int) (p : List Nat) (W : World) : Prop where
  lp : W.heap[w1.heap.size + 1]? = some (.loop rec)
  df : W.heap[w1.heap.size]? = some (.deferred (some []))
  bel : Below B w W
  low : B ≤ w.heap.size ∧ w.heap.size ≤ gp ∧ gp < w1.heap.size
  siz : w1.heap.size + 2 ≤ W.heap.size
  pre : ∀ j, w.heap.size ≤ j → j < w1.heap.size → j ≠ gp → W.heap[j]? = w1.heap[j]?
  old : ∀ j, j < w.heap.size → ¬ S0 j → W.heap[j]? = w.heap[j]?
  pay : W.heap[gp]? = some (.cells (bys p) 38 (0, 0))
  hs : ∃ S, H l S W ∧ (∀ j, S j → (S0 j ∨ w1.heap.size + 2 ≤ j) ∧ j < W.heap.size)
section
variable {w w1 : World} {B lo gp : Nat} {S0 : Nat → Prop} {rec : Loop} {xv : Value} {isF : Int → Bool} {dtF : Int → List Nat} {D : List Int} {H : List Int → (Nat → Prop) → World → Prop} {l : List Int} {p : List Nat} {W W' : World}
theorem PkI.later (hR : Takes B lo xv isF dtF D H) (I : PkI w w1 B gp S0 rec H l p W) (hb : Below W.heap.size W W') : PkI w w1 B gp S0 rec H l p W' := by
  have hs := I.siz
  obtain ⟨l1, l2, l3⟩ := I.low
  obtain ⟨S, h1, h2⟩ := I.hs
  exact ⟨(hb.block _ (by omega)).trans I.lp, (hb.block _ (by omega)).trans I.df, I.bel.trans (hb.mono (by omega)), ⟨l1, l2, l3⟩, Nat.le_trans hs hb.size, fun j hl hj hn => (hb.block _ (by omega)).trans (I.pre j hl hj hn), fun j hj hn => (hb.block _ (by omega)).trans (I.old j hj hn), (hb.block _ (by omega)).trans I.pay,
    S, hR.keep _ _ _ _ h1 (fun j hj => hb.block j (h2 j hj).2) hb.size, fun j hj => ⟨(h2 j hj).1, Nat.lt_of_lt_of_le (h2 j hj).2 hb.size⟩⟩
theorem PkI.asked (hR : Takes B lo xv isF dtF D H) (hS0 : ∀ j, S0 j → j < w.heap.size) {S S' : Nat → Prop} {x : Int} (I : PkI w w1 B gp S0 rec H l p W) (hS : ∀ j, S j → (S0 j ∨ w1.heap.size + 2 ≤ j) ∧ j < W.heap.size) (hH : H (l ++ [x]) S' W') (hS' : ∀ j, S' j → S j ∨ W.heap.size ≤ j) (hl' : ∀ j, S' j → j < W'.heap.size)
    (hk : ∀ j, j < W.heap.size → ¬ S j → W'.heap[j]? = W.heap[j]?) (hb : Below B W W') : PkI w w1 B gp S0 rec H (l ++ [x]) p W' := by
  have hs := I.siz
  obtain ⟨l1, l2, l3⟩ := I.low
  have hns : ∀ j, w.heap.size ≤ j → j ≤ w1.heap.size + 1 → ¬ S j := fun j h1 h2 h3 => by
    rcases (hS j h3).1 with h | h
    · have := hS0 j h; omega
    · omega
  have hkk : ∀ j, w.heap.size ≤ j → j ≤ w1.heap.size + 1 → W'.heap[j]? = W.heap[j]? := fun j h1 h2 => hk j (by omega) (hns j h1 h2)
  refine ⟨(hkk _ (by omega) (by omega)).trans I.lp, (hkk _ (by omega) (by omega)).trans I.df, I.bel.trans hb, ⟨l1, l2, l3⟩, Nat.le_trans hs hb.size, fun j h1 h2 h3 => (hkk j h1 (by omega)).trans (I.pre j h1 h2 h3), fun j h1 h2 => (hk j (by omega) (fun h3 => by
    rcases (hS j h3).1 with h | h
    · exact h2 h
    · omega)).trans (I.old j h1 h2), (hkk _ l2 (by omega)).trans I.pay, S', hH, fun j hj => ⟨?_, hl' j hj⟩⟩
  rcases hS' j hj with h | h
  · exact (hS j h).1
  · exact .inr (by omega)
theorem PkI.laid (hR : Takes B lo xv isF dtF D H) (hS0 : ∀ j, S0 j → j < w.heap.size) (I : PkI w w1 B gp S0 rec H l p W) {p' : List Nat} (hp : W'.heap[gp]? = some (.cells (bys p') 38 (0, 0))) (hb : Below gp W W') (hk : ∀ j, j < W.heap.size → j ≠ gp → W'.heap[j]? = W.heap[j]?) : PkI w w1 B gp S0 rec H l p' W' := by
  have hs := I.siz
  obtain ⟨l1, l2, l3⟩ := I.low
  obtain ⟨S, h1, h2⟩ := I.hs
  have hns : ∀ j, S j → j ≠ gp := fun j h3 => by
    rcases (h2 j h3).1 with h | h
    · have := hS0 j h; omega
    · omega
  exact ⟨(hk _ (by omega) (by omega)).trans I.lp, (hk _ (by omega) (by omega)).trans I.df, I.bel.trans (hb.mono (by omega)), ⟨l1, l2, l3⟩, Nat.le_trans hs hb.size, fun j h1 h2 h3 => (hk j (by omega) h3).trans (I.pre j h1 h2 h3), fun j h1 h2 => (hk j (by omega) (by omega)).trans (I.old j h1 h2), hp,
    S, hR.keep _ _ _ _ h1 (fun j hj => hk j (h2 j hj).2 (hns j hj)) hb.size, fun j hj => ⟨(h2 j hj).1, Nat.lt_of_lt_of_le (h2 j hj).2 hb.size⟩⟩
end
def zero64 : List Nat := List.replicate 64 0
theorem zero_cells : (#[.int .u8 0, .int .u8 0, .int .u8 0, .int .u8 0, .int .u8 0, .int .u8 0, .int .u8 0, .int .u8 0, .int .u8 0, .int .u8 0, .int .u8 0, .int .u8 0, .int .u8 0, .int .u8 0, .int .u8 0, .int .u8 0, .int .u8 0, .int .u8 0, .int .u8 0, .int .u8 0, .int .u8 0, .int .u8 0, .int .u8 0, .int .u8 0, .int .u8 0, .int .u8 0, .int .u8 0, .int .u8 0, .int .u8 0, .int .u8 0, .int .u8 0, .int .u8 0, .int .u8 0, .int .u8 0, .int .u8 0, .int .u8 0, .int .u8 0, .int .u8 0, .int .u8 0, .int .u8 0, .int .u8 0, .int .u8 0, .int .u8 0, .int .u8 0, .int .u8 0, .int .u8 0, .int .u8 0, .int .u8 0, .int .u8 0, .int .u8 0, .int .u8 0, .int .u8 0, .int .u8 0, .int .u8 0, .int .u8 0, .int .u8 0, .int .u8 0, .int .u8 0, .int .u8 0, .int .u8 0, .int .u8 0, .int .u8 0, .int .u8 0, .int .u8 0] : Array Value) = bys zero64 := rfl
theorem info_payP : (Tryd.prog.info? 38).map (·.size) = some 64 := by kernel_rfl
theorem take_eq_nil (f : Fn) (bs lb : Array Value) (w : World) : (binOp .eql 41 (.func f bs lb) .nilFunc).run Tryd.prog w = .ok (.bool false) w := by
  have h : ∀ d : Nat, (Op.equalIn (d + 1) 41 (.func f bs lb) .nilFunc).run Tryd.prog w = .ok false w := fun d => by
    simp [Op.equalIn, run_underlying Tryd.underlying41, sizeOf, typeInfo]
  simp only [binOp]
  simp [Op.equal, Op.maxDepth, h 9999]

/-- what is handed in, the answer and the payload, in a function's own blocks -/
structure PxS (w W : World) (c : Conf) (d : Ad) (F : Value) : Prop where
  cf : CfS w W c d
  fn : W.heap[w.heap.size + 1]? = some (.cells #[F] 41 (0, 0))
  rs : W.heap[w.heap.size + 1 + 1]? = some (.cells (bys zero64) 38 (0, 0))
  py : W.heap[w.heap.size + 1 + 1 + 1]? = some (.cells (bys zero64) 38 (0, 0))
theorem PxS.below {w W W' : World} {c : Conf} {d : Ad} {F : Value} (h : PxS w W c d F) (hb : Below W.heap.size W W') : PxS w W' c d F := by
  have hlt := (Array.getElem?_eq_some_iff.1 h.py).1
  exact ⟨h.cf.below hb, (hb.block _ (by omega)).trans h.fn, (hb.block _ (by omega)).trans h.rs, (hb.block _ (by omega)).trans h.py⟩
theorem PxS.made {w wa : World} {c : Conf} {d : Ad} (h : CfS w wa c d) (hz : wa.heap.size = w.heap.size + 1) (F : Value) :
    PxS w (((wa.alloc (.cells #[F] 41)).alloc (.cells (bys zero64) 38)).alloc (.cells (bys zero64) 38)) c d F := by
  have n1 := heap_alloc_new wa (.cells #[F] 41)
  have b1 := bal wa (.cells #[F] 41)
  have z1 : (wa.alloc (.cells #[F] 41)).heap.size = wa.heap.size + 1 := by simp
  generalize wa.alloc (.cells #[F] 41) = w1 at *
  have n2 := heap_alloc_new w1 (.cells (bys zero64) 38)
  have b2 := bal w1 (.cells (bys zero64) 38)
  have z2 : (w1.alloc (.cells (bys zero64) 38)).heap.size = w1.heap.size + 1 := by simp
  generalize w1.alloc (.cells (bys zero64) 38) = w2 at *
  have n3 := heap_alloc_new w2 (.cells (bys zero64) 38)
  have b3 := bal w2 (.cells (bys zero64) 38)
  generalize w2.alloc (.cells (bys zero64) 38) = w3 at *
  refine ⟨((h.below b1).below b2).below b3, ?_, ?_, ?_⟩
  · rw [← hz]; exact (b3.block _ (by omega)).trans ((b2.block _ (by omega)).trans n1)
  · rw [← hz, ← z1]; exact (b3.block _ (by omega)).trans n2
  · rw [← hz, ← z1, ← z2]; exact n3
theorem own_nodup_len {c : Conf} (hm : MayK c) (node : Int) : (ownL c node c.links.length).length ≤ 64 := by
  have := ownL_len c node c.links.length
  have := hm.nl
  omega

set_option maxRecDepth 100000 in
set_option maxHeartbeats 8000000 in
theorem pack_at (c : Conf) (d : Ad) (node : Int) (hnode : I64 node) (w : World) (hg : Glo w) (h : ConfAt w c d) (hc0 : checkF c = 0) (hok : okN c node)
    (B : Nat) (hB : B ≤ w.heap.size) (xa : Nat) (S0 : Nat → Prop) (isF : Int → Bool) (dtF : Int → List Nat) (H : List Int → (Nat → Prop) → World → Prop) (hR : Takes B w.heap.size (.pointer (some ⟨xa, 0, none⟩)) isF dtF ((ownL c node c.links.length).map Lr.src) H) (h0 : H [] S0 w) (hS0 : ∀ j, S0 j → j < w.heap.size) :
    Calls Tryd.prog 16 #[c.val d, .int .i64 node, .func (.func 17) #[.pointer (some ⟨xa, 0, none⟩)] #[]] w fun e w' =>
      e = .returned (.tuple #[.agg (bys (packF isF dtF zero64 (ownL c node c.links.length))), .int .i64 0]) ∧ Below B w w' ∧ (∀ j, j < w.heap.size → ¬ S0 j → w'.heap[j]? = w.heap[j]?) ∧ ∃ S, H ((ownL c node c.links.length).map Lr.src) S w' ∧ ∀ j, S j → (S0 j ∨ w.heap.size ≤ j) ∧ j < w'.heap.size := by
  have hS := CfS.first 28 hg h
  have HR := hide (fun W (H : CfS w W c d) A m (hI : Ints W A [node]) => refusal_at c d [node] A m W H.g H.cf hI (by simp))
  have HLs := hide (fun W (H : CfS w W c d) (hm : MayK c) => linksOf_at c d node W H.g H.cf hm)
  have HM := hide (may_of hc0)
  have HF0 : Hid (refF c [node] = 0) := refF_ok hc0 (by intro z hz; rw [List.mem_singleton.1 hz]; exact hok)
  rw [HF0.out] at HR
  have HRc := hide hR; have H00 := hide h0
  clear hR h0 hg h HF0
  generalize hA : w.alloc (.cells (c.cells d) 28) = wa at hS
  have hza : wa.heap.size = w.heap.size + 1 := by rw [← hA]; simp
  obtain ⟨oA, oC, pA, pC, wA, wC, qA, qC, lA, lC⟩ := d
  unfold Conf.val at HR HLs ⊢
  unfold Conf.cells at hA
  dsimp only at hA HR HLs ⊢
  have HA := hide hA
  have HS := hide hS
  clear hA hS
  have hzc := zero_cells
  refine calls_of_wp_marks Tryd.func16 rfl ?_
  simp only [Tryd.ntmps16, List.size_toArray, List.length_cons, List.length_nil, Nat.reduceAdd, Nat.reduceSub, Array.replicate_succ, Array.replicate_zero, List.push_toArray, List.append_toArray, List.nil_append, List.cons_append]
  go_wp2_with fail
  go_step3
  go_upto_region 2 with fail
  rw [HA.out]
  have HX := hide (PxS.made HS.out hza (.func (.func 17) #[.pointer (some ⟨xa, 0, none⟩)] #[]))
  clear HS HA hza hzc
  generalize hzz : bys zero64 = zz at *
  have HZZ := hide hzz
  clear hzz
  generalize ((wa.alloc (.cells #[.func (.func 17) #[.pointer (some ⟨xa, 0, none⟩)] #[]] 41)).alloc (.cells zz 38)).alloc (.cells zz 38) = w2 at HX ⊢
  obtain ⟨_, ⟨_, e0, e1, e2, e3, e4, e5, e6, e7, e8, e9, e10, e11⟩, _, _⟩ := HX.out.cf
  dsimp only at e0 e1 e2 e3 e4 e5 e6 e7 e8 e9 e10 e11
  have hb3 := bal w2 (.cells #[.int .i64 node] 3)
  have hI3 : Ints (w2.alloc (.cells #[.int .i64 node] 3)) (some ⟨w2.heap.size, 0, none⟩) [node] := ⟨by simpa using hnode, .inr ⟨_, 0, rfl, by simp, fun i hi => by
    obtain rfl : i = 0 := by simpa using hi
    rw [cell_of_row _ _ _ _ _ _ (heap_alloc_new w2 _)]; rfl⟩⟩
  have HX3 := hide (HX.out.below hb3); have HI3 := hide hI3
  clear hb3 hI3
  go_wp2_with fail
  refine (HR.out _ HX3.out.cf _ 1 HI3.out).mono ?_
  rintro e w3 ⟨rfl, hb⟩
  have HX4 := hide (HX3.out.below hb)
  clear hb HX3 HI3 HX e0 e1 e2 e3 e4 e5 e6 e7 e8 e9 e10 e11 HR
  have x4 : w3.cell? ⟨w.heap.size + 1, 0, none⟩ = some (.func (.func 17) #[.pointer (some ⟨xa, 0, none⟩)] #[]) := by rw [cell_of_row _ _ _ _ _ _ HX4.out.fn]; rfl
  have hxl := (Array.getElem?_eq_some_iff.1 HX4.out.py).1
  have he := fun W => take_eq_nil (.func 17) #[.pointer (some ⟨xa, 0, none⟩)] #[] W
  obtain ⟨_, ⟨_, e0, e1, e2, e3, e4, e5, e6, e7, e8, e9, e10, e11⟩, _, _⟩ := HX4.out.cf
  dsimp only at e0 e1 e2 e3 e4 e5 e6 e7 e8 e9 e10 e11
  go_wp2_with fail
  go_step3
  go_wp2_with fail
  refine (HLs.out _ HX4.out.cf HM.out).mono ?_
  rintro e w1 ⟨Bo, v, P, rfl, ⟨hB1, hB2⟩, hBr, hL, hLP, hb2⟩
  have hX1 := HX4.out.below hb2
  clear e0 e1 e2 e3 e4 e5 e6 e7 e8 e9 e10 e11 HLs he x4
  go_wp2_with fail
  have hzb := hb2.size
  have hbw1 : Below w.heap.size w w1 := hX1.cf.bel
  have hPlen : P.length ≤ 64 := by
    have h1 := congrArg List.length hLP
    have h2 := own_nodup_len HM.out node
    simp at h1; omega
  have HX1 := hide hX1
  have HSz := hide (show w.heap.size + 4 ≤ w3.heap.size ∧ w3.heap.size ≤ w1.heap.size from ⟨by omega, by omega⟩)
  clear hX1 hb2 HX4
  refine wp_range2 (g := .tmp 26) rfl (enters_of Tryd.func79 (by kernel_rfl) rfl) ?_
  rintro W0 rec hl hD hb0 hz0 hst hpe htm hps has hbo
  have I0 : PkI w w1 B (w.heap.size + 1 + 1 + 1) S0 rec H [] zero64 W0 := ⟨hl, hD, (hbw1.mono hB).trans (hb0.mono (by omega)), ⟨hB, by omega, by omega⟩, hz0, fun j _ hj _ => hb0.block j hj, fun j hj _ => (hb0.block j (by omega)).trans (hbw1.block j hj), (hb0.block _ (by omega)).trans HX1.out.py,
    S0, HRc.out.keep _ _ _ _ H00.out (fun j hj => (hb0.block j (by have := hS0 j hj; omega)).trans (hbw1.block j (hS0 j hj))) (by omega), fun j hj => ⟨.inl hj, by have := hS0 j hj; omega⟩⟩
  refine links1_all (base := w3.heap.size) (v := v) (P := P) 1 (w1.heap.size + 1) W0 _ (fun n W => PkI w w1 B (w.heap.size + 1 + 1 + 1) S0 rec H (((P.map Prod.fst).take n).map Lr.src) (packF isF dtF zero64 ((P.map Prod.fst).take n)) W) (fun W' hb => I0.later HRc.out hb) (by omega) ?hI ?hY ?hR
  case hI =>
    rintro n W' I
    refine ⟨?_, hL.stands fun k hk1 hk2 => I.pre k (by omega) hk2 (by omega)⟩
    have h1 := I.pre Bo (by omega) hB2 (by omega)
    rw [hBr] at h1
    rw [cell_of_row _ _ _ _ _ _ h1]; rfl
  case hY =>
    rintro n q W1 W2 hn I hb
    have I2 := I.later HRc.out hb
    have hq1 : q.1 ∈ ownL c node c.links.length := by rw [← hLP]; exact List.mem_map_of_mem (List.mem_of_getElem? hn)
    obtain ⟨o, s, ho, hs, hos, hs1⟩ := own_nat HM.out (Nat.le_refl _) hq1
    have hqn : (P.map Prod.fst)[n]? = some q.1 := by rw [List.getElem?_map, hn]; rfl
    rw [packF_take hqn, show ((P.map Prod.fst).take (n + 1)).map Lr.src = ((P.map Prod.fst).take n).map Lr.src ++ [q.1.src] by rw [List.take_add_one, hqn]; simp]
    have hlen : (((P.map Prod.fst).take n).map Lr.src).length ≤ 64 := by simp; omega
    have hpl : (packF isF dtF zero64 ((P.map Prod.fst).take n)).length = 64 := packF_len _ _ rfl fun x hx => by
      have := List.mem_of_mem_take hx
      rw [hLP] at this
      exact own_fit HM.out (Nat.le_refl _) x this
    have hsrc : q.1.src ∈ (ownL c node c.links.length).map Lr.src := List.mem_map_of_mem hq1
    obtain ⟨dA, dn, dc, hdv⟩ : ∃ A n c, q.2 = .slice A n c := by obtain ⟨A, c, h⟩ := ow_slice (hL.ds q (List.mem_of_getElem? hn)); exact ⟨_, _, _, h⟩
    clear I hb hL hLP hBr hn hq1 hqn
    generalize ((P.map Prod.fst).take n).map Lr.src = l0 at I2 hlen ⊢
    generalize packF isF dtF zero64 ((P.map Prod.fst).take n) = p0 at I2 hpl ⊢
    obtain ⟨x, dv0⟩ := q
    obtain ⟨num, src, off, siz, dests⟩ := x
    dsimp only at ho hs hdv hsrc ⊢
    subst ho hs hdv
    have hpk : pkF isF dtF p0 ⟨num, src, o, s, dests⟩ = if isF src = true ∧ (dtF src).length = s then layF p0 o (dtF src) else p0 := by
      unfold pkF cndB
      simp
    generalize pkF isF dtF p0 ⟨num, src, o, s, dests⟩ = pr at hpk ⊢
    have HPK := hide hpk
    clear hpk
    have hzs := I2.siz
    refine yield_at I2.lp (by rw [hps]; rfl) ?_
    rw [has, hps, htm]
    have HI2 := hide I2; have HST := hide hst; have HPE := hide hpe; have HBO := hide hbo
    clear I2 hst hpe hbo htm hps has hbw1 hb0 I0 hl hD hB1 hB2
    gi_wp2
    refine ⟨rec, (heap_alloc_old W2 _ (by omega)).trans HI2.out.lp, HST.out, ?_⟩
    have hIa := HI2.out.later HRc.out (bal W2 (.cells #[.int .i64 num, .int .i64 src, .int .i64 (o : Int), .int .i64 (s : Int), .slice dA dn dc] 134))
    have hLa := heap_alloc_new W2 (.cells #[.int .i64 num, .int .i64 src, .int .i64 (o : Int), .int .i64 (s : Int), .slice dA dn dc] 134)
    have hza : (W2.alloc (.cells #[.int .i64 num, .int .i64 src, .int .i64 (o : Int), .int .i64 (s : Int), .slice dA dn dc] 134)).heap.size = W2.heap.size + 1 := by simp
    obtain ⟨S, hH, hSS⟩ := HI2.out.hs
    have hH3 : ∃ S, H l0 S (W2.alloc (.cells #[.int .i64 num, .int .i64 src, .int .i64 (o : Int), .int .i64 (s : Int), .slice dA dn dc] 134)) ∧ ∀ j, S j → (S0 j ∨ w1.heap.size + 2 ≤ j) ∧ j < W2.heap.size := ⟨S, HRc.out.keep _ _ _ _ hH (fun j hj => heap_alloc_old W2 _ (hSS j hj).2) (by simp), hSS⟩
    clear hH hSS S
    obtain ⟨bl, hbl⟩ : ∃ bl, W2.heap.size = bl := ⟨_, rfl⟩
    rw [hbl] at hLa hza hzs hH3 ⊢
    generalize W2.alloc (.cells #[.int .i64 num, .int .i64 src, .int .i64 (o : Int), .int .i64 (s : Int), .slice dA dn dc] 134) = Wa at hIa hLa hH3 hza ⊢
    clear HI2 hbl
    obtain ⟨S, hH, hSS⟩ := hH3
    obtain ⟨sz1, sz2⟩ := HSz.out
    have hlow := hIa.low
    have hne : ∀ j, S j → j ≠ w1.heap.size + 1 := fun j hj => by
      rcases (hSS j hj).1 with h | h
      · have := hS0 j h; omega
      · omega
    have hput : ∀ j, j ≠ w1.heap.size + 1 → (Wa.putObj (w1.heap.size + 1) (.loop { rec with state := .busy })).heap[j]? = Wa.heap[j]? := fun j h1 => World.putObj_heap_other h1
    have hR3 : PkI w w1 B (w.heap.size + 1 + 1 + 1) S0 { rec with state := .busy } H l0 p0 (Wa.putObj (w1.heap.size + 1) (.loop { rec with state := .busy })) :=
      ⟨World.putObj_heap_same (by omega), (hput _ (by omega)).trans hIa.df, vput_below hIa.bel (by omega) (by omega) _, hlow, by simp; omega, fun j h1 h2 h3 => (hput j (by omega)).trans (hIa.pre j h1 h2 h3), fun j h1 h2 => (hput j (by omega)).trans (hIa.old j h1 h2), (hput _ (by omega)).trans hIa.pay,
        S, HRc.out.keep _ _ _ _ hH (fun j hj => hput j (hne j hj)) (by simp), fun j hj => ⟨(hSS j hj).1, by have := (hSS j hj).2; simp; omega⟩⟩
    have hH4 := HRc.out.keep _ _ _ (Wa.putObj (w1.heap.size + 1) (.loop { rec with state := .busy })) hH (fun j hj => hput j (hne j hj)) (by simp)
    have hL3 := (hput bl (by omega)).trans hLa
    have hz3 : (Wa.putObj (w1.heap.size + 1) (.loop { rec with state := .busy })).heap.size = bl + 1 := by simp; omega
    clear hput hIa hLa hza hH hne
    generalize Wa.putObj (w1.heap.size + 1) (.loop { rec with state := .busy }) = W3 at hR3 hH4 hL3 hz3 ⊢
    have hSS3 : ∀ j, S j → (S0 j ∨ w1.heap.size + 2 ≤ j) ∧ j < W3.heap.size := fun j hj => ⟨(hSS j hj).1, by have := (hSS j hj).2; omega⟩
    have hSb : ¬ S bl := fun h => by have := (hSS bl h).2; omega
    have HR3 := hide hR3; have HL3 := hide hL3
    clear hR3 hL3 hSS
    rw [HBO.out]
    clear HBO
    have y1 : W3.cell? ⟨bl, 1, none⟩ = some (.int .i64 src) := by rw [cell_of_row _ _ _ _ _ _ HL3.out]; rfl
    have z1 : W3.cell? ⟨w.heap.size + 1, 0, none⟩ = some (.func (.func 17) #[.pointer (some ⟨xa, 0, none⟩)] #[]) := by rw [cell_of_row _ _ _ _ _ _ ((HR3.out.pre (w.heap.size + 1) (by omega) (by omega) (by omega)).trans HX1.out.fn)]; rfl
    have HCL := hide (HRc.out.call l0 S W3 src hsrc hH4 (fun j hj => (hSS3 j hj).2) (by omega) (by omega) (by omega))
    obtain ⟨dl, hdl⟩ : ∃ dl, (dtF src).length = dl := ⟨_, rfl⟩
    rw [hdl] at HCL HPK
    have HDL := hide hdl
    clear hdl hH4
    gi_wp2
    refine ⟨trivial, rfl, callsIn_wide.2 (HCL.out.mono ?_)⟩
    rintro e W4 ⟨mA, mc, S', rfl, hmb, hmo, hH', hS', hl', hkp, hb4⟩
    have hA4 := HR3.out.asked HRc.out hS0 hSS3 hH' hS' hl' hkp hb4
    have hz4 := hb4.size
    have hL4 := (hkp bl (by omega) hSb).trans HL3.out
    have HA4 := hide hA4; have HL4 := hide hL4; have HMB := hide hmb; have HMO := hide hmo
    clear hA4 hL4 hmb hmo hH' hS' hl' hkp hb4 y1 z1 HCL HR3 HL3
    have y : ∀ j u, #[Value.int .i64 num, .int .i64 src, .int .i64 (o : Int), .int .i64 (s : Int), .slice dA dn dc][j]? = some u → W4.cell? ⟨bl, j, none⟩ = some u := fun j u hu => by rw [cell_of_row _ _ _ _ _ _ HL4.out]; exact hu
    have y0 := y 0 _ rfl
    have y1 := y 1 _ rfl
    have y2 := y 2 _ rfl
    have y3 := y 3 _ rfl
    have y4 := y 4 _ rfl
    clear y
    generalize isF src = yes at HPK ⊢
    cases yes
    · have hpr : pr = p0 := by rw [HPK.out, if_neg (fun h => by cases h.1)]
      subst hpr
      gi_wp2
      have hrec : ({ { rec with state := .busy } with state := .ready, pending := none } : Loop) = rec := by
        have h1 := HST.out; have h2 := HPE.out
        cases rec
        simp only at h1 h2
        subst h1 h2
        rfl
      obtain ⟨S5, hH5, hSS5⟩ := HA4.out.hs
      have s5 := HA4.out.siz
      obtain ⟨lo1, lo2, lo3⟩ := HA4.out.low
      have hne5 : ∀ j, S5 j → j ≠ w1.heap.size + 1 := fun j hj => by
        rcases (hSS5 j hj).1 with h | h
        · have := hS0 j h; omega
        · omega
      refine ⟨none, { rec with state := .busy }, rfl, HA4.out.lp, rfl, ?_⟩
      simp only [Option.isNone_none, if_true]
      rw [hrec]
      exact ⟨World.putObj_heap_same (by omega), (World.putObj_heap_other (by omega)).trans HA4.out.df, vput_below HA4.out.bel (by omega) (by omega) _, ⟨lo1, lo2, lo3⟩, by simp; omega, fun j h1 h2 h3 => (World.putObj_heap_other (by omega)).trans (HA4.out.pre j h1 h2 h3), fun j h1 h2 => (World.putObj_heap_other (by omega)).trans (HA4.out.old j h1 h2), (World.putObj_heap_other (by omega)).trans HA4.out.pay,
        S5, HRc.out.keep _ _ _ _ hH5 (fun j hj => World.putObj_heap_other (hne5 j hj)) (by simp), fun j hj => ⟨(hSS5 j hj).1, by have := (hSS5 j hj).2; simp; omega⟩⟩
    · by_cases hds : dl = s
      · subst hds
        have hpr : pr = layF p0 o (dtF src) := by rw [HPK.out, if_pos ⟨rfl, rfl⟩]
        have hee : (((dl : Nat) : Int) != ((dl : Nat) : Int)) = false := by simp
        gi_wp2
        refine ⟨trivial, rfl, callsIn_wide.2 ((lay_at num src (.slice dA dn dc) (w.heap.size + 1 + 1 + 1) o dl mc mA p0 (dtF src) hos hs1 W4 HA4.out.pay hpl HDL.out HMB.out (fun b off h => by have := HMO.out b off h (fun e => by have h9 := HDL.out; rw [e] at h9; simp at h9; omega); omega)).mono ?_)⟩
        rintro e W5 ⟨rfl, hp5, hb5, hk5⟩
        have HA5 := hide (HA4.out.laid HRc.out hS0 hp5 hb5 hk5)
        rw [← hpr] at HA5
        clear hp5 hb5 hk5 HA4 hpr y0 y1 y2 y3 y4
        gi_wp2
        have hrec : ({ { rec with state := .busy } with state := .ready, pending := none } : Loop) = rec := by
          have h1 := HST.out; have h2 := HPE.out
          cases rec
          simp only at h1 h2
          subst h1 h2
          rfl
        obtain ⟨S5, hH5, hSS5⟩ := HA5.out.hs
        have s5 := HA5.out.siz
        obtain ⟨lo1, lo2, lo3⟩ := HA5.out.low
        have hne5 : ∀ j, S5 j → j ≠ w1.heap.size + 1 := fun j hj => by
          rcases (hSS5 j hj).1 with h | h
          · have := hS0 j h; omega
          · omega
        refine ⟨none, { rec with state := .busy }, rfl, HA5.out.lp, rfl, ?_⟩
        simp only [Option.isNone_none, if_true]
        rw [hrec]
        exact ⟨World.putObj_heap_same (by omega), (World.putObj_heap_other (by omega)).trans HA5.out.df, vput_below HA5.out.bel (by omega) (by omega) _, ⟨lo1, lo2, lo3⟩, by simp; omega, fun j h1 h2 h3 => (World.putObj_heap_other (by omega)).trans (HA5.out.pre j h1 h2 h3), fun j h1 h2 => (World.putObj_heap_other (by omega)).trans (HA5.out.old j h1 h2), (World.putObj_heap_other (by omega)).trans HA5.out.pay,
          S5, HRc.out.keep _ _ _ _ hH5 (fun j hj => World.putObj_heap_other (hne5 j hj)) (by simp), fun j hj => ⟨(hSS5 j hj).1, by have := (hSS5 j hj).2; simp; omega⟩⟩
      · have hpr : pr = p0 := by rw [HPK.out, if_neg (fun h => hds h.2)]
        subst hpr
        have hee : (((dl : Nat) : Int) != ((s : Nat) : Int)) = true := by rw [bne_iff_ne]; omega
        gi_wp2
        have hrec : ({ { rec with state := .busy } with state := .ready, pending := none } : Loop) = rec := by
          have h1 := HST.out; have h2 := HPE.out
          cases rec
          simp only at h1 h2
          subst h1 h2
          rfl
        obtain ⟨S5, hH5, hSS5⟩ := HA4.out.hs
        have s5 := HA4.out.siz
        obtain ⟨lo1, lo2, lo3⟩ := HA4.out.low
        have hne5 : ∀ j, S5 j → j ≠ w1.heap.size + 1 := fun j hj => by
          rcases (hSS5 j hj).1 with h | h
          · have := hS0 j h; omega
          · omega
        refine ⟨none, { rec with state := .busy }, rfl, HA4.out.lp, rfl, ?_⟩
        simp only [Option.isNone_none, if_true]
        rw [hrec]
        exact ⟨World.putObj_heap_same (by omega), (World.putObj_heap_other (by omega)).trans HA4.out.df, vput_below HA4.out.bel (by omega) (by omega) _, ⟨lo1, lo2, lo3⟩, by simp; omega, fun j h1 h2 h3 => (World.putObj_heap_other (by omega)).trans (HA4.out.pre j h1 h2 h3), fun j h1 h2 => (World.putObj_heap_other (by omega)).trans (HA4.out.old j h1 h2), (World.putObj_heap_other (by omega)).trans HA4.out.pay,
          S5, HRc.out.keep _ _ _ _ hH5 (fun j hj => World.putObj_heap_other (hne5 j hj)) (by simp), fun j hj => ⟨(hSS5 j hj).1, by have := (hSS5 j hj).2; simp; omega⟩⟩
  case hR =>
    intro W' vv I
    have hQ2 : (P.map Prod.fst).take P.length = ownL c node c.links.length := by rw [← hLP]; exact List.take_of_length_le (by simp)
    rw [hQ2] at I
    refine ⟨⟨vv, rfl⟩, rec, I.lp, by rw [hst]; simp, ?_⟩
    rw [hpe]
    simp only []
    have hzw := I.siz
    obtain ⟨lo1, lo2, lo3⟩ := I.low
    obtain ⟨S, hH, hSS⟩ := I.hs
    have hne : ∀ j, S j → j ≠ w1.heap.size + 1 ∧ j ≠ w1.heap.size ∧ j ≠ w.heap.size + 1 + 1 := fun j hj => by
      rcases (hSS j hj).1 with h | h
      · have := hS0 j h; omega
      · omega
    have hpl : (packF isF dtF zero64 (ownL c node c.links.length)).length = 64 := packF_len _ _ rfl (own_fit HM.out (Nat.le_refl _))
    have hother : ∀ j, j ≠ w1.heap.size + 1 → (W'.putObj (w1.heap.size + 1) (.loop { state := .exhausted, pending := none, fn := rec.fn, tmps := rec.tmps, params := rec.params, assign := rec.assign, body := rec.body, defers := rec.defers })).heap[j]? = W'.heap[j]? := fun j hj => World.putObj_heap_other hj
    have HD4 := hide ((hother w1.heap.size (by omega)).trans I.df)
    have hp4 := (hother (w.heap.size + 1 + 1 + 1) (by omega)).trans I.pay
    have hr4 := (hother (w.heap.size + 1 + 1) (by omega)).trans ((I.pre (w.heap.size + 1 + 1) (by omega) (by omega) (by omega)).trans HX1.out.rs)
    have HB4 := hide (vput_below (D := w1.heap.size + 1) I.bel (by omega) (by omega) (.loop { state := .exhausted, pending := none, fn := rec.fn, tmps := rec.tmps, params := rec.params, assign := rec.assign, body := rec.body, defers := rec.defers }))
    have HH4 := hide (HRc.out.keep _ _ _ _ hH (fun j hj => hother j (hne j hj).1) (by simp))
    have HO4 := hide (show ∀ j, j < w.heap.size → ¬ S0 j → (W'.putObj (w1.heap.size + 1) (.loop { state := .exhausted, pending := none, fn := rec.fn, tmps := rec.tmps, params := rec.params, assign := rec.assign, body := rec.body, defers := rec.defers })).heap[j]? = w.heap[j]? from fun j hj hn => (hother j (by omega)).trans (I.old j hj hn))
    have hz4 : W'.heap.size = (W'.putObj (w1.heap.size + 1) (.loop { state := .exhausted, pending := none, fn := rec.fn, tmps := rec.tmps, params := rec.params, assign := rec.assign, body := rec.body, defers := rec.defers })).heap.size := by simp
    have HSS := hide (show ∀ j, S j → (S0 j ∨ w.heap.size ≤ j) ∧ j < W'.heap.size from fun j hj => ⟨(hSS j hj).1.imp id fun h => by omega, (hSS j hj).2⟩)
    have HNE := hide hne
    rw [hz4] at HSS hzw
    clear hother I hQ2 hL hLP hBr hbw1 hb0 I0 hl hD hst hpe htm hps has hbo hH hSS hne hz4
    generalize W'.putObj (w1.heap.size + 1) (.loop { state := .exhausted, pending := none, fn := rec.fn, tmps := rec.tmps, params := rec.params, assign := rec.assign, body := rec.body, defers := rec.defers }) = W4 at *
    have HIQ : Hid ((Tryd.prog.info? 38).map (·.size) = some (bys (packF isF dtF zero64 (ownL c node c.links.length))).size) := by show _ = _; rw [info_payP, bys_size, hpl]
    generalize hpp : bys (packF isF dtF zero64 (ownL c node c.links.length)) = pp at *
    have HPP := hide hpp
    have hzs : (bys zero64).size = pp.size := by rw [← hpp, bys_size, bys_size, hpl]; rfl
    have hone : pp.all (·.oneCell') = true := by rw [← hpp]; unfold bys; simp [Value.oneCell']
    have HP4 := hide hp4; have HR4 := hide hr4; have HZS := hide hzs; have HONE := hide hone
    have HRow := hide (setRow_heap W4 (w.heap.size + 1 + 1) _ pp _ _ hr4)
    have HBel := hide (below_setRow HB4.out (show B ≤ w.heap.size + 1 + 1 by omega) pp)
    have HOth := hide (show ∀ j, j ≠ w.heap.size + 1 + 1 → (W4.setRow (w.heap.size + 1 + 1) pp).heap[j]? = W4.heap[j]? from fun j hj => setRow_other _ _ _ _ hj)
    have HSiz : Hid ((W4.setRow (w.heap.size + 1 + 1) pp).heap.size = W4.heap.size) := by show _ = _; simp
    clear hp4 hr4 hzs hone
    go_wp2_with (first
      | (refine wpList_load_row rfl 38 (.tmp 8) rfl (w.heap.size + 1 + 1 + 1) rfl 38 pp (0, 0) _ HP4.out Tryd.underlying38 rfl HIQ.out ?_)
      | (refine wpList_store_row rfl 38 (.tmp 6) (.tmp 47) rfl (w.heap.size + 1 + 1) pp rfl rfl 38 _ HR4.out HIQ.out HZS.out HONE.out ?_
         have HRow5 := HRow; have HBel5 := HBel; have HOth5 := HOth; have HSiz5 := HSiz
         generalize W4.setRow (w.heap.size + 1 + 1) pp = W5 at HRow5 HBel5 HOth5 HSiz5 ⊢))
    rw [Exit.noGoto_ret]
    refine leaves_marked [w1.heap.size] _ (by intro D hD; rw [List.mem_singleton.1 hD, HOth5.out _ (by omega)]; exact HD4.out) (by simp) ?_
    intro W6 o1 o2 o3 o4 o5
    have hrow6 := (o5 (w.heap.size + 1 + 1) (by simp; omega)).trans HRow5.out
    have hsz6 : W6.heap.size = W4.heap.size := o4.trans HSiz5.out
    refine ⟨.tuple #[.agg pp, .int .i64 0], ?_, by rw [HPP.out], HBel5.out.trans ⟨o1, o2, o3, Nat.le_of_eq o4.symm, fun j hj => o5 j (by simp; omega)⟩, fun j hj hn => (o5 j (by simp; omega)).trans ((HOth5.out j (by omega)).trans (HO4.out j hj hn)), S, HRc.out.keep _ _ _ _ HH4.out (fun j hj => (o5 j (by simp; exact (HNE.out j hj).2.1)).trans (HOth5.out j (HNE.out j hj).2.2)) (Nat.le_of_eq hsz6.symm), fun j hj => ⟨(HSS.out j hj).1, by rw [hsz6]; exact (HSS.out j hj).2⟩⟩
    have hlv := run_loadVar_row (P := Tryd.prog) W6 (w.heap.size + 1 + 1) 38 38 pp (0, 0) _ hrow6 Tryd.underlying38 rfl HIQ.out
    simp [results, Tryd.results16, asAddr, hlv]
end Go.Proofs.YtdfpeilflinmhaaDoor
