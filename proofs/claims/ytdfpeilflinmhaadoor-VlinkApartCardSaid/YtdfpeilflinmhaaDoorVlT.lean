/-
  Messages that came in; who is asked for them.
-/
import Derived.Test.YtdfpeilflinmhaaDoorVlP
namespace Go.Proofs.YtdfpeilflinmhaaDoor
open Go.RowKit Go.Deep Go.ChangeShapes Go.WideShapes
set_option linter.unusedVariables false
set_option linter.unusedSimpArgs false

structure Ms where
  data : List Nat
  is : Bool
deriving Inhabited
/-- where messages lie -/
def MsAt (w : World) (A : Option Addr) (L : List Ms) : Prop := Lies w A L.length 2 fun i b o => ∃ Ai ci, w.cell? ⟨b, o, none⟩ = some (.slice Ai (L.getD i default).data.length ci) ∧ w.cell? ⟨b, o + 1, none⟩ = some (.bool (L.getD i default).is) ∧
  (L.getD i default).data.length ≤ ci ∧ ci ≤ maxLen ∧ Bytes w Ai (L.getD i default).data
theorem MsAt.of_below {w w' : World} {A : Option Addr} {L : List Ms} {B : Nat} (h : MsAt w A L) (hb : Below B w w') (hB : w.heap.size ≤ B) : MsAt w' A L :=
  Lies.of_below h hb hB fun _ _ _ _ hlt ⟨Ai, ci, h0, h1, h2, h3, h4⟩ => ⟨Ai, ci, cell_below hb hB hlt h0, cell_below hb hB hlt h1, h2, h3, h4.of_below hb hB⟩
theorem MsAt.at {w : World} {A : Option Addr} {L : List Ms} (h : MsAt w A L) {k : Nat} (hk : k < L.length) : ∃ b off Ai ci, A = some ⟨b, off, none⟩ ∧ b < w.heap.size ∧ w.cell? ⟨b, off + k * 2, none⟩ = some (.slice Ai (L.getD k default).data.length ci) ∧ w.cell? ⟨b, off + k * 2 + 1, none⟩ = some (.bool (L.getD k default).is) ∧
    (L.getD k default).data.length ≤ ci ∧ ci ≤ maxLen ∧ Bytes w Ai (L.getD k default).data := by
  rcases h with h0 | ⟨b, off, rfl, hlt, hc⟩
  · omega
  · obtain ⟨Ai, ci, h1⟩ := hc k hk
    exact ⟨b, off, Ai, ci, rfl, hlt, h1⟩
section
variable {H : Type} {enc : TypeId × Value → H} {w : World}
set_option maxRecDepth 100000 in
theorem ms_of {fuel : Nat} {v : Value} {x : DataW H × List MemPlace} (h : DataW.trod enc Tryd.prog w 0 (fun _ => true) true fuel 29 [v] = some x) :
    ∃ (A : Option Addr) (L : List Ms) (c : Nat), v = .slice A L.length c ∧ L.length ≤ c ∧ c ≤ maxLen ∧ MsAt w A L := by
  have k : Tryd.prog.cellsOf 58 = 2 := by kernel_rfl
  obtain ⟨A, L, c, h1, h2, h3, h4, _⟩ := lies_of (α := Ms) (k := 2) (p := fun z b o => ∃ Ai ci, w.cell? ⟨b, o, none⟩ = some (.slice Ai z.data.length ci) ∧ w.cell? ⟨b, o + 1, none⟩ = some (.bool z.is) ∧ z.data.length ≤ ci ∧ ci ≤ maxLen ∧ Bytes w Ai z.data) Tryd.underlying29 k (by omega)
    (fun n b o cs y hl hc ht => by
      obtain ⟨v0, m0, y0, e0, t0⟩ := field_of Tryd.underlying58 (by kernel_rfl) ht 0 _ rfl (by omega)
      obtain ⟨v1, m1, y1, e1, t1⟩ := field_of Tryd.underlying58 (by kernel_rfl) ht 1 _ rfl (by omega)
      obtain ⟨a, len, cap, rfl⟩ : ∃ a len cap, v0 = .slice a len cap := by
        rcases open_ints Tryd.underlying53 Tryd.underlying5 (by kernel_rfl) t0 with ⟨hcs, _⟩ | ⟨b, len', cap', zs, hcs, _⟩
        · simp at hcs; exact ⟨_, _, _, hcs⟩
        · simp at hcs; exact ⟨_, _, _, hcs⟩
      obtain ⟨l, rfl, l1, l2, l3⟩ := bytes_of t0
      obtain ⟨bb, hb, _⟩ := DataW.trod_bool Tryd.underlying4 t1
      simp at hb
      subst hb
      exact ⟨⟨l, bb⟩, a, cap, (hc 0 (by omega)).trans e0, (hc 1 (by omega)).trans e1, l1, l2, l3⟩) h
  exact ⟨A, L, c, h1, h2, h3, h4⟩
end

def isL (L : List Ms) (z : Int) : Bool := decide (0 ≤ z) && decide (z.toNat < L.length) && (L.getD z.toNat default).is
def dtL (L : List Ms) (z : Int) : List Nat := if 0 ≤ z ∧ z.toNat < L.length then (L.getD z.toNat default).data else []
/-- are messages more than statements go through? -/
def greatL (L : List Ms) : Bool := decide (100 < L.length) || L.any fun x => decide (100 < x.data.length)

set_option maxRecDepth 100000 in
set_option maxHeartbeats 1000000 in
theorem greatl_at (A : Option Addr) (m : Nat) (L : List Ms) (w : World) (h : MsAt w A L) (hl : L.length ≤ 9223372036854775807) :
    Calls Tryd.prog 14 #[.slice A L.length m] w fun e w' => e = .returned (.bool (greatL L)) ∧ w' = w := by
  have HL := hide h
  clear h
  by_cases h1 : L.length ≤ 100
  · have hg0 : greatL L = L.any fun x => decide (100 < x.data.length) := by unfold greatL; rw [decide_eq_false (by omega)]; rfl
    have HT : Hid (∀ k, k < L.length → 100 < (L.getD k default).data.length → greatL L = true) := fun k hk h2 => by
      rw [hg0, List.any_eq_true]
      rw [List.getD_eq_getElem?_getD, List.getElem?_eq_getElem hk] at h2
      exact ⟨L[k], List.getElem_mem hk, by simpa using h2⟩
    have HF : Hid ((∀ k, k < L.length → (L.getD k default).data.length ≤ 100) → greatL L = false) := fun h2 => by
      rw [hg0, List.any_eq_false]
      intro x hx
      obtain ⟨k, hk, rfl⟩ := List.getElem_of_mem hx
      have := h2 k hk
      rw [List.getD_eq_getElem?_getD, List.getElem?_eq_getElem hk] at this
      simpa using this
    clear hg0
    generalize greatL L = g at HT HF ⊢
    have hli : ¬ (100 < ((L.length : Nat) : Int)) := by omega
    go_enter Tryd.func14, Tryd.ntmps14
    go_wp2_with fail
    go_loopw [9, 3, 2] (fun i s3 s2 W => ∃ k : Nat, k ≤ L.length ∧ i = .int .i64 k ∧ W = w ∧ ∀ j, j < k → (L.getD j default).data.length ≤ 100) (fun i _ _ _ => L.length - (intOf i).toNat)
    case atStart => exact ⟨0, by omega, rfl, rfl, by omega⟩
    case round =>
      obtain ⟨k, hk, rfl, rfl, hno⟩ := hrel
      have HNO := hide hno
      clear hno
      by_cases hlt : k < L.length
      · obtain ⟨b, off, Ai, ci, hA, hb, c0, c1, _, hm, hby⟩ := HL.out.at hlt
        subst hA
        have HK := hide (HT.out k hlt)
        have HKL := hide (show k + 1 ≤ L.length by omega)
        have HN2 : Hid ((L.getD k default).data.length ≤ 100 → ∀ j, j < k + 1 → (L.getD j default).data.length ≤ 100) := fun h j hj => by
          rcases Nat.lt_succ_iff_lt_or_eq.1 hj with h5 | rfl
          · exact HNO.out j h5
          · exact h
        generalize (L.getD k default).data.length = dl at c0 HK HN2
        clear c1 hby HT HF HL HNO
        by_cases h2 : 100 < dl
        · have h3 : (100 : Int) < ((dl : Nat) : Int) := by omega
          have HR := hide (HK.out h2)
          go_wp2
          go_ret
          exact ⟨by rw [HR.out]; rfl, by first | trivial | rfl⟩
        · have h3 : ¬ (100 : Int) < ((dl : Nat) : Int) := by omega
          go_wp2
          go_roundw
          case rel => exact ⟨k + 1, HKL.out, by go_num, by first | trivial | rfl, HN2.out (by omega)⟩
          case measure => have := HKL.out; simp [intOf]; omega
      · obtain rfl : k = L.length := by omega
        have HR := hide (HF.out HNO.out)
        go_wp2
        go_ret
        exact ⟨by rw [HR.out]; rfl, by first | trivial | rfl⟩
  · have hg0 : greatL L = true := by unfold greatL; rw [decide_eq_true (by omega)]; rfl
    have hli : (100 : Int) < ((L.length : Nat) : Int) := by omega
    rw [hg0]
    go_enter Tryd.func14, Tryd.ntmps14
    go_wp2
    go_ret
    exact ⟨rfl, rfl⟩

/-! ### Who is asked -/
theorem info_vnum : (Tryd.prog.info? 3).map (fun i => (i.zero, i.size, i.bytes)) = some (some (.int .i64 0), 1, 8) := by kernel_rfl
/-- who answers for ports, in the block xa: what was asked so far; messages lie where they lay in wm -/
structure AsH (wm : World) (xa : Nat) (A : Option Addr) (n m : Nat) (l : List Int) (S : Nat → Prop) (W : World) : Prop where
  old : ∀ j, j < wm.heap.size → W.heap[j]? = wm.heap[j]?
  siz : wm.heap.size ≤ W.heap.size
  ex : ∃ av, W.heap[xa]? = some (.cells #[.slice A n m, av] 37 (0, 0)) ∧ W.ownsRow wm.heap.size 3 1 av l.length (l.map (.int .i64)) ∧ ∀ j, S j ↔ (j < wm.heap.size ∨ j = xa ∨ av.ownBlock = some j)
theorem isL_no {L : List Ms} {z : Int} (h : ¬ (0 ≤ z ∧ z.toNat < L.length)) : isL L z = false ∧ dtL L z = [] := by
  constructor
  · unfold isL
    by_cases h1 : 0 ≤ z
    · rw [decide_eq_false (p := z.toNat < L.length) (fun h2 => h ⟨h1, h2⟩)]; simp
    · rw [decide_eq_false h1]; simp
  · unfold dtL; rw [if_neg h]
theorem isL_yes {L : List Ms} {k : Nat} (h : k < L.length) : isL L (k : Int) = (L.getD k default).is ∧ dtL L (k : Int) = (L.getD k default).data := by
  constructor
  · unfold isL
    rw [Int.toNat_natCast, decide_eq_true (show (0 : Int) ≤ k by omega), decide_eq_true h]; rfl
  · unfold dtL; rw [Int.toNat_natCast, if_pos ⟨by omega, h⟩]

/-- what a call of who answers leaves -/
def TkPost (wm : World) (lo xa : Nat) (A : Option Addr) (n m : Nat) (l : List Int) (port : Int) (S : Nat → Prop) (W : World) (dt : List Nat) (il : Bool) (e : Ending) (W' : World) : Prop :=
  ∃ A' cap S', e = .returned (.tuple #[.slice A' dt.length cap, .bool il]) ∧ Bytes W' A' dt ∧ (∀ b off, A' = some ⟨b, off, none⟩ → dt ≠ [] → b < lo) ∧ AsH wm xa A n m (l ++ [port]) S' W' ∧ (∀ j, S' j → S j ∨ W.heap.size ≤ j) ∧
      (∀ j, S' j → j < W'.heap.size) ∧ (∀ j, j < W.heap.size → ¬ S j → W'.heap[j]? = W.heap[j]?) ∧ Below wm.heap.size W W'
theorem AsH.drewN {wm : World} {xa : Nat} {A : Option Addr} {n m : Nat} {l : List Int} {S : Nat → Prop} {W : World} (h : AsH wm xa A n m l S W) (k : Nat) : AsH wm xa A n m l S (W.drewN k) := by
  obtain ⟨h1, h2, av, h3, h4, h5⟩ := h
  exact ⟨h1, h2, av, h3, ow_stands h4 fun _ _ => rfl, h5⟩
set_option maxRecDepth 100000 in
set_option maxHeartbeats 1000000 in
theorem takes_at (wm : World) (xa : Nat) (A : Option Addr) (m : Nat) (L : List Ms) (hxa : wm.heap.size ≤ xa) (hMs : MsAt wm A L) (lo : Nat) (hlo : wm.heap.size ≤ lo) (D : List Int) :
    Takes wm.heap.size lo (.pointer (some ⟨xa, 0, none⟩)) (isL L) (dtL L) D (AsH wm xa A L.length m) := by
  refine ⟨?_, ?_⟩
  · rintro l S W W' ⟨ho, hs, av, hx, hr, hS⟩ hk hz
    exact ⟨fun j hj => (hk j ((hS j).2 (.inl hj))).trans (ho j hj), by omega, av, (hk xa ((hS xa).2 (.inr (.inl rfl)))).trans hx, ow_stands hr fun k e => hk k ((hS k).2 (.inr (.inr e))), hS⟩
  · rintro l S W port _ ⟨ho, hs, av, hx, hr, hS⟩ hSl _ hloW hl
    obtain ⟨vA, vc, rfl⟩ := ow_slice hr
    have hxl := hSl xa ((hS xa).2 (.inr (.inl rfl)))
    have hne : ∀ k, (Value.slice vA l.length vc).ownBlock = some k → k ≠ xa ∧ wm.heap.size ≤ k ∧ k < W.heap.size := fun k e => ⟨fun ek => ow_ne hr hx (by decide) (ek ▸ e), (ow_block hr e).2.1, (ow_block hr e).1⟩
    have c0 : W.cell? ⟨xa, 0, none⟩ = some (.slice A L.length m) := by rw [cell_of_row _ _ _ _ _ _ hx]; rfl
    have c1 : W.cell? ⟨xa, 1, none⟩ = some (.slice vA l.length vc) := by rw [cell_of_row _ _ _ _ _ _ hx]; rfl
    have ha := bal W (.cells #[.int .i64 port] 3)
    have hown := ow_below hr ha
    have hxa1 := (ha.block _ hxl).trans hx
    have hz1 : (W.alloc (.cells #[.int .i64 port] 3)).heap.size = W.heap.size + 1 := by simp
    have hnw := heap_alloc_new W (.cells #[.int .i64 port] 3)
    have HFin : Hid (∀ w' vB vd, w'.ownsRow wm.heap.size 3 1 (.slice vB (l.length + 1) vd) (l.length + 1) (l.map (.int .i64) ++ [.int .i64 port]) → (W.alloc (.cells #[.int .i64 port] 3)).grownBy w' (Value.slice vA l.length vc).ownBlock →
        ((Value.slice vB (l.length + 1) vd).ownBlock = (Value.slice vA l.length vc).ownBlock ∨ ∀ k, (Value.slice vB (l.length + 1) vd).ownBlock = some k → (W.alloc (.cells #[.int .i64 port] 3)).heap.size ≤ k) →
        w'.cell? ⟨xa, 1, none⟩ = some (.slice vA l.length vc) ∧ w'.frozen? ⟨xa, 1, none⟩ = false ∧ ∃ S', AsH wm xa A L.length m (l ++ [port]) S' (w'.setCell ⟨xa, 1, none⟩ (.slice vB (l.length + 1) vd)) ∧ (∀ j, S' j → S j ∨ W.heap.size ≤ j) ∧
          (∀ j, S' j → j < (w'.setCell ⟨xa, 1, none⟩ (.slice vB (l.length + 1) vd)).heap.size) ∧ (∀ j, j < W.heap.size → ¬ S j → (w'.setCell ⟨xa, 1, none⟩ (.slice vB (l.length + 1) vd)).heap[j]? = W.heap[j]?) ∧ Below wm.heap.size W (w'.setCell ⟨xa, 1, none⟩ (.slice vB (l.length + 1) vd)) ∧
          (w'.setCell ⟨xa, 1, none⟩ (.slice vB (l.length + 1) vd)).cell? ⟨xa, 0, none⟩ = some (.slice A L.length m)) := fun w' vB vd how hgr hor => by
      have hxw : w'.heap[xa]? = some (.cells #[.slice A L.length m, .slice vA l.length vc] 37 (0, 0)) := (hgr.block xa (by omega) fun e => (hne _ e.symm).1 rfl).trans hxa1
      have hxs : (w'.setCell ⟨xa, 1, none⟩ (.slice vB (l.length + 1) vd)).heap[xa]? = some (.cells #[.slice A L.length m, .slice vB (l.length + 1) vd] 37 (0, 0)) := by rw [vset_row hxw]; rfl
      have hzg := hgr.size
      have hkj : ∀ j, j < W.heap.size → j ≠ xa → (Value.slice vA l.length vc).ownBlock ≠ some j → (w'.setCell ⟨xa, 1, none⟩ (.slice vB (l.length + 1) vd)).heap[j]? = W.heap[j]? := fun j h1 h2 h3 => by
        rw [setCell_other h2, hgr.block j (by omega) (fun e => h3 e.symm), ha.block j h1]
      have hbel : Below wm.heap.size W (w'.setCell ⟨xa, 1, none⟩ (.slice vB (l.length + 1) vd)) := vset_below ((ha.mono hs).grown hgr (by omega) fun k e => (hne k e).2.1) hxa _
      have hnx : ∀ k, (Value.slice vB (l.length + 1) vd).ownBlock = some k → k ≠ xa := fun k e ek => ow_ne how hxw (by decide) (ek ▸ e)
      refine ⟨by rw [cell_of_row _ _ _ _ _ _ hxw]; rfl, by unfold World.frozen?; rw [hxw]; rfl, fun j => j < wm.heap.size ∨ j = xa ∨ (Value.slice vB (l.length + 1) vd).ownBlock = some j,
        ⟨fun j hj => (hbel.block j hj).trans (ho j hj), by have := hbel.size; omega, _, hxs, ?_, fun j => Iff.rfl⟩, ?_, ?_, fun j h1 h2 => hkj j h1 (fun e => h2 ((hS j).2 (.inr (.inl e)))) (fun e => h2 ((hS j).2 (.inr (.inr e)))), hbel, by rw [cell_of_row _ _ _ _ _ _ hxs]; rfl⟩
      · rw [List.length_append, List.map_append]
        exact ow_stands how fun k e => setCell_other (hnx k e)
      · rintro j (h | h | h)
        · exact .inl ((hS j).2 (.inl h))
        · exact .inl ((hS j).2 (.inr (.inl h)))
        · rcases hor with e | e
          · rw [e] at h; exact .inl ((hS j).2 (.inr (.inr h)))
          · exact .inr (by have := e j h; omega)
      · rintro j (h | h | h)
        · have := hbel.size; omega
        · have := hbel.size; omega
        · rw [vset_size]; exact (ow_block how h).1
    have HOWN := hide hown; have HNW := hide hnw
    have HM := hide hMs; have HO := hide ho
    clear hr hx hS hne ha hown hxa1 hnw hMs ho
    generalize hdt : dtL L port = dt
    generalize hil : isL L port = il
    have HDT := hide hdt; have HIL := hide hil
    clear hdt hil
    change Calls _ _ _ _ (TkPost wm lo xa A L.length m l port S W dt il)
    obtain ⟨PP, hPP⟩ : ∃ PP, PP = TkPost wm lo xa A L.length m l port S W dt il := ⟨_, rfl⟩
    rw [← hPP]
    have HPP := hide hPP
    clear hPP
    generalize hln : l.length = n at *
    go_enter Tryd.func17, Tryd.ntmps17
    go_upto_region 2 with (refine wpList_one _ rfl (.tmp 10) (.tmp 12) 22 rfl 3 (.int .i64 0) 1 8 Tryd.underlying22 info_vnum rfl (by omega) (by omega) wm.heap.size _ _ _ rfl HOWN.out W.heap.size 1 [.int .i64 port] rfl HNW.out rfl (by simp [Value.oneCell']) (by omega) (by omega) ?_; intro v' W' how hgr hor; obtain ⟨vB, vd, rfl⟩ := ow_slice how; have HF := hide (HFin.out W' vB vd how hgr hor); have hg1 := HF.out.1; have hg2 := HF.out.2.1; clear how hgr hor)
    obtain ⟨_, _, S', hH, f1, f2, f3, f4, f5⟩ := HF.out
    clear HF hg1 hg2 HFin HOWN HNW c0 c1 hz1 hSl
    generalize W'.setCell ⟨xa, 1, none⟩ (.slice vB (n + 1) vd) = W2 at *
    have HE : Hid (∀ A' cap k, Bytes W2 A' dt → (∀ b off, A' = some ⟨b, off, none⟩ → dt ≠ [] → b < lo) → PP (.returned (.tuple #[.slice A' dt.length cap, .bool il])) (W2.drewN k)) := fun A' cap k h1 h2 => by
      rw [HPP.out]
      exact ⟨A', cap, S', rfl, ⟨h1.1, h1.2⟩, h2, hH.drewN k, f1, f2, f3, vdrewN f4 k⟩
    have HS2 := hide hH.siz
    have HO2 := hide hH.old
    clear hH f1 f2 f3 f4
    by_cases h1 : port < 0
    · obtain ⟨i1, i2⟩ := isL_no (L := L) (z := port) (by omega)
      obtain rfl := HDT.out.symm.trans i2
      obtain rfl := HIL.out.symm.trans i1
      go_wp2
      exact HE.out none 0 0 ⟨by simp, .inl rfl⟩ (by intro b off h _; cases h)
    · obtain ⟨k, rfl⟩ := Int.eq_ofNat_of_zero_le (show 0 ≤ port by omega)
      by_cases h2 : k < L.length
      · obtain ⟨i1, i2⟩ := isL_yes h2
        obtain ⟨b, off, Ai, ci, rfl, hb, x0, x1, _, _, hby⟩ := HM.out.at h2
        rw [i2] at HDT
        rw [i1] at HIL
        rw [HDT.out] at x0 hby
        rw [HIL.out] at x1
        have y0 := (World.cell?_of_block (a := ⟨b, off + k * 2, none⟩) (HO2.out b hb)).trans x0
        have y1 := (World.cell?_of_block (a := ⟨b, off + k * 2 + 1, none⟩) (HO2.out b hb)).trans x1
        have hby2 : Bytes W2 Ai dt := ⟨hby.1, hby.2.imp id fun ⟨b, off, e, hlt, hc⟩ => ⟨b, off, e, Nat.lt_of_lt_of_le hlt HS2.out, fun i hi => (World.cell?_of_block (a := ⟨b, off + i, none⟩) (HO2.out b hlt)).trans (hc i hi)⟩⟩
        have hbl : ∀ b off, Ai = some ⟨b, off, none⟩ → dt ≠ [] → b < lo := fun b off e hn => by
          rcases hby.2 with h | ⟨b', off', e', hlt, _⟩
          · exact absurd h hn
          · rw [e] at e'; cases e'; omega
        have HBY := hide hby2; have HBL := hide hbl
        clear x0 x1 hby hby2 hbl HM HO HO2 HDT HIL i1 i2 HPP
        go_wp2_with fail
        go_region
        go_wp2
        exact HE.out Ai ci 1 HBY.out HBL.out
      · obtain ⟨i1, i2⟩ := isL_no (L := L) (z := (k : Int)) (by simp; omega)
        obtain rfl : dt = [] := HDT.out.symm.trans i2
        obtain rfl := HIL.out.symm.trans i1
        go_wp2
        exact HE.out none 0 0 ⟨by simp, .inl rfl⟩ (by intro b off h _; cases h)
end Go.Proofs.YtdfpeilflinmhaaDoor
