/-
  The document's own answers: bytes, and rows of bytes, in memory of their own.
-/
import Derived.Test.YtdimllmbalponaaGen
import Derived.Deep.LoopGhost
namespace Go.Proofs.Ytdimllmbalponaa
open Go.RowKit Go.Shelf
set_option linter.unusedVariables false

set_option maxRecDepth 100000 in
/-- bytes put behind none at all -/
theorem wpList_nil_append {ops : Array Oper} {rest : List Oper} {o : Oper} {a : Act} {w : World} {Q : Exit → Act → World → Prop} (hgd : o.guard = none) (s x : Operand)
    (ho : o.op = .call { callee := .builtin .append, args := #[s, x], argTypes := #[37, 37] })
    (hs : a.eval s = .slice none 0 0) (A : Option Addr) (n c : Nat) (l : List Nat) (hx : a.eval x = .slice A n c) (hl : l.length = n) (hB : Bytes w A l) (hm : n ≤ 1000000)
    (h : ∀ v' w', Got w w' v' l → Below w.heap.size w w' → (∃ A c, v' = .slice A n c) → wpList Try.prog ops Q rest (a.put o.dst v') w') : wpList Try.prog ops Q (o :: rest) a w := by
  obtain ⟨i, hi, hz, hs1, hb⟩ := info_parts info_u8
  refine wpList_plain hgd fun K hK => ?_
  rcases Nat.eq_zero_or_pos n with h0 | h0
  · subst h0
    have hl0 : l = [] := List.eq_nil_of_length_eq_zero hl
    subst hl0
    have hrun : (Builtin.append_ #[37, 37] o.type #[.slice none 0 0, .slice A 0 c]).run Try.prog w = .ok (.slice none 0 0) w := by
      rcases A with _ | ad <;> simp [Builtin.append_, run_underlying Try.underlying37, sizeOf, typeInfo, hi, Builtin.lenOf, Builtin.firstCells, loadCells, loadCellsFrom]
    unfold Oper.wp execOp
    simp only [ho, resolve, invoke, builtin, Sem.run_bind, Sem.run_pure, Result.andThen_ok, List.map_toArray, List.map_cons, List.map_nil, hs, hx, hrun]
    exact hK _ _ (h _ w (.inl ⟨rfl, rfl⟩) (Below.refl _ _) ⟨_, _, rfl⟩)
  · obtain ⟨ad, rfl⟩ := some_of_bytes hB (by omega)
    have hnews : ∀ j u, (l.map fun u : Nat => Value.int .u8 (u : Int))[j]? = some u → w.cell? (ad.add j) = some u := by
      intro j u hu
      rw [List.getElem?_map] at hu
      obtain ⟨e, he, rfl⟩ := Option.map_eq_some_iff.1 hu
      have hj : j < l.length := (List.getElem?_eq_some_iff.1 he).1
      obtain ⟨b, off, h1, _, hc⟩ := hB.at hj
      injection h1 with h1
      subst h1
      have h2 := hc j hj
      rw [List.getD_eq_getElem?_getD, he] at h2
      rw [show (⟨b, off, none⟩ : Addr).add j = ⟨b, off + j, none⟩ by unfold Addr.add; split <;> simp_all]
      exact h2
    refine wp_append_own w s x 37 ho w.heap.size 5 i (.int .u8 0) 1 1 Try.underlying37 hi hz hs1 hb rfl (by omega) (.slice none 0 0) 0 [] hs (World.ownsRow_nil w _ _ _) ad n c (l.map fun u : Nat => Value.int .u8 (u : Int)) hx (by simp [hl]) hnews (by intro u hu; obtain ⟨e, _, rfl⟩ := List.mem_map.1 hu; rfl) (by simp only [maxLen]; omega) (by omega) (Nat.le_refl _) ?_
    intro v' w' h2 h3 h4
    simp only [Nat.zero_add, List.nil_append] at h2
    rcases h2.2 with ⟨rfl, hn⟩ | ⟨g', cap, cur, rfl, hgg, hheap, hncap, hcapm, hcs, htake⟩
    · omega
    · refine hK _ _ (h _ w' (.inr ⟨g', cap, by rw [hl], ⟨rfl, hB.1, hgg, by omega, hcapm, cur, hheap, by simpa using hcs, by simpa [hl] using htake⟩⟩) ((Below.refl _ _).grown h3 (Nat.le_refl _) (fun k hk => by cases hk)) ⟨_, _, rfl⟩)

set_option maxRecDepth 100000 in
set_option maxHeartbeats 1000000 in
theorem twin_at (A : Option Addr) (n c : Nat) (l : List Nat) (w : World) (hl : l.length = n) (hB : Bytes w A l) (hm : n ≤ 1000000) :
    Calls Try.prog 13 #[.slice A n c] w fun e w' => ∃ v, e = .returned v ∧ Got w w' v l ∧ Below w.heap.size w w' := by
  have HB := hide hB; have HL := hide hl
  clear hB hl
  go_enter Try.func13, Try.ntmps13
  go_wp2_with (at_builtin
               refine wpList_nil_append rfl (.tmp 4) (.tmp 5) rfl rfl A n c l rfl HL.out HB.out hm ?_
               rintro v' w' hg hb ⟨A', c', rfl⟩
               have HG := hide hg; have HBl := hide hb
               clear hg hb)
  go_ret
  exact ⟨_, rfl, HG.out, HBl.out⟩

/-- a row of bytes: its block and room, its bytes -/
structure Rw where
  blk : Nat
  cap : Nat
  txt : List Nat
def Rw.cell (r : Rw) : Value := .slice (some ⟨r.blk, 0, none⟩) r.txt.length r.cap
def Rw.at (W : World) (base : Nat) (r : Rw) : Prop := OwnS W base r.blk r.txt.length r.cap r.txt
instance : Inhabited Rw := ⟨⟨0, 0, []⟩⟩
/-- rows of the call's own -/
structure Rws (W : World) (base : Nat) (h : Value) (rs : List Rw) : Prop where
  own : W.ownsRow base 37 1 h rs.length (rs.map Rw.cell)
  each : ∀ r ∈ rs, r.at W base
theorem Rws.nil (W : World) (base : Nat) : Rws W base (.slice none 0 0) [] := ⟨World.ownsRow_nil W _ _ _, by simp⟩
theorem Rws.blk {W : World} {base : Nat} {h : Value} {rs : List Rw} (x : Rws W base h rs) {k : Nat} (hk : h.ownBlock = some k) : k < W.heap.size ∧ base ≤ k ∧ ∃ cur, W.heap[k]? = some (.cells cur 37 (0, 0)) := by
  rcases x.own.2 with ⟨rfl, _⟩ | ⟨g, cap, cur, rfl, hg, hh, _⟩
  · cases hk
  · simp [Value.ownBlock] at hk
    subst hk
    exact ⟨(Array.getElem?_eq_some_iff.1 hh).1, hg, cur, hh⟩
theorem Rws.stands {W W' : World} {base : Nat} {h : Value} {rs : List Rw} (x : Rws W base h rs) (hb : ∀ k, h.ownBlock = some k → W'.heap[k]? = W.heap[k]?) (hr : ∀ r ∈ rs, W'.heap[r.blk]? = W.heap[r.blk]?) : Rws W' base h rs := by
  refine ⟨⟨x.own.1, ?_⟩, fun r h => OwnS.kept (x.each r h) (hr r h)⟩
  rcases x.own.2 with h1 | ⟨g, cap, cur, rfl, h2, h3, h4⟩
  · exact .inl h1
  · exact .inr ⟨g, cap, cur, rfl, h2, (hb g rfl).trans h3, h4⟩
theorem Rws.later {W W' : World} {base : Nat} {h : Value} {rs : List Rw} (x : Rws W base h rs) (hb : Below W.heap.size W W') : Rws W' base h rs :=
  x.stands (fun k hk => hb.block k (x.blk hk).1) (fun r hr => hb.block _ (OwnS.blk (x.each r hr)))
theorem Rws.from {W : World} {base base' : Nat} {h : Value} {rs : List Rw} (x : Rws W base h rs) (hb : base' ≤ base) : Rws W base' h rs := by
  refine ⟨⟨x.own.1, ?_⟩, fun r h => OwnS.from (x.each r h) (Nat.le_trans hb (OwnS.base (x.each r h)))⟩
  rcases x.own.2 with h1 | ⟨g, cap, cur, h1, h2, h3⟩
  · exact .inl h1
  · exact .inr ⟨g, cap, cur, h1, Nat.le_trans hb h2, h3⟩
theorem Rws.len {W : World} {base : Nat} {h : Value} {rs : List Rw} (x : Rws W base h rs) : ∃ A cap, h = .slice A rs.length cap ∧ rs.length ≤ cap ∧ cap ≤ maxLen := by
  rcases x.own.2 with ⟨h1, h2⟩ | ⟨g, cap, cur, h1, _, _, h2, h3, _⟩
  · exact ⟨none, 0, by rw [h1, h2], by omega, Nat.zero_le _⟩
  · exact ⟨_, cap, h1, h2, h3⟩
/-- rows that can be read, wherever they begin -/
def RowsAt (w : World) (A : Option Addr) (rs : List Rw) : Prop :=
  (rs = [] ∨ ∃ g off, A = some ⟨g, off, none⟩ ∧ g < w.heap.size ∧ ∀ i r, rs[i]? = some r → w.cell? ⟨g, off + i, none⟩ = some r.cell) ∧ ∀ r ∈ rs, Bytes w (some ⟨r.blk, 0, none⟩) r.txt
theorem RowsAt.of_below {w w' : World} {A : Option Addr} {rs : List Rw} {B : Nat} (h : RowsAt w A rs) (hb : Below B w w') (hB : w.heap.size ≤ B) : RowsAt w' A rs := by
  refine ⟨?_, fun r hr => (h.2 r hr).of_below hb hB⟩
  rcases h.1 with h1 | ⟨g, off, rfl, h2, h3⟩
  · exact .inl h1
  · exact .inr ⟨g, off, rfl, by have := hb.size; omega, fun i r hi => (hb.cell (p := ⟨g, off + i, none⟩) (by show g < B; omega)).trans (h3 i r hi)⟩
theorem Rws.reads {W : World} {base : Nat} {h : Value} {rs : List Rw} (x : Rws W base h rs) : ∃ A cap, h = .slice A rs.length cap ∧ rs.length ≤ cap ∧ cap ≤ maxLen ∧ RowsAt W A rs := by
  have hby : ∀ r ∈ rs, Bytes W (some ⟨r.blk, 0, none⟩) r.txt := fun r hr => OwnS.bytes (x.each r hr)
  rcases x.own.2 with ⟨h1, h2⟩ | ⟨g, cap, cur, h1, h0, h4, h2, h3, _⟩
  · exact ⟨none, 0, by rw [h1, h2], by omega, Nat.zero_le _, .inl (List.eq_nil_of_length_eq_zero h2), hby⟩
  · subst h1
    refine ⟨_, cap, rfl, h2, h3, .inr ⟨g, 0, rfl, (Array.getElem?_eq_some_iff.1 h4).1, fun i r hi => ?_⟩, hby⟩
    have hlt := (List.getElem?_eq_some_iff.1 hi).1
    rw [Nat.zero_add, x.own.cellAt i (by simpa using hlt), List.getElem?_map, hi]
    rfl

/-- one row put behind rows of the call's own -/
theorem wpList_row_append {ops : Array Oper} {rest : List Oper} {o : Oper} {a : Act} {w : World} {Q : Exit → Act → World → Prop} (hgd : o.guard = none) (s x : Operand)
    (ho : o.op = .call { callee := .builtin .append, args := #[s, x], argTypes := #[29, 29] })
    (base : Nat) (h : Value) (rs : List Rw) (hs : a.eval s = h) (hown : Rws w base h rs) (q c : Nat) (r : Rw) (hx : a.eval x = .slice (some ⟨q, 0, none⟩) 1 c) (hq : w.cell? ⟨q, 0, none⟩ = some r.cell) (hr : r.at w base) (hrn : h.ownBlock ≠ some r.blk) (hn : rs.length ≤ 100000) (hbase : base ≤ w.heap.size)
    (hk : ∀ h' w', Rws w' base h' (rs ++ [r]) → w.grownBy w' h.ownBlock → (h'.ownBlock = h.ownBlock ∨ ∀ k, h'.ownBlock = some k → w.heap.size ≤ k) → wpList Try.prog ops Q rest (a.put o.dst h') w') : wpList Try.prog ops Q (o :: rest) a w := by
  have hi3 : (Try.prog.info? 37).map (fun i => (i.zero, i.size, i.bytes)) = some (some (.slice none 0 0), 1, 24) := by kernel_rfl
  rcases hi : Try.prog.info? 37 with _ | i
  · rw [hi] at hi3; cases hi3
  rw [hi] at hi3
  simp only [Option.map_some, Option.some.injEq, Prod.mk.injEq] at hi3
  obtain ⟨hz, hs2, hb⟩ := hi3
  have hnews : ∀ j y, [r.cell][j]? = some y → w.cell? ((⟨q, 0, none⟩ : Addr).add j) = some y := by
    intro j y hy
    rcases j with _ | j
    · injection hy with hy; subst hy
      rw [show (⟨q, 0, none⟩ : Addr).add 0 = ⟨q, 0, none⟩ by unfold Addr.add; split <;> simp_all]; exact hq
    · simp at hy
  have hone : ∀ y ∈ [r.cell], y.oneCell' = true := by intro y hy; rw [List.mem_singleton.1 hy]; rfl
  refine wpList_plain hgd fun K hK => ?_
  obtain ⟨v', w', hr', h2, h3, _⟩ := run_append_own (P := Try.prog) w base 29 o.type 37 i _ 1 24 Try.underlying29 hi hz hs2 hb rfl (by omega) h rs.length (rs.map Rw.cell) hown.own ⟨q, 0, none⟩ 1 c [r.cell] rfl hnews hone (by simp only [maxLen]; omega) (by omega) hbase
  have h4 := app_where base 29 o.type 37 i _ 1 Try.underlying29 hi hz hs2 h rs.length (rs.map Rw.cell) hown.own ⟨q, 0, none⟩ 1 c [r.cell] rfl hnews hone (by omega) (by simp only [maxLen]; omega) (by rw [hb]; omega) hr'
  unfold Oper.wp execOp
  simp only [ho, resolve, invoke, builtin, Sem.run_bind, Sem.run_pure, Result.andThen_ok, List.map_toArray, List.map_cons, List.map_nil, hs, hx, hr']
  have key : ∀ r' : Rw, r'.at w base → r'.at w' base := by
    intro r' hr1
    refine OwnS.kept hr1 (h3.block _ (OwnS.blk hr1) (fun e => ?_))
    obtain ⟨_, _, cur, hc⟩ := hown.blk e.symm
    obtain ⟨cur', hc', _⟩ := OwnS.row hr1
    rw [hc'] at hc
    injection hc with hc
    injection hc with _ hc
    exact absurd hc (by decide)
  refine hK _ _ (hk v' w' ⟨by simpa using h2, fun r' hr1 => ?_⟩ h3 h4)
  rcases List.mem_append.1 hr1 with h5 | h5
  · exact key r' (hown.each r' h5)
  · rw [List.mem_singleton.1 h5]; exact key r hr
end Go.Proofs.Ytdimllmbalponaa
