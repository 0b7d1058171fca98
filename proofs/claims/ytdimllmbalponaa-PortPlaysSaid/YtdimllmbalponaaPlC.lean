/-
  A box, the document's own, and what is kept, side by side.
-/
import Derived.Test.YtdimllmbalponaaPlB
namespace Go.Proofs.Ytdimllmbalponaa
open Go.RowKit Go.Shelf
set_option linter.unusedVariables false

/-- a block of cells of none of these types -/
def Kin (W : World) (k : Nat) (ts : List TypeId) : Prop := ∃ cs t, W.heap[k]? = some (.cells cs t (0, 0)) ∧ t ∉ ts
theorem Kin.ne {W : World} {k b : Nat} {ts : List TypeId} {cs : Array Value} {t : TypeId} (h : Kin W k ts) (h' : W.heap[b]? = some (.cells cs t (0, 0))) (ht : t ∈ ts) : b ≠ k := by
  rintro rfl
  obtain ⟨cs', t', h1, h2⟩ := h
  rw [h'] at h1
  injection h1 with h1
  injection h1 with _ h1
  exact h2 (h1 ▸ ht)
theorem Off.sub {X X' : Nat → Prop} {h : Value} {rs : List Rw} (x : Off X h rs) (hX : ∀ k, X' k → X k) : Off X' h rs := ⟨fun r hr e => x.1 r hr (hX _ e), fun k hk e => x.2 k hk (hX _ e)⟩
section
variable {W W' : World} {B base b : Nat} {K X X' Xs : Nat → Prop} {P : Prm} {S : St}
theorem RefS.wide (x : RefS W base b P S X) (hX : ∀ k, k < W.heap.size → X' k → X k) : RefS W base b P S X' := by
  obtain ⟨h, rs, slot, y, h1⟩ := x.is
  exact ⟨⟨h, rs, slot, { y with off := ⟨fun r hr e => y.off.1 r hr (hX _ (OwnS.blk (y.rws.each r hr)) e), fun k hk e => y.off.2 k hk (hX _ (y.rws.blk hk).1 e)⟩ }, h1⟩, x.size, x.few⟩
theorem RefS.ch (x : RefS W base b P S X) (c : Ch B K W W') (hK : ∀ k, k < W.heap.size → K k → Kin W k [31] ∧ (X k ∨ Kin W k [37, 5])) : RefS W' base b P S X := by
  obtain ⟨h, rs, slot, y, h1⟩ := x.is
  refine ⟨⟨h, rs, slot, ⟨y.lo, (c.blk b y.lt (fun e => ?_)).trans y.row, y.rws.ch c (fun k hk e => ?_) (fun r hr e => ?_), y.off⟩, h1⟩, x.size, x.few⟩
  · exact (hK b y.lt e).1.ne y.row (by simp) rfl
  · obtain ⟨hlt, _, cur, hc⟩ := y.rws.blk hk
    rcases (hK k hlt e).2 with h2 | h2
    · exact y.off.2 k hk h2
    · exact h2.ne hc (by simp) rfl
  · obtain ⟨cur, hc, _⟩ := OwnS.row (y.rws.each r hr)
    rcases (hK _ (OwnS.blk (y.rws.each r hr)) e).2 with h2 | h2
    · exact y.off.1 r hr h2
    · exact h2.ne hc (by simp) rfl
theorem KeptW.chK {kb : Nat} {hT hW : Value} {tT tW : List Rw} (x : KeptW W base kb hT hW tT tW) (c : Ch B K W W') (h1 : ∀ r ∈ tT, ¬ Xs r.blk) (h2 : ∀ r ∈ tW, ¬ Xs r.blk) (hK : ∀ k, k < W.heap.size → K k → Kin W k [36, 37] ∧ (Xs k ∨ Kin W k [5])) : KeptW W' base kb hT hW tT tW := by
  refine x.ch c (fun e => ?_) (fun k hk e => ?_) (fun k hk e => ?_) (fun r hr e => ?_) (fun r hr e => ?_)
  · exact (hK _ (Array.getElem?_eq_some_iff.1 x.row).1 e).1.ne x.row (by simp) rfl
  · obtain ⟨hlt, _, cur, hc⟩ := x.told.blk hk
    exact (hK _ hlt e).1.ne hc (by simp) rfl
  · obtain ⟨hlt, _, cur, hc⟩ := x.was.blk hk
    exact (hK _ hlt e).1.ne hc (by simp) rfl
  · obtain ⟨cur, hc, _⟩ := OwnS.row (x.told.each r hr)
    rcases (hK _ (OwnS.blk (x.told.each r hr)) e).2 with h3 | h3
    · exact h1 r hr h3
    · exact h3.ne hc (by simp) rfl
  · obtain ⟨cur, hc, _⟩ := OwnS.row (x.was.each r hr)
    rcases (hK _ (OwnS.blk (x.was.each r hr)) e).2 with h3 | h3
    · exact h2 r hr h3
    · exact h3.ne hc (by simp) rfl
theorem BoxS.ch {h : Value} {ms : List Msg} (x : BoxS W base b P h ms S) (c : Ch B K W W') (hm : ∀ m ∈ ms, ¬ Xs m.blk) (hK : ∀ k, k < W.heap.size → K k → Kin W k [60, 76] ∧ (Xs k ∨ Kin W k [5])) : BoxS W' base b P h ms S := by
  refine { x with box := x.box.stands (c.blk b x.box.lt fun e => ?_) (fun k hk => c.blk k (x.box.own_lt hk).1 fun e => ?_) (fun m hm' => c.blk _ (OwnS.blk (x.box.each m hm')) fun e => ?_) }
  · exact (hK b x.box.lt e).1.ne x.box.row (by simp) rfl
  · obtain ⟨hlt, _, cur, hc⟩ := x.box.own_lt hk
    exact (hK k hlt e).1.ne hc (by simp) rfl
  · obtain ⟨cur, hc, _⟩ := OwnS.row (x.box.each m hm')
    rcases (hK _ (OwnS.blk (x.box.each m hm')) e).2 with h2 | h2
    · exact hm m hm' h2
    · exact h2.ne hc (by simp) rfl
end
theorem Keep.ch {base b : Nat} {h : Value} {w w' : World} (k : Keep base b h w w') : Ch base (fun k => k = b ∨ h.ownBlock = some k) w w' := ⟨k.bel, fun i hi hn => k.blk i hi (fun e => hn (.inl e)) (fun e => hn (.inr e.symm)), k.siz⟩
theorem KeepB.ch {base b : Nat} {w w' : World} (k : KeepB base b w w') : Ch base (fun k => k = b) w w' := ⟨k.bel, fun i hi hn => k.blk i hi hn, k.siz⟩
theorem BoxW.kin {W : World} {base b : Nat} {P : Prm} {h : Value} {ms : List Msg} {lost : Bool} (x : BoxW W base b P h ms lost) {k : Nat} (hk : k = b ∨ h.ownBlock = some k) : Kin W k [31, 36, 37, 5] := by
  rcases hk with rfl | hk
  · exact ⟨_, _, x.row, by decide⟩
  · obtain ⟨_, _, cur, hc⟩ := x.own_lt hk
    exact ⟨_, _, hc, by decide⟩
theorem Kin.sub {W : World} {k : Nat} {ts ts' : List TypeId} (h : Kin W k ts) (hs : ∀ t ∈ ts', t ∈ ts) : Kin W k ts' := by
  obtain ⟨cs, t, h1, h2⟩ := h
  exact ⟨cs, t, h1, fun e => h2 (hs t e)⟩

/-- a box, the document's own, and what is kept; no row of bytes that they hold lies in these blocks -/
structure Pl (W : World) (base b rb kb : Nat) (P : Prm) (Sa Sr : St) (Xs : Nat → Prop) (h : Value) (ms : List Msg) (hT hW : Value) (tT tW : List Rw) : Prop where
  box : BoxS W base b P h ms Sa
  ref : RefS W base rb P Sr (fun k => Xs k ∨ hT.ownBlock = some k ∨ hW.ownBlock = some k)
  kept : KeptW W base kb hT hW tT tW
  xm : ∀ m ∈ ms, ¬ Xs m.blk
  xT : ∀ r ∈ tT, ¬ Xs r.blk
  xW : ∀ r ∈ tW, ¬ Xs r.blk
section
variable {W W' : World} {B base b rb kb : Nat} {P : Prm} {Sa Sr S' : St} {Xs Xs' K : Nat → Prop} {h h' : Value} {ms ms' : List Msg} {hT hW hT' hW' : Value} {tT tW : List Rw}
theorem Pl.wide (p : Pl W base b rb kb P Sa Sr Xs h ms hT hW tT tW) (hX : ∀ k, k < W.heap.size → Xs' k → Xs k) : Pl W base b rb kb P Sa Sr Xs' h ms hT hW tT tW :=
  ⟨p.box, p.ref.wide fun k hk e => e.imp (hX k hk) id, p.kept, fun m hm e => p.xm m hm (hX _ (OwnS.blk (p.box.box.each m hm)) e), fun r hr e => p.xT r hr (hX _ (OwnS.blk (p.kept.told.each r hr)) e), fun r hr e => p.xW r hr (hX _ (OwnS.blk (p.kept.was.each r hr)) e)⟩
/-- a call on the box -/
theorem Pl.step (p : Pl W base b rb kb P Sa Sr Xs h ms hT hW tT tW) (y : BoxS W' base b P h' ms' S') (k : KeepH base b h h' W W') (hm : ∀ m ∈ ms', ¬ Xs m.blk) : Pl W' base b rb kb P S' Sr Xs h' ms' hT hW tT tW :=
  ⟨y, p.ref.ch k.toKeep.ch fun k _ e => ⟨(p.box.box.kin e).sub (by simp), .inr ((p.box.box.kin e).sub (by simp))⟩, p.kept.chK k.toKeep.ch p.xT p.xW fun k _ e => ⟨(p.box.box.kin e).sub (by simp), .inr ((p.box.box.kin e).sub (by simp))⟩, hm, p.xT, p.xW⟩
theorem Pl.went (p : Pl W base b rb kb P Sa Sr Xs h ms hT hW tT tW) (g : Went W W' base b P h ms S') (hX : ∀ k, Xs k → k < W.heap.size) : ∃ h' ms', Pl W' base b rb kb P S' Sr Xs h' ms' hT hW tT tW ∧ KeepH base b h h' W W' := by
  obtain ⟨h', ms', y, k, hm⟩ := g.is
  refine ⟨h', ms', p.step y k fun m hm' e => ?_, k⟩
  rcases hm m hm' with h1 | h1
  · exact p.xm m h1 e
  · have := hX _ e; omega
theorem Pl.wentB (p : Pl W base b rb kb P Sa Sr Xs h ms hT hW tT tW) (g : WentB W W' base b P h ms S') : ∃ h' ms', Pl W' base b rb kb P S' Sr (fun k => Xs k ∨ (W.heap.size ≤ k ∧ k < W'.heap.size)) h' ms' hT hW tT tW ∧ KeepH base b h h' W W' := by
  obtain ⟨h', ms', y, k, hm⟩ := g.is
  have q : Pl W base b rb kb P Sa Sr (fun k => Xs k ∨ (W.heap.size ≤ k ∧ k < W'.heap.size)) h ms hT hW tT tW := p.wide fun k hk e => by
    rcases e with e | e
    · exact e
    · omega
  exact ⟨h', ms', q.step y k fun m hm' => q.xm m ((hm m hm').resolve_right id), k⟩
/-- a call on the document's own -/
theorem Pl.refd (p : Pl W base b rb kb P Sa Sr Xs h ms hT hW tT tW) (y : RefS W' base rb P S' (fun k => Xs k ∨ hT.ownBlock = some k ∨ hW.ownBlock = some k)) (k : KeepB base rb W W') : Pl W' base b rb kb P Sa S' Xs h ms hT hW tT tW := by
  obtain ⟨_, _, _, z, _⟩ := p.ref.is
  have kn : Kin W rb [60, 76, 36, 37, 5] := ⟨_, _, z.row, by decide⟩
  exact ⟨p.box.ch k.ch p.xm fun k _ e => by subst e; exact ⟨kn.sub (by simp), .inr (kn.sub (by simp))⟩, y, p.kept.chK k.ch p.xT p.xW fun k _ e => by subst e; exact ⟨kn.sub (by simp), .inr (kn.sub (by simp))⟩, p.xm, p.xT, p.xW⟩
/-- bytes are written that none of them holds -/
theorem Pl.wrote (p : Pl W base b rb kb P Sa Sr Xs h ms hT hW tT tW) (c : Ch B K W W') (hK : ∀ k, K k → Xs k ∧ ∃ cur, W.heap[k]? = some (.cells cur 5 (0, 0))) : Pl W' base b rb kb P Sa Sr Xs h ms hT hW tT tW := by
  have kn : ∀ k, K k → Kin W k [60, 76, 31, 36, 37] := fun k hk => by
    obtain ⟨_, cur, h1⟩ := hK k hk
    exact ⟨_, _, h1, by decide⟩
  exact ⟨p.box.ch c p.xm fun k _ e => ⟨(kn k e).sub (by simp), .inl (hK k e).1⟩, p.ref.ch c fun k _ e => ⟨(kn k e).sub (by simp), .inl (.inl (hK k e).1)⟩, p.kept.chK c p.xT p.xW fun k _ e => ⟨(kn k e).sub (by simp), .inl (hK k e).1⟩, p.xm, p.xT, p.xW⟩
/-- what new memory leaves -/
theorem Pl.later (p : Pl W base b rb kb P Sa Sr Xs h ms hT hW tT tW) (hb : Below W.heap.size W W') : Pl W' base b rb kb P Sa Sr Xs h ms hT hW tT tW :=
  ⟨p.box.later hb, p.ref.later hb, p.kept.later hb, p.xm, p.xT, p.xW⟩
/-- behind keep -/
theorem Pl.keep {v : Value} {zm : Nat} {l : List Nat} {a r : Rw} (p : Pl W base b rb kb P Sa Sr Xs' h ms hT hW tT tW) (y : KeptW W' base kb hT' hW' (tT ++ [a]) (tW ++ [r])) (c : Ch base (fun k => k = kb ∨ v.ownBlock = some k ∨ hT.ownBlock = some k ∨ hW.ownBlock = some k) W W')
    (gv : GotB W zm v l) (hv : ∀ k, v.ownBlock = some k → Xs' k) (hX : ∀ k, Xs k → Xs' k ∧ k < zm) (ha : zm ≤ a.blk) (hr : zm ≤ r.blk) (h1 : hT'.ownBlock = hT.ownBlock ∨ ∀ k, hT'.ownBlock = some k → W.heap.size ≤ k) (h2 : hW'.ownBlock = hW.ownBlock ∨ ∀ k, hW'.ownBlock = some k → W.heap.size ≤ k) : Pl W' base b rb kb P Sa Sr Xs h ms hT' hW' (tT ++ [a]) (tW ++ [r]) := by
  have ty : ∀ k, (k = kb ∨ v.ownBlock = some k ∨ hT.ownBlock = some k ∨ hW.ownBlock = some k) → Kin W k [60, 76, 31] ∧ ((Xs' k ∧ v.ownBlock = some k) ∨ Kin W k [5]) ∧ (Xs' k ∨ hT.ownBlock = some k ∨ hW.ownBlock = some k ∨ Kin W k [37, 5]) := by
    intro k hk
    rcases hk with rfl | hk | hk | hk
    · exact ⟨⟨_, _, p.kept.row, by decide⟩, .inr ⟨_, _, p.kept.row, by decide⟩, .inr (.inr (.inr ⟨_, _, p.kept.row, by decide⟩))⟩
    · obtain ⟨_, _, cur, hc⟩ := gv.blk hk
      exact ⟨⟨_, _, hc, by decide⟩, .inl ⟨hv k hk, hk⟩, .inl (hv k hk)⟩
    · obtain ⟨_, _, cur, hc⟩ := p.kept.told.blk hk
      exact ⟨⟨_, _, hc, by decide⟩, .inr ⟨_, _, hc, by decide⟩, .inr (.inl hk)⟩
    · obtain ⟨_, _, cur, hc⟩ := p.kept.was.blk hk
      exact ⟨⟨_, _, hc, by decide⟩, .inr ⟨_, _, hc, by decide⟩, .inr (.inr (.inl hk))⟩
  refine ⟨p.box.ch c p.xm fun k _ e => ⟨(ty k e).1.sub (by simp), (ty k e).2.1.imp (fun h => h.1) id⟩, ?_, y, fun m hm e => p.xm m hm (hX _ e).1, fun q hq e => ?_, fun q hq e => ?_⟩
  · have q : RefS W base rb P Sr (fun k => (Xs' k ∨ hT.ownBlock = some k ∨ hW.ownBlock = some k) ∨ hT'.ownBlock = some k ∨ hW'.ownBlock = some k) := p.ref.wide fun k hk e => by
      rcases e with e | e | e
      · exact e
      · rcases h1 with h1 | h1
        · exact .inr (.inl (h1 ▸ e))
        · have := h1 k e; omega
      · rcases h2 with h2 | h2
        · exact .inr (.inr (h2 ▸ e))
        · have := h2 k e; omega
    have q2 := q.ch c fun k _ e => ⟨(ty k e).1.sub (by simp), by
      rcases (ty k e).2.2 with h3 | h3 | h3 | h3
      · exact .inl (.inl (.inl h3))
      · exact .inl (.inl (.inr (.inl h3)))
      · exact .inl (.inl (.inr (.inr h3)))
      · exact .inr h3⟩
    exact q2.wide fun k _ e => by
      rcases e with e | e
      · exact .inl (.inl (hX k e).1)
      · exact .inr e
  · rcases List.mem_append.1 hq with h3 | h3
    · exact p.xT q h3 (hX _ e).1
    · rw [List.mem_singleton.1 h3] at e; have := (hX _ e).2; omega
  · rcases List.mem_append.1 hq with h3 | h3
    · exact p.xW q h3 (hX _ e).1
    · rw [List.mem_singleton.1 h3] at e; have := (hX _ e).2; omega
end
section
variable {W W' : World} {B base b rb kb : Nat} {P : Prm} {Sa Sr S' : St} {Xs Xs' K : Nat → Prop} {h h' : Value} {ms ms' : List Msg} {hT hW hT' hW' : Value} {tT tW : List Rw}
theorem Pl.rowS (p : Pl W base b rb kb P Sa Sr Xs h ms hT hW tT tW) (k : KeepH base b h h' W W') {j : Nat} {cs : Array Value} {t : TypeId} {fr : Nat × Nat} (hr : W.heap[j]? = some (.cells cs t fr)) (h1 : t ≠ 60) (h2 : t ≠ 76) : W'.heap[j]? = some (.cells cs t fr) :=
  (k.blk j (Array.getElem?_eq_some_iff.1 hr).1 (kept_ne hr p.box.box.row h1) (fun e => by
    obtain ⟨_, _, cur, hc⟩ := p.box.box.own_lt e.symm
    exact kept_ne hr hc h2 rfl)).trans hr
theorem Pl.rowR (p : Pl W base b rb kb P Sa Sr Xs h ms hT hW tT tW) (k : KeepB base rb W W') {j : Nat} {cs : Array Value} {t : TypeId} {fr : Nat × Nat} (hr : W.heap[j]? = some (.cells cs t fr)) (h1 : t ≠ 31) : W'.heap[j]? = some (.cells cs t fr) := by
  obtain ⟨_, _, _, z, _⟩ := p.ref.is
  exact (k.blk j (Array.getElem?_eq_some_iff.1 hr).1 (kept_ne hr z.row h1)).trans hr
theorem Pl.rowK {v : Value} (p : Pl W base b rb kb P Sa Sr Xs h ms hT hW tT tW) (c : Ch base (fun k => k = kb ∨ v.ownBlock = some k ∨ hT.ownBlock = some k ∨ hW.ownBlock = some k) W W') {j : Nat} {cs : Array Value} {t : TypeId} {fr : Nat × Nat} (hr : W.heap[j]? = some (.cells cs t fr)) (h1 : t ≠ 36) (h2 : t ≠ 37) (hv : v.ownBlock ≠ some j) : W'.heap[j]? = some (.cells cs t fr) := by
  refine (c.blk j (Array.getElem?_eq_some_iff.1 hr).1 fun e => ?_).trans hr
  rcases e with e | e | e | e
  · exact kept_ne hr p.kept.row h1 e
  · exact hv e
  · obtain ⟨_, _, cur, hc⟩ := p.kept.told.blk e
    exact kept_ne hr hc h2 rfl
  · obtain ⟨_, _, cur, hc⟩ := p.kept.was.blk e
    exact kept_ne hr hc h2 rfl
theorem Pl.gotS {v : Value} {zm : Nat} {l : List Nat} (p : Pl W base b rb kb P Sa Sr Xs h ms hT hW tT tW) (k : KeepH base b h h' W W') (g : GotB W zm v l) : GotB W' zm v l := g.kept fun i hi => by
  obtain ⟨_, _, cur, hc⟩ := g.blk hi
  exact (p.rowS k hc (by decide) (by decide)).trans hc.symm
theorem Pl.gotR {v : Value} {zm : Nat} {l : List Nat} (p : Pl W base b rb kb P Sa Sr Xs h ms hT hW tT tW) (k : KeepB base rb W W') (g : GotB W zm v l) : GotB W' zm v l := g.kept fun i hi => by
  obtain ⟨_, _, cur, hc⟩ := g.blk hi
  exact (p.rowR k hc (by decide)).trans hc.symm
theorem Pl.bound (p : Pl W base b rb kb P Sa Sr Xs h ms hT hW tT tW) (hX : ∀ k, Xs k → k < W.heap.size) : ∀ k, (Xs k ∨ hT.ownBlock = some k ∨ hW.ownBlock = some k) → k < W.heap.size := by
  intro k hk
  rcases hk with hk | hk | hk
  · exact hX k hk
  · exact (p.kept.told.blk hk).1
  · exact (p.kept.was.blk hk).1
theorem GotB.str0 {v : Value} {zm : Nat} {l : List Nat} (g : GotB W zm v l) : (convert 37 9 v).run Try.prog W = .ok (.string (_root_.Go.Proofs.Ytdimllmbalponaa.str l)) W := by
  rcases g with ⟨rfl, rfl⟩ | ⟨g, c, rfl, h⟩
  · exact str_of W none 0 0 [] (Bytes.empty _ _) rfl
  · exact str_of W (Option.some ⟨g, 0, none⟩) l.length c l h.bytes rfl
theorem BoxS.sizes (x : BoxS W base b P h ms Sa) : ∀ y ∈ Sa.1, (y.1.length : Int) = P.s := by
  intro y hy
  rw [← x.is] at hy
  obtain ⟨m, hm, rfl⟩ := List.mem_map.1 hy
  exact x.size m hm
/-- a copy, and where its messages lie -/
theorem BoxS.copied2 (x : BoxS W base b P h ms Sa) (ok : Okay P) :
    Calls Try.prog 23 #[.pointer (some ⟨b, 0, none⟩)] W fun e W' => (∃ (b2 : Nat) (h2 : Value) (ms2 : List Msg), e = .returned (.pointer (some ⟨b2, 0, none⟩)) ∧ BoxS W' base b2 P h2 ms2 Sa ∧ W.heap.size ≤ b2 ∧ (∀ k, h2.ownBlock = some k → W.heap.size ≤ k) ∧ ∀ m ∈ ms2, W.heap.size ≤ m.blk) ∧ Below W.heap.size W W' := by
  have g1 : P.p.oneCell' = true ∧ P.g.oneCell' = true := by
    rcases ok.is with ⟨_, _, hp, hg⟩ | ⟨_, _, hp, hg, _⟩ | ⟨_, _, hp, hg, _⟩ | ⟨_, _, hp, hg, _⟩ <;> rw [hp, hg] <;> exact ⟨rfl, rfl⟩
  have g2 := ok.s2
  refine (copy_at x.box g1.1 g1.2 (fun m hm => by have := x.size m hm; omega) (by have := x.few; omega)).mono ?_
  rintro e W' ⟨⟨b2, h', ms', rfl, y, ht⟩, hb⟩
  have t := pair_of x hb y ht
  exact ⟨⟨b2, h', ms', rfl, t.x2, y.lo, fun k hk => (y.own_lt hk).2.1, fun m hm => OwnS.base (y.each m hm)⟩, hb⟩
end
end Go.Proofs.Ytdimllmbalponaa
