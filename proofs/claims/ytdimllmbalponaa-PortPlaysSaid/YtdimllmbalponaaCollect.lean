/-
  A box's messages, copied one by one into a new slice.
-/
import Derived.Test.YtdimllmbalponaaGen
namespace Go.Proofs.Ytdimllmbalponaa
open Go.RowKit Go.Shelf
attribute [local go_sem] Oper.semAt_some
set_option linter.unusedVariables false

theorem cells_at (ms : List Msg) : ∀ k (m : Msg), ms[k]? = some m → (ms.flatMap Msg.cells)[k * 2]? = some (.slice (some ⟨m.blk, 0, none⟩) m.txt.length m.cap) ∧ (ms.flatMap Msg.cells)[k * 2 + 1]? = some (.int .i64 m.slot) := by
  induction ms with
  | nil => intro k m h; simp at h
  | cons x r ih =>
    intro k m h
    rw [List.flatMap_cons]
    rcases k with _ | k
    · simp at h; subst h; exact ⟨rfl, rfl⟩
    · have h2 := ih k m (by simpa using h)
      constructor
      · rw [List.getElem?_append_right (by simp [Msg.cells]; omega)]
        rw [show (k + 1) * 2 - x.cells.length = k * 2 by simp [Msg.cells]; omega]
        exact h2.1
      · rw [List.getElem?_append_right (by simp [Msg.cells]; omega)]
        rw [show (k + 1) * 2 + 1 - x.cells.length = k * 2 + 1 by simp [Msg.cells]; omega]
        exact h2.2
/-- where a message lies -/
theorem BoxW.msg {W : World} {base b : Nat} {P : Prm} {h : Value} {ms : List Msg} {lost : Bool} (x : BoxW W base b P h ms lost) {k : Nat} {m : Msg} (hk : ms[k]? = some m) :
    ∃ g cap, h = .slice (some ⟨g, 0, none⟩) ms.length cap ∧ W.cell? ⟨g, k * 2, none⟩ = some (.slice (some ⟨m.blk, 0, none⟩) m.txt.length m.cap) ∧ W.cell? ⟨g, k * 2 + 1, none⟩ = some (.int .i64 m.slot) := by
  have hlt : k < ms.length := (List.getElem?_eq_some_iff.1 hk).1
  obtain ⟨q1, q2⟩ := cells_at ms k m hk
  have hl := flat_len ms
  rcases x.held.2 with ⟨_, h2⟩ | ⟨g, cap, cur, h1, h2⟩
  · omega
  · subst h1
    refine ⟨g, cap, rfl, ?_, ?_⟩
    · rw [x.held.cellAt _ (by omega)]; exact q1
    · rw [x.held.cellAt _ (by omega)]; exact q2

set_option maxRecDepth 100000 in
set_option maxHeartbeats 1000000 in
theorem messages1_all {base b : Nat} {P : Prm} {h : Value} {ms : List Msg} {lost : Bool} (d l Bb : Nat) (W : World) (R : Ending → World → Prop) (I : Nat → World → Prop) (h0 : I 0 W)
    (hB : W.cell? ⟨Bb, 0, none⟩ = some (.pointer (some ⟨b, 0, none⟩))) (hX : ∀ k W', I k W' → BoxW W' base b P h ms lost) (hs : ∀ m ∈ ms, m.txt.length ≤ 1000000) (hn : ms.length ≤ 1000)
    (hY : ∀ k m W1 W2 g' c', ms[k]? = some m → I k W1 → Below W1.heap.size W1 W2 → OwnS W2 W1.heap.size g' m.txt.length c' m.txt → YieldAt Fence.wide (d - 1) Try.prog l #[.agg #[.slice (some ⟨g', 0, none⟩) m.txt.length c', .int .i64 m.slot]] W2 fun e W' => e = .returned (.bool true) ∧ I (k + 1) W')
    (hR : ∀ W' v, I ms.length W' → R (.returned v) W') :
    CallsIn Fence.wide d Try.prog 40 (#[.func (.yield l) #[] #[]] ++ #[.pointer (some ⟨Bb, 0, none⟩)]) W R := by
  have hz := (zero_of_info info_msg).1
  have x0 := hX 0 W h0
  obtain ⟨A, cap, rfl⟩ := x0.len
  have hh : W.cell? ⟨b, 13, none⟩ = some (.slice A ms.length cap) := x0.cell 13 _ rfl
  have H0 := hide h0; have HY := hide hY; have HX := hide hX; have HS := hide hs
  clear x0 h0 hY hX hs
  refine callsIn_of_wp Try.func40 rfl trivial ?_ rfl
  simp only [Try.ntmps40, List.size_toArray, List.length_cons, List.length_nil, Nat.reduceAdd, Nat.reduceSub, Array.replicate_succ, Array.replicate_zero, List.push_toArray, List.append_toArray, List.nil_append, List.cons_append]
  gi_wp2
  gi_loopw [10] (fun i wr => ∃ k : Nat, k ≤ ms.length ∧ i = .int .i64 k ∧ I k wr) (fun i _ => ms.length - (intOf i).toNat)
  case atStart => exact ⟨0, by omega, rfl, H0.out⟩
  case round =>
    obtain ⟨k, hk, rfl, hi⟩ := hrel
    have HI := hide hi
    clear hi H0 hB hh
    by_cases hlt : k < ms.length
    · obtain ⟨m, hm⟩ : ∃ m, ms[k]? = some m := ⟨_, List.getElem?_eq_getElem hlt⟩
      have x := HX.out k wr HI.out
      obtain ⟨g, cap', he, q1, q2⟩ := x.msg hm
      simp only [Value.slice.injEq] at he
      obtain ⟨rfl, _, rfl⟩ := he
      have hmm : m ∈ ms := List.mem_of_getElem? hm
      have hby := OwnS.bytes (x.each m hmm)
      have hml := HS.out m hmm
      have HM := hide hm; have HBY := hide hby
      clear x hm hby
      gi_wp2
      have hb1 := bal wr (.cells #[.slice (some ⟨m.blk, 0, none⟩) m.txt.length m.cap, .int .i64 m.slot] 76)
      refine ⟨trivial, (fun h => by cases h), callsIn_wide.2 ((copied_at m.txt m.txt.length ⟨m.blk, 0, none⟩ m.cap m.slot (wr.alloc (.cells #[.slice (some ⟨m.blk, 0, none⟩) m.txt.length m.cap, .int .i64 m.slot] 76)) rfl hml (HBY.out.of_below hb1 (Nat.le_refl _))).mono ?_)⟩
      rintro e W1 ⟨g', c', rfl, ho, hb2⟩
      have hb3 : Below wr.heap.size wr W1 := hb1.trans (hb2.mono (by simp))
      obtain ⟨fn, tmps, assign, body, hy, hRR⟩ := HY.out k m wr W1 g' c' HM.out HI.out hb3 (ho.from (by have := ho.base; simp at this; omega))
      clear HY HBY HI ho hb1 hb2 hb3 q1 q2
      gi_wp2
      refine ⟨(fun h => by cases h), hRR.mono ?_⟩
      rintro e W3 ⟨rfl, hi'⟩
      have HI' := hide hi'
      clear hi' hy hRR
      gi_wp2
      go_roundw
      case rel => exact ⟨k + 1, by omega, by go_num, HI'.out⟩
      case measure => simp [intOf]; omega
    · obtain rfl : k = ms.length := by omega
      gi_wp2
      go_end0
      exact hR _ _ HI.out
theorem below_putO {B D : Nat} {w W : World} (h : Below B w W) (hD : B ≤ D) (hL : D < W.heap.size) (o : Obj) : Below B w (W.putObj D o) :=
  h.trans ((Below.refl B W).grown (grownBy_putObj' W D o) (by omega) (fun k e => by cases e; omega))
theorem own_slice {W : World} {B : Nat} {h : Value} {n : Nat} {xs : List Value} (x : W.ownsRow B 76 2 h n xs) : ∃ A k c, h = .slice A k c := by
  rcases x.2 with ⟨rfl, _⟩ | ⟨g, cap, cur, rfl, _⟩
  · exact ⟨_, _, _, rfl⟩
  · exact ⟨_, _, _, rfl⟩
theorem cells_two_new (W : World) (u v : Value) (t : TypeId) : ∀ (j : Nat) (y : Value), [u, v][j]? = some y → (W.alloc (.cells #[u, v] t)).cell? ((⟨W.heap.size, 0, none⟩ : Addr).add j) = some y := by
  intro j y hy
  have hq := heap_alloc_new W (.cells #[u, v] t)
  rcases j with _ | _ | j
  · injection hy with hy; subst hy
    rw [show (⟨W.heap.size, 0, none⟩ : Addr).add 0 = ⟨W.heap.size, 0, none⟩ by unfold Addr.add; split <;> simp_all, cell_of_row _ _ _ _ _ _ hq]; rfl
  · injection hy with hy; subst hy
    rw [show (⟨W.heap.size, 0, none⟩ : Addr).add (0 + 1) = ⟨W.heap.size, 1, none⟩ by unfold Addr.add; split <;> simp_all, cell_of_row _ _ _ _ _ _ hq]; rfl
  · simp at hy
/-- what holds while messages are collected -/
structure SeqI (w w1 : World) (rec : Loop) (ms : List Msg) (k : Nat) (W : World) : Prop where
  lp : W.heap[w1.heap.size + 1]? = some (.loop rec)
  df : W.heap[w1.heap.size]? = some (.deferred (some []))
  bel : Below w.heap.size w W
  siz : w1.heap.size + 2 ≤ W.heap.size
  row : ∃ (h' : Value) (ms' : List Msg), W.heap[w.heap.size]? = some (.cells #[h'] 58 (0, 0)) ∧ W.ownsRow w.heap.size 76 2 h' ms'.length (ms'.flatMap Msg.cells) ∧ (∀ m ∈ ms', m.at W w.heap.size) ∧ ms'.map Msg.tell = (ms.take k).map Msg.tell
theorem own_block {W : World} {B : Nat} {h : Value} {n : Nat} {xs : List Value} (x : W.ownsRow B 76 2 h n xs) {k : Nat} (hk : h.ownBlock = some k) : k < W.heap.size ∧ B ≤ k ∧ ∃ cur, W.heap[k]? = some (.cells cur 76 (0, 0)) := by
  rcases x.2 with ⟨rfl, _⟩ | ⟨g, cap, cur, rfl, hg, hh, _⟩
  · cases hk
  · simp [Value.ownBlock] at hk
    subst hk
    exact ⟨(Array.getElem?_eq_some_iff.1 hh).1, hg, cur, hh⟩
theorem own_stands {W W' : World} {B : Nat} {h : Value} {n : Nat} {xs : List Value} (x : W.ownsRow B 76 2 h n xs) (hb : ∀ k, h.ownBlock = some k → W'.heap[k]? = W.heap[k]?) : W'.ownsRow B 76 2 h n xs := by
  refine ⟨x.1, ?_⟩
  rcases x.2 with h1 | ⟨g, cap, cur, rfl, h2, h3, h4⟩
  · exact .inl h1
  · exact .inr ⟨g, cap, cur, rfl, h2, (hb g rfl).trans h3, h4⟩
theorem take_some {α : Type} (l : List α) (k : Nat) (x : α) (h : l[k]? = some x) : l.take (k + 1) = l.take k ++ [x] := by rw [List.take_add_one, h]; rfl

set_option maxRecDepth 100000 in
set_option maxHeartbeats 1000000 in
theorem seq_at {base b : Nat} {P : Prm} {h : Value} {ms : List Msg} {lost : Bool} {w : World} (x : BoxW w base b P h ms lost) (Bb : Nat) (hB : w.cell? ⟨Bb, 0, none⟩ = some (.pointer (some ⟨b, 0, none⟩))) (hs : ∀ m ∈ ms, m.txt.length ≤ 1000000) (hn : ms.length ≤ 1000) :
    Calls Try.prog 39 #[.slice none 0 0, .func (.func 40) #[] #[.pointer (some ⟨Bb, 0, none⟩)]] w fun e w' => ∃ h' : Value, e = .returned h' ∧ ∃ ms' : List Msg, w'.ownsRow w.heap.size 76 2 h' ms'.length (ms'.flatMap Msg.cells) ∧ (∀ m ∈ ms', m.at w' w.heap.size) ∧ ms'.map Msg.tell = ms.map Msg.tell ∧ Below w.heap.size w w' := by
  have hz := (zero_of_info info_msg).1
  have hi3 := info_msg3
  rcases hi : Try.prog.info? 76 with _ | i
  · rw [hi] at hi3; cases hi3
  rw [hi] at hi3
  simp only [Option.map_some, Option.some.injEq, Prod.mk.injEq] at hi3
  obtain ⟨hiz, his, hib⟩ := hi3
  have HI := hide hi; have HIZ := hide hiz; have HIS := hide his; have HIB := hide hib
  clear hi hiz his hib
  have hBl : Bb < w.heap.size := World.block_lt_of_cell? w _ hB
  refine calls_of_wp_marks Try.func39 rfl ?_
  simp only [Try.ntmps39, List.size_toArray, List.length_cons, List.length_nil, Nat.reduceAdd, Nat.reduceSub, Array.replicate_succ, Array.replicate_zero, List.push_toArray, List.append_toArray, List.nil_append, List.cons_append]
  go_wp2_with fail
  have hb1 := bal w (.cells #[.slice none 0 0] 58)
  have hr1 := heap_alloc_new w (.cells #[.slice none 0 0] 58)
  have hz1 : (w.alloc (.cells #[.slice none 0 0] 58)).heap.size = w.heap.size + 1 := by simp
  generalize w.alloc (.cells #[.slice none 0 0] 58) = w1 at hb1 hr1 hz1 ⊢
  have hzz : w.heap.size < w1.heap.size := by omega
  clear hz1
  refine wp_range2 (g := .tmp 6) rfl (enters_of Try.func40 (by kernel_rfl) rfl) ?_
  rintro W0 rec hl hD hb0 hz0 hst hpe htm hps has hbo
  have hbw : Below w.heap.size w W0 := hb1.trans (hb0.mono (by omega))
  refine messages1_all 1 (w1.heap.size + 1) Bb W0 _ (fun k W => SeqI w w1 rec ms k W) ⟨hl, hD, hbw, hz0, .slice none 0 0, [], (hb0.block _ (by omega)).trans hr1, ⟨rfl, .inl ⟨rfl, rfl⟩⟩, by simp, by simp⟩ ((bcl hbw hBl).trans hB) (fun k W' hI => x.later hI.bel) hs hn ?hY ?hR
  case hY =>
    intro k m W1 W2 g' c' hm I hb2 ho
    obtain ⟨h', ms', hsb, hown, hat, htell⟩ := I.row
    have hzs := I.siz
    have hz2 := hb2.size
    have hl2 := (hb2.block _ (by omega)).trans I.lp
    have hD2 := (hb2.block _ (by omega)).trans I.df
    have hsb2 := (hb2.block _ (by omega)).trans hsb
    have hown2 := own_stands hown (W' := W2) fun j hj => hb2.block j (own_block hown hj).1
    have hat2 : ∀ m' ∈ ms', m'.at W2 w.heap.size := fun m' hm' => OwnS.later (hat m' hm') hb2 (OwnS.blk (hat m' hm'))
    have hbw2 : Below w.heap.size w W2 := I.bel.trans (hb2.mono (by omega))
    refine yield_at hl2 (by rw [hps]; rfl) ?_
    rw [has, hps, htm]
    have HL := hide hl2; have HD := hide hD2; have HSB := hide hsb2; have HOW := hide hown2; have HAT := hide hat2; have HBW := hide hbw2; have HO := hide ho; have HST := hide hst; have HPE := hide hpe; have HBO := hide hbo; have HTE := hide htell; have HM := hide hm
    clear hl2 hD2 hsb2 hown2 hat2 hbw2 ho hst hpe hbo htell hm hl hD hb0 hbw hsb hown hat I hb2 htm hps has hB hs x hr1
    gi_wp2
    have hll : w1.heap.size + 1 < W2.heap.size := by omega
    refine ⟨rec, (heap_alloc_old W2 _ hll).trans HL.out, HST.out, ?_⟩
    have hput : ∀ k, k ≠ w1.heap.size + 1 → k < W2.heap.size → ((W2.alloc (.cells #[.slice (some ⟨g', 0, none⟩) m.txt.length c', .int .i64 m.slot] 76)).putObj (w1.heap.size + 1) (.loop { rec with state := .busy })).heap[k]? = W2.heap[k]? :=
      fun k h1 h2 => (World.putObj_heap_other h1).trans (heap_alloc_old W2 _ h2)
    have HL3 := hide (World.putObj_heap_same (w := W2.alloc (.cells #[.slice (some ⟨g', 0, none⟩) m.txt.length c', .int .i64 m.slot] 76)) (r := w1.heap.size + 1) (o := .loop { rec with state := .busy }) (by simp; omega))
    have HD3 := hide ((hput w1.heap.size (by omega) (by omega)).trans HD.out)
    have hsb3 := (hput w.heap.size (by omega) (by omega)).trans HSB.out
    have HO3 := hide (HO.out.kept (hput g' (by have := HO.out.base; omega) HO.out.blk))
    have hne : ∀ j, h'.ownBlock = some j → j ≠ w1.heap.size + 1 := by
      rintro j hj rfl
      obtain ⟨_, _, cur, hcur⟩ := own_block HOW.out hj
      rw [HL.out] at hcur
      cases hcur
    have HOW3 := hide (own_stands HOW.out (W' := (W2.alloc (.cells #[.slice (some ⟨g', 0, none⟩) m.txt.length c', .int .i64 m.slot] 76)).putObj (w1.heap.size + 1) (.loop { rec with state := .busy })) fun j hj => hput j (hne j hj) (own_block HOW.out hj).1)
    have hneq : ∀ {B g n c : Nat} {l : List Nat}, OwnS W2 B g n c l → g ≠ w1.heap.size + 1 := by
      rintro B g n c l ho rfl
      obtain ⟨cur, h1, _⟩ := ho.row
      rw [HL.out] at h1
      cases h1
    have HAT3 := hide (show ∀ m' ∈ ms', m'.at ((W2.alloc (.cells #[.slice (some ⟨g', 0, none⟩) m.txt.length c', .int .i64 m.slot] 76)).putObj (w1.heap.size + 1) (.loop { rec with state := .busy })) w.heap.size from fun m' hm' => OwnS.kept (HAT.out m' hm') (hput _ (hneq (HAT.out m' hm')) (OwnS.blk (HAT.out m' hm'))))
    have HBW3 := hide (below_putO (D := w1.heap.size + 1) (HBW.out.trans ((bal W2 (.cells #[.slice (some ⟨g', 0, none⟩) m.txt.length c', .int .i64 m.slot] 76)).mono (by omega))) (by omega) (by simp; omega) (.loop { rec with state := .busy }))
    have hvar : ((W2.alloc (.cells #[.slice (some ⟨g', 0, none⟩) m.txt.length c', .int .i64 m.slot] 76)).putObj (w1.heap.size + 1) (.loop { rec with state := .busy })).heap[W2.heap.size]? = some (.cells #[.slice (some ⟨g', 0, none⟩) m.txt.length c', .int .i64 m.slot] 76 (0, 0)) := (World.putObj_heap_other (by omega)).trans (heap_alloc_new W2 _)
    have hz3 : W2.heap.size < ((W2.alloc (.cells #[.slice (some ⟨g', 0, none⟩) m.txt.length c', .int .i64 m.slot] 76)).putObj (w1.heap.size + 1) (.loop { rec with state := .busy })).heap.size := by simp
    generalize ((W2.alloc (.cells #[.slice (some ⟨g', 0, none⟩) m.txt.length c', .int .i64 m.slot] 76)).putObj (w1.heap.size + 1) (.loop { rec with state := .busy })) = W3 at HL3 HD3 hsb3 HO3 HOW3 HAT3 HBW3 hvar hz3 ⊢
    have c0 : W3.cell? ⟨W2.heap.size, 0, none⟩ = some (.slice (some ⟨g', 0, none⟩) m.txt.length c') := by rw [cell_of_row _ _ _ _ _ _ hvar]; rfl
    have c1 : W3.cell? ⟨W2.heap.size, 1, none⟩ = some (.int .i64 m.slot) := by rw [cell_of_row _ _ _ _ _ _ hvar]; rfl
    have cs : W3.cell? ⟨w.heap.size, 0, none⟩ = some h' := by rw [cell_of_row _ _ _ _ _ _ hsb3]; rfl
    have HSB3 := hide hsb3
    rw [HBO.out]
    clear hput hne hneq hsb3 hvar HL HD HSB HOW HAT HBW HO HBO
    have hgo := HO3.out.base
    have hlen : ms'.length ≤ 1000 := by
      have h1 := congrArg List.length HTE.out
      simp only [List.length_map, List.length_take] at h1
      omega
    gi_wp2_with (first
      | (gi_at_builtin
         refine wpListIn_append_own _ rfl _ _ 58 rfl w.heap.size 76 i (.agg #[.slice none 0 0, .int .i64 0]) 2 32 Try.underlying58 HI.out HIZ.out HIS.out HIB.out rfl (by decide) h' ms'.length (ms'.flatMap Msg.cells) rfl (HOW3.out.alloc _) ⟨W3.heap.size, 0, none⟩ 1 1 [.slice (some ⟨g', 0, none⟩) m.txt.length c', .int .i64 m.slot] rfl rfl (cells_two_new _ _ _ _) (by simp [Value.oneCell']) (by simp only [maxLen]; omega) (by omega) (by simp; omega) ?_
         intro v' w4 hown4 hgr4 _
         obtain ⟨A4, k4, c4, rfl⟩ := own_slice hown4
         have hsb4 := (hgr4.block w.heap.size (by simp; omega) (by
           intro e
           obtain ⟨_, h2, cur, h3⟩ := own_block HOW3.out e.symm
           rw [HSB3.out] at h3
           injection h3 with h3
           injection h3 with _ h3
           exact absurd h3 (by decide))).trans ((heap_alloc_old W3 _ (by omega)).trans HSB3.out)
         have cs4 : w4.cell? ⟨w.heap.size, 0, none⟩ = some h' := by rw [cell_of_row _ _ _ _ _ _ hsb4]; rfl
         have fs4 : w4.frozen? ⟨w.heap.size, 0, none⟩ = false := by unfold World.frozen?; rw [hsb4]; rfl
         have HOWN4 := hide hown4; have HGR4 := hide hgr4; have HSB4 := hide hsb4
         clear hown4 hgr4 hsb4))
    have hz4 := HGR4.out.size
    simp only [World.size_alloc] at hz4
    have hrec : ({ { rec with state := .busy } with state := .ready, pending := none } : Loop) = rec := by
      have h1 := HST.out; have h2 := HPE.out
      cases rec
      simp only at h1 h2
      subst h1 h2
      rfl
    have hloop : ∀ j : Nat, w4.heap[j]? = (W3.alloc (.cells #[.slice (some ⟨g', 0, none⟩) m.txt.length c', .int .i64 m.slot] 76)).heap[j]? ∨ some j = h'.ownBlock ∨ (W3.alloc (.cells #[.slice (some ⟨g', 0, none⟩) m.txt.length c', .int .i64 m.slot] 76)).heap.size ≤ j := by
      intro j
      by_cases h1 : some j = h'.ownBlock
      · exact .inr (.inl h1)
      · by_cases h2 : j < (W3.alloc (.cells #[.slice (some ⟨g', 0, none⟩) m.txt.length c', .int .i64 m.slot] 76)).heap.size
        · exact .inl (HGR4.out.block j h2 h1)
        · exact .inr (.inr (by omega))
    have key : ∀ {j : Nat} {o : Obj}, W3.heap[j]? = some o → (∀ cur, o ≠ .cells cur 76 (0, 0)) → j ≠ w.heap.size → (w4.setCell ⟨w.heap.size, 0, none⟩ (.slice A4 k4 c4)).heap[j]? = some o := by
      intro j o hj ho hne
      rw [heap_setCell_other _ _ _ _ hne]
      have hjl := (Array.getElem?_eq_some_iff.1 hj).1
      rcases hloop j with h1 | h1 | h1
      · rw [h1, heap_alloc_old W3 _ hjl]; exact hj
      · obtain ⟨_, _, cur, h3⟩ := own_block HOW3.out h1.symm
        rw [hj] at h3
        injection h3 with h3
        exact absurd h3 (ho cur)
      · simp only [World.size_alloc] at h1; omega
    have HL5 := hide (key HL3.out (by intro cur h; cases h) (by omega))
    have HD5 := hide (key HD3.out (by intro cur h; cases h) (by omega))
    have own_ok : ∀ {B g n c : Nat} {l : List Nat}, w.heap.size ≤ B → OwnS W3 B g n c l → OwnS ((w4.setCell ⟨w.heap.size, 0, none⟩ (.slice A4 k4 c4)).putObj (w1.heap.size + 1) (.loop rec)) B g n c l := by
      intro B g n c l hB ho
      obtain ⟨cur, h1, h2⟩ := ho.row
      have hgw : g ≠ w.heap.size := by
        rintro rfl
        rw [HSB3.out] at h1
        injection h1 with h1
        injection h1 with _ h1
        exact absurd h1 (by decide)
      have hgl : g ≠ w1.heap.size + 1 := by
        rintro rfl
        rw [HL3.out] at h1
        cases h1
      refine ⟨ho.len, ho.lt, ho.base, ho.le, ho.cap, cur, ?_, h2⟩
      rw [World.putObj_heap_other hgl]
      exact key h1 (by intro cur' h; injection h with _ h; exact absurd h (by decide)) hgw
    refine ⟨none, { rec with state := .busy }, rfl, HL5.out, rfl, ?_⟩
    simp only [Option.isNone_none, if_true]
    rw [hrec]
    have hz5 : (w4.setCell ⟨w.heap.size, 0, none⟩ (.slice A4 k4 c4)).heap.size = w4.heap.size := by show (w4.heap.modify _ _).size = _; rw [Array.size_modify]
    refine ⟨World.putObj_heap_same (by rw [hz5]; omega), (World.putObj_heap_other (by omega)).trans HD5.out, below_putO (((HBW3.out.alloc (by omega) _).trans ((Below.refl _ _).grown HGR4.out (by simp; omega) (fun j hj => (own_block HOW3.out hj).2.1))).setCell (p := ⟨w.heap.size, 0, none⟩) (Nat.le_refl _) _) (by omega) (by rw [hz5]; omega) _, by simp; omega, .slice A4 k4 c4, ms' ++ [⟨g', c', m.txt, m.slot⟩], ?_, ?_, ?_, ?_⟩
    · rw [World.putObj_heap_other (by omega), setCell_row HSB4.out]
      rfl
    · have h9 : w4.ownsRow w.heap.size 76 2 (.slice A4 k4 c4) (ms' ++ [(⟨g', c', m.txt, m.slot⟩ : Msg)]).length ((ms' ++ [(⟨g', c', m.txt, m.slot⟩ : Msg)]).flatMap Msg.cells) := by
        simpa [Msg.cells] using HOWN4.out
      refine own_stands h9 fun j hj => ?_
      obtain ⟨_, _, cur, h3⟩ := own_block h9 hj
      have h5 : j ≠ w.heap.size := by
        rintro rfl
        rw [HSB4.out] at h3
        injection h3 with h3
        injection h3 with _ h3
        exact absurd h3 (by decide)
      have h6 : j ≠ w1.heap.size + 1 := by
        rintro rfl
        have h7 := HL5.out
        rw [heap_setCell_other _ _ _ _ h5, h3] at h7
        cases h7
      rw [World.putObj_heap_other h6, heap_setCell_other _ _ _ _ h5]
    · intro m' hm'
      rcases List.mem_append.1 hm' with h1 | h1
      · exact own_ok (Nat.le_refl _) (HAT3.out m' h1)
      · rw [List.mem_singleton.1 h1]
        exact own_ok (Nat.le_refl _) (HO3.out.from (by omega))
    · rw [List.map_append, HTE.out, take_some ms k m HM.out, List.map_append]
      rfl
  case hR =>
    intro W' v I
    obtain ⟨h', ms', hsb, hown, hat, htell⟩ := I.row
    refine ⟨⟨v, rfl⟩, rec, I.lp, by rw [hst]; simp, ?_⟩
    rw [hpe]
    simp only []
    have hzw := I.siz
    have HD4 := hide ((World.putObj_heap_other (o := .loop { state := .exhausted, pending := none, fn := rec.fn, tmps := rec.tmps, params := rec.params, assign := rec.assign, body := rec.body, defers := rec.defers }) (by omega : w1.heap.size ≠ w1.heap.size + 1)).trans I.df)
    have hsb4 := (World.putObj_heap_other (o := .loop { state := .exhausted, pending := none, fn := rec.fn, tmps := rec.tmps, params := rec.params, assign := rec.assign, body := rec.body, defers := rec.defers }) (by omega : w.heap.size ≠ w1.heap.size + 1)).trans hsb
    have hne : ∀ {k : Nat} {cs : Array Value} {t : TypeId}, W'.heap[k]? = some (.cells cs t (0, 0)) → k ≠ w1.heap.size + 1 ∧ k ≠ w1.heap.size := by
      intro k cs t hk
      constructor <;> rintro rfl
      · rw [I.lp] at hk; cases hk
      · rw [I.df] at hk; cases hk
    have key : ∀ {k : Nat} {cs : Array Value} {t : TypeId}, W'.heap[k]? = some (.cells cs t (0, 0)) → ((W'.putObj (w1.heap.size + 1) (.loop { state := .exhausted, pending := none, fn := rec.fn, tmps := rec.tmps, params := rec.params, assign := rec.assign, body := rec.body, defers := rec.defers })).putObj w1.heap.size (.deferred none)).heap[k]? = W'.heap[k]? :=
      fun hk => (World.putObj_heap_other (hne hk).2).trans (World.putObj_heap_other (hne hk).1)
    have HOW5 := hide (own_stands hown (W' := (W'.putObj (w1.heap.size + 1) (.loop { state := .exhausted, pending := none, fn := rec.fn, tmps := rec.tmps, params := rec.params, assign := rec.assign, body := rec.body, defers := rec.defers })).putObj w1.heap.size (.deferred none)) fun j hj => by obtain ⟨_, _, cur, hc⟩ := own_block hown hj; exact key hc)
    have HAT5 := hide (show ∀ m' ∈ ms', m'.at ((W'.putObj (w1.heap.size + 1) (.loop { state := .exhausted, pending := none, fn := rec.fn, tmps := rec.tmps, params := rec.params, assign := rec.assign, body := rec.body, defers := rec.defers })).putObj w1.heap.size (.deferred none)) w.heap.size from fun m' hm' => OwnS.kept (hat m' hm') (by obtain ⟨cur, h1, _⟩ := (hat m' hm').row; exact key h1))
    have HB5 := hide (below_putO (D := w1.heap.size) (below_putO (D := w1.heap.size + 1) I.bel (by omega) (by omega) (.loop { state := .exhausted, pending := none, fn := rec.fn, tmps := rec.tmps, params := rec.params, assign := rec.assign, body := rec.body, defers := rec.defers })) (by omega) (by simp; omega) (.deferred none))
    have HT := hide (show ms'.map Msg.tell = ms.map Msg.tell by rw [htell, List.take_length])
    have cs : (W'.putObj (w1.heap.size + 1) (.loop { state := .exhausted, pending := none, fn := rec.fn, tmps := rec.tmps, params := rec.params, assign := rec.assign, body := rec.body, defers := rec.defers })).cell? ⟨w.heap.size, 0, none⟩ = some h' := by rw [cell_of_row _ _ _ _ _ _ hsb4]; rfl
    clear hne key hsb4 hsb hown hat htell I
    generalize W'.putObj (w1.heap.size + 1) (.loop { state := .exhausted, pending := none, fn := rec.fn, tmps := rec.tmps, params := rec.params, assign := rec.assign, body := rec.body, defers := rec.defers }) = W4 at HD4 HOW5 HAT5 HB5 cs ⊢
    go_wp2
    refine marks_done HD4.out (v := h') ?_ ⟨h', rfl, ms', HOW5.out, HAT5.out, HT.out, HB5.out⟩
    simp [results, Try.results39, go_sem]

set_option maxRecDepth 100000 in
set_option maxHeartbeats 1000000 in
theorem collect_at {base b : Nat} {P : Prm} {h : Value} {ms : List Msg} {lost : Bool} {w : World} (x : BoxW w base b P h ms lost) (Bb : Nat) (hB : w.cell? ⟨Bb, 0, none⟩ = some (.pointer (some ⟨b, 0, none⟩))) (hs : ∀ m ∈ ms, m.txt.length ≤ 1000000) (hn : ms.length ≤ 1000) :
    Calls Try.prog 34 #[.func (.func 40) #[] #[.pointer (some ⟨Bb, 0, none⟩)]] w fun e w' => ∃ h' : Value, e = .returned h' ∧ ∃ ms' : List Msg, w'.ownsRow w.heap.size 76 2 h' ms'.length (ms'.flatMap Msg.cells) ∧ (∀ m ∈ ms', m.at w' w.heap.size) ∧ ms'.map Msg.tell = ms.map Msg.tell ∧ Below w.heap.size w w' := by
  have hc := seq_at x Bb hB hs hn
  clear x hB hs
  go_enter Try.func34, Try.ntmps34
  go_wp2_with fail
  refine hc.mono ?_
  rintro e w1 ⟨h', rfl, ms', h1⟩
  have H1 := hide h1
  clear h1 hc
  go_wp2
  go_ret
  exact ⟨h', rfl, ms', H1.out⟩
end Go.Proofs.Ytdimllmbalponaa
