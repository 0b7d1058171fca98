/-
  Tasks of one's own, changed at a place; the lesser demand in memory.
-/
import Derived.Test.YtdennekkbdlhdaaDoorPnV
namespace Go.Proofs.YtdennekkbdlhdaaDoor
open Go.RowKit Go.Shelf
set_option linter.unusedVariables false
set_option linter.unusedSimpArgs false

theorem setT_getD {l : List Tk} {i k : Nat} {t : Tk} (hk : k < l.length) : (l.set i t).getD k default = if i = k then t else l.getD k default := by
  rw [List.getD_eq_getElem?_getD, List.getElem?_set]
  by_cases h : i = k
  · rw [if_pos h, if_pos h]
    subst h
    rw [if_pos hk]; rfl
  · rw [if_neg h, if_neg h, ← List.getD_eq_getElem?_getD]
theorem TkB.tks {W : World} {B c : Nat} {A : Option Addr} {l : List Tk} (h : TkB W B A c l) (hi : ∀ t ∈ l, I64 t.node ∧ I64 t.mem ∧ I64 t.share) : Tks W A l := by
  refine ⟨hi, ?_⟩
  obtain ⟨_, _, h0⟩ := h
  rcases h0 with rfl | ⟨g, rfl, _, hlt, _, hc⟩
  · exact .inl rfl
  · refine .inr ⟨g, 0, rfl, hlt, fun k hk => ?_⟩
    dsimp only
    rw [Nat.zero_add]
    exact hc k hk
theorem TkB.below {W W' : World} {B c : Nat} {A : Option Addr} {l : List Tk} (h : TkB W B A c l) (hb : Below W.heap.size W W') : TkB W' B A c l := by
  obtain ⟨h1, h2, h0⟩ := h
  refine ⟨h1, h2, ?_⟩
  rcases h0 with h0 | ⟨g, hA, hg, hlt, hf, hc⟩
  · exact .inl h0
  · have hblk := hb.block g hlt
    refine .inr ⟨g, hA, hg, Nat.lt_of_lt_of_le hlt hb.size, fun o => ?_, fun k hk => ?_⟩
    · have := hf o
      simp only [World.frozen?, hblk] at this ⊢
      exact this
    · obtain ⟨x, y, z⟩ := hc k hk
      exact ⟨(bcl hb hlt).trans x, (bcl hb hlt).trans y, (bcl hb hlt).trans z⟩
theorem TkB.same {W W' : World} {B c g : Nat} {l : List Tk} (h : TkB W B (some ⟨g, 0, none⟩) c l) (hb : W'.heap[g]? = W.heap[g]?) : TkB W' B (some ⟨g, 0, none⟩) c l := by
  obtain ⟨h1, h2, h0⟩ := h
  refine ⟨h1, h2, ?_⟩
  rcases h0 with h0 | ⟨g', hA, hg, hlt, hf, hc⟩
  · exact .inl h0
  · obtain rfl : g = g' := by cases hA; rfl
    refine .inr ⟨g, hA, hg, ?_, fun o => ?_, fun k hk => ?_⟩
    · rcases Nat.lt_or_ge g W'.heap.size with h | h
      · exact h
      · rw [Array.getElem?_eq_none h, Array.getElem?_eq_getElem hlt] at hb; cases hb
    · have := hf o
      simp only [World.frozen?, hb] at this ⊢
      exact this
    · obtain ⟨x, y, z⟩ := hc k hk
      exact ⟨(cell_same hb _).trans x, (cell_same hb _).trans y, (cell_same hb _).trans z⟩
theorem TkB.at {W : World} {B c : Nat} {A : Option Addr} {l : List Tk} (h : TkB W B A c l) {i : Nat} (hi : i < l.length) : ∃ g, A = some ⟨g, 0, none⟩ ∧ B ≤ g ∧ g < W.heap.size := by
  obtain ⟨_, _, h0⟩ := h
  rcases h0 with rfl | ⟨g, hA, hg, hlt, _, _⟩
  · simp at hi
  · exact ⟨g, hA, hg, hlt⟩
theorem TkB.cells {W : World} {B c g : Nat} {l : List Tk} (h : TkB W B (some ⟨g, 0, none⟩) c l) {i : Nat} (hi : i < l.length) : (∀ o, W.frozen? ⟨g, o, none⟩ = false) ∧ W.cell? ⟨g, i * 3, none⟩ = some (.int .i64 (l.getD i default).node) ∧ W.cell? ⟨g, i * 3 + 1, none⟩ = some (.int .i64 (l.getD i default).mem) ∧ W.cell? ⟨g, i * 3 + 2, none⟩ = some (.int .i64 (l.getD i default).share) := by
  obtain ⟨_, _, h0⟩ := h
  rcases h0 with rfl | ⟨g', hA, hg, hlt, hf, hc⟩
  · simp at hi
  · obtain rfl : g = g' := by cases hA; rfl
    exact ⟨hf, hc i hi⟩
theorem TkB.mem {W : World} {B c g : Nat} {l : List Tk} (h : TkB W B (some ⟨g, 0, none⟩) c l) {i : Nat} (hi : i < l.length) (m : Int) :
    TkB (W.setCell ⟨g, i * 3 + 1, none⟩ (.int .i64 m)) B (some ⟨g, 0, none⟩) c (l.set i ⟨(l.getD i default).node, m, (l.getD i default).share⟩) := by
  obtain ⟨h1, h2, h0⟩ := h
  rcases h0 with rfl | ⟨g', hA, hg, hlt, hf, hc⟩
  · simp at hi
  · obtain rfl : g = g' := by cases hA; rfl
    refine ⟨by rw [List.length_set]; exact h1, h2, .inr ⟨g, rfl, hg, by simpa using hlt, fun o => by rw [World.frozen?_setCell]; exact hf o, fun k hk => ?_⟩⟩
    rw [List.length_set] at hk
    rw [setT_getD hk]
    obtain ⟨x, y, z⟩ := hc k hk
    by_cases hik : i = k
    · subst hik
      rw [if_pos rfl]
      refine ⟨(World.cell?_setCell_other _ _ _ _ (by intro e; injection e; omega)).trans x, World.cell?_setCell_same _ _ _ y, (World.cell?_setCell_other _ _ _ _ (by intro e; injection e; omega)).trans z⟩
    · rw [if_neg hik]
      exact ⟨(World.cell?_setCell_other _ _ _ _ (by intro e; injection e; omega)).trans x, (World.cell?_setCell_other _ _ _ _ (by intro e; injection e; omega)).trans y, (World.cell?_setCell_other _ _ _ _ (by intro e; injection e; omega)).trans z⟩
theorem TkB.shr {W : World} {B c g : Nat} {l : List Tk} (h : TkB W B (some ⟨g, 0, none⟩) c l) {i : Nat} (hi : i < l.length) (m : Int) :
    TkB (W.setCell ⟨g, i * 3 + 2, none⟩ (.int .i64 m)) B (some ⟨g, 0, none⟩) c (l.set i ⟨(l.getD i default).node, (l.getD i default).mem, m⟩) := by
  obtain ⟨h1, h2, h0⟩ := h
  rcases h0 with rfl | ⟨g', hA, hg, hlt, hf, hc⟩
  · simp at hi
  · obtain rfl : g = g' := by cases hA; rfl
    refine ⟨by rw [List.length_set]; exact h1, h2, .inr ⟨g, rfl, hg, by simpa using hlt, fun o => by rw [World.frozen?_setCell]; exact hf o, fun k hk => ?_⟩⟩
    rw [List.length_set] at hk
    rw [setT_getD hk]
    obtain ⟨x, y, z⟩ := hc k hk
    by_cases hik : i = k
    · subst hik
      rw [if_pos rfl]
      refine ⟨(World.cell?_setCell_other _ _ _ _ (by intro e; injection e; omega)).trans x, (World.cell?_setCell_other _ _ _ _ (by intro e; injection e; omega)).trans y, World.cell?_setCell_same _ _ _ z⟩
    · rw [if_neg hik]
      exact ⟨(World.cell?_setCell_other _ _ _ _ (by intro e; injection e; omega)).trans x, (World.cell?_setCell_other _ _ _ _ (by intro e; injection e; omega)).trans y, (World.cell?_setCell_other _ _ _ _ (by intro e; injection e; omega)).trans z⟩
/-- both changes: the lesser task -/
theorem less_set {l : List Tk} {i : Nat} (hi : i < l.length) : (l.set i ⟨(l.getD i default).node, (l.getD i default).mem / 2, (l.getD i default).share⟩).set i ⟨((l.set i ⟨(l.getD i default).node, (l.getD i default).mem / 2, (l.getD i default).share⟩).getD i default).node, ((l.set i ⟨(l.getD i default).node, (l.getD i default).mem / 2, (l.getD i default).share⟩).getD i default).mem, (l.getD i default).share / 2⟩ = l.set i (lessT (l.getD i default)) := by
  rw [setT_getD hi, if_pos rfl, List.set_set]
  rfl
theorem sms_take {W : World} {A : Option Addr} {l : List Sm} (h : Sms W A l) {n : Nat} (hn : n ≤ l.length) : Sms W A (l.take n) := by
  have hlen : (l.take n).length = n := by rw [List.length_take]; omega
  refine ⟨fun p hp => h.1 p (List.mem_of_mem_take hp), ?_⟩
  rw [hlen]
  rcases Nat.eq_zero_or_pos n with h0 | h0
  · exact .inl h0
  · rcases h.2 with h1 | ⟨b, off, e, hb, hc⟩
    · omega
    · refine .inr ⟨b, off, e, hb, fun i hi => ?_⟩
      have e2 : (l.take n).getD i default = l.getD i default := by
        rw [List.getD_eq_getElem?_getD, List.getD_eq_getElem?_getD, List.getElem?_take, if_pos hi]
      have := hc i (by omega)
      dsimp only at this ⊢
      rw [e2]
      exact this
theorem less_at {d : Dm} {a : Da} {W : World} (h : DmAt W d a) {N : Nat} (ho : Okd d N) {n : Nat} (i : Nat) (hn : n ≤ d.streams.length) {B c : Nat} {A : Option Addr} (ht : TkB W B A c (lessD d n i).tasks) : DmAt W (lessD d n i) ⟨A, c, a.sA, a.sC⟩ := by
  have ho' := less_okd ho n i
  have hsl : (lessD d n i).streams.length = n := by show (d.streams.take n).length = n; rw [List.length_take]; omega
  refine { nodes := h.nodes, drift := h.drift, reading := h.reading, rejoin := h.rejoin, quota := h.quota, tasks := ht.tks fun t hm => ?_, streams := sms_take h.streams hn, tLen := ⟨ht.1, ht.2.1⟩, sLen := ⟨?_, h.sLen.2⟩, sz := ⟨?_, ?_, fun k hk => ?_⟩ }
  · obtain ⟨⟨x1, x2⟩, ⟨y1, y2⟩, z1, z2⟩ := ho'.tk t hm
    have a1 := ho'.hN
    have a2 := ho'.n16
    unfold I64
    omega
  · have := h.sLen.1
    show (lessD d n i).streams.length ≤ a.sC
    rw [hsl]; omega
  · have := ho'.tl; omega
  · have := ho'.sl; omega
  · have hk' : k < d.streams.length := by rw [hsl] at hk; omega
    have := h.sz.dests k hk'
    show ((d.streams.take n).getD k default).dests.length ≤ _
    rw [List.getD_eq_getElem?_getD, List.getElem?_take, if_pos (by rw [hsl] at hk; exact hk), ← List.getD_eq_getElem?_getD]
    exact this
theorem make_less {d : Dm} {a : Da} {W : World} (h : DmAt W d a) {N : Nat} (ho : Okd d N) (he : errF d = 0) {n : Nat} (i : Nat) (hn : n ≤ d.streams.length) {B c T : Nat} {A : Option Addr} (hT : T = d.tasks.length) (ht : TkB W B A c (lessD d n i).tasks) :
    Calls Tryd.prog 7 #[.agg #[.int .i64 d.nodes, .int .i64 d.drift, .int .i64 d.reading, .int .i64 d.rejoin, .int .i64 d.quota, .slice A T c, .slice a.sA n a.sC]] W fun e w' => Below W.heap.size W w' ∧ ∃ A' : Ad, e = .returned (.tuple #[(makeF (lessD d n i)).val A', .int .i64 0]) ∧ ConfAt w' (makeF (lessD d n i)) A' := by
  have := make_at (lessD d n i) ⟨A, c, a.sA, a.sC⟩ W (less_at h ho i hn ht)
  unfold Dm.val at this
  have h1 : (lessD d n i).tasks.length = T := by show (d.tasks.set i _).length = T; rw [List.length_set, hT]
  have h2 : (lessD d n i).streams.length = n := by show (d.streams.take n).length = n; rw [List.length_take]; omega
  dsimp only at this
  rw [h1, h2, less_err he n i] at this
  exact this
theorem less_links {d : Dm} (he : errF d = 0) {n : Nat} (i : Nat) (hn : n ≤ d.streams.length) : (makeF (lessD d n i)).links.length = n := by
  unfold makeF
  rw [if_pos (less_err he n i)]
  show (linksTo _ _ (lessD d n i).streams.length).length = n
  rw [linksTo_len]
  show (d.streams.take n).length = n
  rw [List.length_take]; omega
end Go.Proofs.YtdennekkbdlhdaaDoor
