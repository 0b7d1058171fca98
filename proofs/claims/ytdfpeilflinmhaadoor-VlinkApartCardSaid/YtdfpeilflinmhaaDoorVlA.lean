/-
  What links say of a node: as lists, and where they lie; whose a port is, and what is refused.
-/
import Derived.Test.YtdfpeilflinmhaaDoorChkP
import Derived.Test.YtdfpeilflinmhaaDoorDup
import Derived.Test.YtdfpeilflinmhaaDoorRng
import Derived.Deep.QuietTactic
import Derived.BigQuiet
namespace Go.Proofs.YtdfpeilflinmhaaDoor
open Go.RowKit Go.Deep
set_option linter.unusedVariables false
set_option linter.unusedSimpArgs false

structure Lr where
  num : Int
  src : Int
  off : Int
  siz : Int
  dests : List (Int × Int)
deriving Inhabited
/-- whose a port is -/
def nodeF (c : Conf) (p : Int) : Int := (c.parts.getD (c.ports.getD p.toNat default).part.toNat default).node
def lrF (c : Conf) (n : Nat) : Lr := ⟨n, (c.links.getD n default).source, (c.links.getD n default).offset, (c.ports.getD (c.links.getD n default).source.toNat default).size, (c.links.getD n default).dests.map fun d => (d, nodeF c d)⟩
def mineB (c : Conf) (node : Int) (k : Nat) : Bool := decide (nodeF c (c.links.getD k default).source = node)
/-- a node's links -/
def ownL (c : Conf) (node : Int) (n : Nat) : List Lr := ((List.range n).filter (mineB c node)).map (lrF c)
theorem ownL_succ (c : Conf) (node : Int) (n : Nat) : ownL c node (n + 1) = ownL c node n ++ (if mineB c node n then [lrF c n] else []) := by
  unfold ownL
  rw [List.range_succ, List.filter_append, List.map_append]
  congr 1
  cases h : mineB c node n <;> simp [h]
theorem ownL_len (c : Conf) (node : Int) (n : Nat) : (ownL c node n).length ≤ n := by
  unfold ownL
  have := List.length_filter_le (mineB c node) (List.range n)
  simpa using this
theorem ownL_mem {c : Conf} {node : Int} {n : Nat} {x : Lr} (h : x ∈ ownL c node n) : ∃ k, k < n ∧ mineB c node k = true ∧ x = lrF c k := by
  unfold ownL at h
  obtain ⟨k, hk, rfl⟩ := List.mem_map.1 h
  obtain ⟨h1, h2⟩ := List.mem_filter.1 hk
  exact ⟨k, List.mem_range.1 h1, h2, rfl⟩

/-- a configuration that may be, as far as links go -/
structure MayK (c : Conf) : Prop where
  n0 : 4 ≤ c.nodes
  n1 : c.nodes ≤ 16
  np : c.parts.length ≤ 32
  nq : c.ports.length ≤ 64
  nl : c.links.length ≤ 64
  port : ∀ k, k < c.ports.length → ofB (c.ports.getD k default).part c.parts.length = true ∧ 1 ≤ (c.ports.getD k default).size ∧ (c.ports.getD k default).size ≤ 32
  link : ∀ k, k < c.links.length → LinkOk c (c.links.getD k default)
  names : (standF (List.replicate c.ports.length false) (namesOf c.links)).isSome = true
  apart : ApartP (c.links.map (ptOf c))
theorem may_of {c : Conf} (h : checkF c = 0) : MayK c := by
  unfold checkF checkW at h
  split at h
  · cases h
  rename_i h1
  split at h
  · cases h
  rename_i h2
  split at h
  · cases h
  rename_i h3
  split at h
  · cases h
  rename_i h4
  split at h
  · cases h
  rename_i h5
  split at h
  · cases h
  rename_i h6
  obtain ⟨a1, a2, _⟩ := Decidable.not_not.1 h1
  obtain ⟨b1, _⟩ := Decidable.not_not.1 h3
  obtain ⟨c1, c2⟩ := Decidable.not_not.1 h5
  obtain ⟨d1, d2, d3, d4⟩ := Decidable.not_not.1 h6
  exact ⟨a1, a2, b1, c1, d1, fun k hk => ⟨(c2 k hk).1, portB_size (c2 k hk).2⟩, d2, d3, d4⟩
theorem MayK.ofp {c : Conf} (h : MayK c) {p : Int} (hp : ofB p c.ports.length = true) : ofB (c.ports.getD p.toNat default).part c.parts.length = true := by
  simp only [ofB, Bool.and_eq_true, decide_eq_true_eq] at hp
  exact (h.port p.toNat (by omega)).1
theorem MayK.src {c : Conf} (h : MayK c) {k : Nat} (hk : k < c.links.length) : ofB (c.links.getD k default).source c.ports.length = true := (h.link k hk).1
theorem MayK.dst {c : Conf} (h : MayK c) {k j : Nat} (hk : k < c.links.length) (hj : j < (c.links.getD k default).dests.length) : ofB ((c.links.getD k default).dests.getD j 0) c.ports.length = true := ((h.link k hk).2.2.2.1 j hj).1
theorem vstand_count : ∀ (l : List Int) (L : List Bool), (standF L l).isSome = true → (∀ z ∈ l, z.toNat < L.length) → l.length ≤ L.count false
  | [], L, _, _ => Nat.zero_le _
  | z :: l, L, h, hz => by
    simp only [standF] at h
    split at h
    · cases h
    rename_i hn
    have hlt := hz z (List.mem_cons_self ..)
    have hf : L[z.toNat] = false := by
      have : L.getD z.toNat false = L[z.toNat] := by rw [List.getD_eq_getElem?_getD, List.getElem?_eq_getElem hlt]; rfl
      rw [this] at hn
      simpa using hn
    have ih := vstand_count l (L.set z.toNat true) h (fun y hy => by rw [List.length_set]; exact hz y (List.mem_cons_of_mem _ hy))
    rw [List.count_set hlt, hf] at ih
    have hp : 0 < L.count false := List.count_pos_iff.2 (hf ▸ List.getElem_mem hlt)
    simp at ih
    rw [List.length_cons]
    omega
theorem dests_names : ∀ (l : List Lk) (k : Nat), k < l.length → (l.getD k default).dests.length ≤ (namesOf l).length
  | [], k, h => by simp at h
  | x :: l, 0, h => by simp [namesOf]; omega
  | x :: l, k + 1, h => by
    have ih := dests_names l k (by simpa using h)
    simp only [namesOf, List.flatMap_cons, List.length_append, List.getD_cons_succ] at ih ⊢
    omega
theorem MayK.dlen {c : Conf} (h : MayK c) {k : Nat} (hk : k < c.links.length) : (c.links.getD k default).dests.length ≤ 64 := by
  refine Nat.le_trans (dests_names c.links k hk) (Nat.le_trans (vstand_count _ _ h.names fun z hz => ?_) ?_)
  · unfold namesOf at hz
    obtain ⟨x, hx, hz⟩ := List.mem_flatMap.1 hz
    obtain ⟨i, hi, rfl⟩ := List.getElem_of_mem hx
    have hl := h.link i hi
    have hgi : c.links.getD i default = c.links[i] := by rw [List.getD_eq_getElem?_getD, List.getElem?_eq_getElem hi]; rfl
    rw [hgi] at hl
    have hof : ofB z c.ports.length = true := by
      rcases List.mem_cons.1 hz with rfl | hz
      · exact hl.1
      · obtain ⟨j, hj, rfl⟩ := List.getElem_of_mem hz
        have := (hl.2.2.2.1 j hj).1
        rwa [List.getD_eq_getElem?_getD, List.getElem?_eq_getElem hj, Option.getD_some] at this
    simp only [ofB, Bool.and_eq_true, decide_eq_true_eq] at hof
    rw [List.length_replicate]
    omega
  · rw [List.count_replicate]
    have := h.nq
    simpa using this
/-- where a link's place lies -/
theorem MayK.place {c : Conf} (h : MayK c) {k : Nat} (hk : k < c.links.length) : 0 ≤ (lrF c k).off ∧ (lrF c k).off + 1 + (lrF c k).siz ≤ 64 ∧ 1 ≤ (lrF c k).siz ∧ (lrF c k).siz ≤ 32 := by
  have h1 := (h.link k hk).2.2.2.2
  have h2 := h.src hk
  simp only [ofB, inB, Bool.and_eq_true, decide_eq_true_eq] at h1 h2
  have h3 := h.port (c.links.getD k default).source.toNat (by omega)
  simp only [lrF]
  omega

/-! ### Rows of one's own -/
section
variable {W W' : World} {B size n : Nat} {t : TypeId} {h : Value} {xs : List Value}
theorem ow_slice (x : W.ownsRow B t size h n xs) : ∃ A c, h = .slice A n c := by
  rcases x.2 with ⟨rfl, rfl⟩ | ⟨g, cap, cur, rfl, _⟩
  · exact ⟨_, _, rfl⟩
  · exact ⟨_, _, rfl⟩
theorem ow_block (x : W.ownsRow B t size h n xs) {k : Nat} (hk : h.ownBlock = some k) : k < W.heap.size ∧ B ≤ k ∧ ∃ cur, W.heap[k]? = some (.cells cur t (0, 0)) := by
  rcases x.2 with ⟨rfl, _⟩ | ⟨g, cap, cur, rfl, hg, hh, _⟩
  · cases hk
  · simp [Value.ownBlock] at hk
    subst hk
    exact ⟨(Array.getElem?_eq_some_iff.1 hh).1, hg, cur, hh⟩
theorem ow_stands (x : W.ownsRow B t size h n xs) (hb : ∀ k, h.ownBlock = some k → W'.heap[k]? = W.heap[k]?) : W'.ownsRow B t size h n xs := by
  refine ⟨x.1, ?_⟩
  rcases x.2 with h1 | ⟨g, cap, cur, rfl, h2, h3, h4⟩
  · exact .inl h1
  · exact .inr ⟨g, cap, cur, rfl, h2, (hb g rfl).trans h3, h4⟩
theorem ow_below (x : W.ownsRow B t size h n xs) (hb : Below W.heap.size W W') : W'.ownsRow B t size h n xs := ow_stands x fun k hk => hb.block k (ow_block x hk).1
theorem ow_from {B' : Nat} (x : W.ownsRow B t size h n xs) (hB : B' ≤ B) : W.ownsRow B' t size h n xs := by
  refine ⟨x.1, ?_⟩
  rcases x.2 with h1 | ⟨g, cap, cur, h1, h2, h3⟩
  · exact .inl h1
  · exact .inr ⟨g, cap, cur, h1, Nat.le_trans hB h2, h3⟩
theorem ow_open (x : W.ownsRow B t size h n xs) (h0 : 0 < n) : ∃ g c, h = .slice (some ⟨g, 0, none⟩) n c ∧ B ≤ g ∧ g < W.heap.size ∧ n ≤ c ∧ c ≤ maxLen ∧ ∀ j v, xs[j]? = some v → W.cell? ⟨g, j, none⟩ = some v := by
  rcases x.2 with ⟨_, h1⟩ | ⟨g, cap, cur, h1, h2, h3, h4, h5, h6, h7⟩
  · omega
  · refine ⟨g, cap, h1, h2, (Array.getElem?_eq_some_iff.1 h3).1, h4, h5, fun j v hv => ?_⟩
    rw [cell_of_row _ _ _ _ _ _ h3]
    rw [← h7] at hv
    have hj : j < n * size := by
      rcases Nat.lt_or_ge j (n * size) with hj | hj
      · exact hj
      · rw [List.getElem?_eq_none (by simp; omega)] at hv; cases hv
    rw [List.getElem?_take_of_lt hj, Array.getElem?_toList] at hv
    exact hv
theorem ow_ne {t' : TypeId} {cur : Array Value} {fz : Nat × Nat} (x : W.ownsRow B t size h n xs) {k : Nat} (hk : W.heap[k]? = some (.cells cur t' fz)) (ht : t' ≠ t) : h.ownBlock ≠ some k := fun e => by
  obtain ⟨_, _, cur', h2⟩ := ow_block x e
  rw [hk] at h2
  injection h2 with h2
  injection h2 with _ h2
  exact ht h2
end
theorem fm_at {α : Type} {f : α → List Value} {s : Nat} (hf : ∀ x, (f x).length = s) : ∀ (l : List α) (n j : Nat) (x : α), l[n]? = some x → j < s → (l.flatMap f)[n * s + j]? = (f x)[j]?
  | [], n, j, x, h, _ => by simp at h
  | y :: l, 0, j, x, h, hj => by
    simp at h; subst h
    simp only [List.flatMap_cons, Nat.zero_mul, Nat.zero_add]
    rw [List.getElem?_append_left (by rw [hf]; exact hj)]
  | y :: l, n + 1, j, x, h, hj => by
    have ih := fm_at hf l n j x (by simpa using h) hj
    simp only [List.flatMap_cons]
    rw [List.getElem?_append_right (by rw [hf, Nat.add_mul]; omega), hf, Nat.add_mul]
    rw [show n * s + 1 * s + j - s = n * s + j by omega]
    exact ih
theorem fm_len {α : Type} {f : α → List Value} {s : Nat} (hf : ∀ x, (f x).length = s) : ∀ l : List α, (l.flatMap f).length = l.length * s
  | [] => by simp
  | y :: l => by simp only [List.flatMap_cons, List.length_append, hf, fm_len hf l, List.length_cons, Nat.add_mul]; omega

def lrC (p : Lr × Value) : List Value := [.int .i64 p.1.num, .int .i64 p.1.src, .int .i64 p.1.off, .int .i64 p.1.siz, p.2]
def dsC (p : Int × Int) : List Value := [.int .i64 p.1, .int .i64 p.2]
theorem lrC_len (p : Lr × Value) : (lrC p).length = 5 := rfl
theorem dsC_len (p : Int × Int) : (dsC p).length = 2 := rfl
/-- where the ports that a link goes to lie -/
def DsAt (W : World) (base : Nat) (v : Value) (l : List (Int × Int)) : Prop := W.ownsRow base 140 2 v l.length (l.flatMap dsC)
/-- where links lie -/
structure LrAt (W : World) (base : Nat) (v : Value) (P : List (Lr × Value)) : Prop where
  row : W.ownsRow base 134 5 v P.length (P.flatMap lrC)
  ds : ∀ p ∈ P, DsAt W base p.2 p.1.dests
section
variable {W W' : World} {base : Nat} {v : Value} {P : List (Lr × Value)}
theorem LrAt.stands (x : LrAt W base v P) (hb : ∀ k, base ≤ k → k < W.heap.size → W'.heap[k]? = W.heap[k]?) : LrAt W' base v P :=
  ⟨ow_stands x.row fun k hk => hb k (ow_block x.row hk).2.1 (ow_block x.row hk).1, fun p hp => ow_stands (x.ds p hp) fun k hk => hb k (ow_block (x.ds p hp) hk).2.1 (ow_block (x.ds p hp) hk).1⟩
theorem LrAt.below (x : LrAt W base v P) (hb : Below W.heap.size W W') : LrAt W' base v P := x.stands fun k _ hk => hb.block k hk
theorem LrAt.nil (W : World) (base : Nat) : LrAt W base (.slice none 0 0) [] := ⟨⟨rfl, .inl ⟨rfl, rfl⟩⟩, fun p hp => by cases hp⟩
theorem LrAt.more (x : LrAt W base v P) {p : Lr × Value} (hp : DsAt W base p.2 p.1.dests) {v' : Value} (hr : W'.ownsRow base 134 5 v' (P.length + 1) (P.flatMap lrC ++ lrC p)) (hg : W.grownBy W' v.ownBlock) : LrAt W' base v' (P ++ [p]) := by
  have hk : ∀ {q : Lr × Value}, DsAt W base q.2 q.1.dests → DsAt W' base q.2 q.1.dests := fun {q} h => ow_stands h fun k hk => by
    obtain ⟨h1, h2, cur, h3⟩ := ow_block h hk
    exact hg.block k h1 fun e => ow_ne x.row h3 (by decide) e.symm
  refine ⟨by simpa using hr, fun q hq => ?_⟩
  rcases List.mem_append.1 hq with h | h
  · exact hk (x.ds q h)
  · obtain rfl := List.mem_singleton.1 h
    exact hk hp
end

/-! ### Whose a port is, and what is refused -/
theorem vdrewN {B : Nat} {w w' : World} (h : Below B w w') (n : Nat) : Below B w (w'.drewN n) := ⟨h.os, h.tape, h.output, h.size, h.block⟩

set_option maxRecDepth 100000 in
theorem nodeOf_at (c : Conf) (d : Ad) (p : Int) (w : World) (hg : Glo w) (h : ConfAt w c d) (h1 : ofB p c.ports.length = true) (h2 : ofB (c.ports.getD p.toNat default).part c.parts.length = true) :
    Calls Tryd.prog 77 #[c.val d, .int .i64 p] w fun e w' => e = .returned (.int .i64 (nodeF c p)) ∧ Below w.heap.size w w' := by
  simp only [ofB, Bool.and_eq_true, decide_eq_true_eq] at h1 h2
  have hS := CfS.first 28 hg h
  clear hg h
  have HN : Hid (nodeF c p = (c.parts.getD (c.ports.getD p.toNat default).part.toNat default).node) := rfl
  obtain ⟨n, rfl⟩ := Int.eq_ofNat_of_zero_le h1.1
  rw [Int.toNat_natCast] at h2 HN
  obtain ⟨m, hm⟩ := Int.eq_ofNat_of_zero_le h2.1
  rw [hm, Int.toNat_natCast] at HN
  rw [HN.out]
  clear HN
  have hn : n < c.ports.length := by omega
  have hmp : m < c.parts.length := by omega
  obtain ⟨oA, oC, pA, pC, wA, wC, qA, qC, lA, lC⟩ := d
  unfold Conf.val
  unfold Conf.cells at hS
  dsimp only at hS ⊢
  obtain ⟨hb, ⟨hl, e0, e1, e2, e3, e4, e5, e6, e7, e8, e9, e10, e11⟩, hg, hc⟩ := id hS
  obtain ⟨pb, po, hA, hpb, f0, _⟩ := hc.ports.at hn
  obtain ⟨ab, ao, hB, hab, g0, _⟩ := hc.parts.at hmp
  rw [hm] at f0
  dsimp only at e0 e1 e2 e3 e4 e5 e6 e7 e8 e9 e10 e11 hA hB
  subst hA hB
  generalize (c.parts.getD m default).node = z at g0 ⊢
  have HB := hide hb
  clear hS hb hg hc h1 h2 hm hpb hab
  go_enter Tryd.func77, Tryd.ntmps77
  go_wp2_with fail
  go_quiet (fail)
  go_wp2
  go_ret
  exact ⟨rfl, vdrewN HB.out _⟩
end Go.Proofs.YtdfpeilflinmhaaDoor
