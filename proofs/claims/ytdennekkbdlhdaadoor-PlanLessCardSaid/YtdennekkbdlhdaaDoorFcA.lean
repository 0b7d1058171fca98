/-
  A region that draws, by one fact for each operation: what it has made, and how long that is asked.
-/
import Derived.Test.YtdennekkbdlhdaaDoorPl
import Derived.Orders
import Derived.RegionTactic
import Derived.Shelf.Abstract
import Derived.ControlIn
namespace Go.Proofs.YtdennekkbdlhdaaDoor
open Go.RowKit Go.Shelf
set_option linter.unusedVariables false

def dstOf (ops : Array Oper) (i : Nat) : Option Tmp := (ops[i]?).bind (·.dst)
/-- the act where the operations of l are done -/
def canon (ops : Array Oper) (l : Array Bool) (vals : Nat → Value) (a : Act) : Nat → Act
  | 0 => a
  | n + 1 => if l.getD n false = true then (canon ops l vals a n).put (dstOf ops n) (vals n) else canon ops l vals a n
def upd (vals : Nat → Value) (i : Nat) (v : Value) (j : Nat) : Value := if j = i then v else vals j
def apartB (ops : Array Oper) : Bool := (List.range ops.size).all fun j => (List.range j).all fun i => (dstOf ops i).isNone || !(decide (dstOf ops i = dstOf ops j))
theorem apart_of {ops : Array Oper} (h : apartB ops = true) {i j : Nat} (hi : i < ops.size) (hj : j < ops.size) (hij : i ≠ j) : ∀ d, dstOf ops i = some d → dstOf ops j ≠ some d := by
  have key : ∀ i j, i < j → j < ops.size → ∀ d, dstOf ops i = some d → dstOf ops j ≠ some d := by
    intro i j hij hj d h1 h2
    have h3 := List.all_eq_true.1 (List.all_eq_true.1 h j (List.mem_range.2 hj)) i (List.mem_range.2 hij)
    rw [h1, h2] at h3
    simp at h3
  intro d h1 h2
  rcases Nat.lt_or_gt_of_ne hij with h3 | h3
  · exact key i j h3 hj d h1 h2
  · exact key j i h3 hi d h2 h1
theorem getD_set {l : Array Bool} {i j : Nat} (hi : i < l.size) : (l.setIfInBounds i true).getD j false = if j = i then true else l.getD j false := by
  rw [Array.getD_eq_getD_getElem?, Array.getElem?_setIfInBounds, Array.getD_eq_getD_getElem?]
  by_cases h : i = j
  · subst h; simp [hi]
  · rw [if_neg h, if_neg (fun e => h e.symm)]
theorem canon_set {ops : Array Oper} (hd : apartB ops = true) {l : Array Bool} {vals : Nat → Value} {a : Act} {i : Nat} {v : Value} (hi : i < ops.size) (hl : l.size = ops.size) (h0 : l.getD i false = false) :
    ∀ n, n ≤ ops.size → canon ops (l.setIfInBounds i true) (upd vals i v) a n = if i < n then (canon ops l vals a n).put (dstOf ops i) v else canon ops l vals a n := by
  intro n
  induction n with
  | zero => intro _; rfl
  | succ n ih =>
    intro hn
    have ih := ih (by omega)
    have hil : i < l.size := by omega
    show (if (l.setIfInBounds i true).getD n false = true then (canon ops (l.setIfInBounds i true) (upd vals i v) a n).put (dstOf ops n) (upd vals i v n) else canon ops (l.setIfInBounds i true) (upd vals i v) a n) = if i < n + 1 then (if l.getD n false = true then (canon ops l vals a n).put (dstOf ops n) (vals n) else canon ops l vals a n).put (dstOf ops i) v else (if l.getD n false = true then (canon ops l vals a n).put (dstOf ops n) (vals n) else canon ops l vals a n)
    rw [getD_set hil, ih]
    by_cases hin : n = i
    · subst hin
      simp [h0, upd]
    · have hu : upd vals i v n = vals n := by simp [upd, hin]
      rw [if_neg hin, hu]
      by_cases hlt : i < n
      · have h1 : i < n + 1 := by omega
        simp only [hlt, h1, if_true]
        by_cases hln : l.getD n false = true
        · simp only [hln, if_true]
          exact Act.put_comm _ _ _ (apart_of hd hi (by omega) (fun e => hin e.symm))
        · simp only [hln]
          rfl
      · have h1 : ¬ i < n + 1 := by omega
        simp only [hlt, h1, if_false]
theorem put_get (a : Act) (d k : Nat) (v : Value) : (a.put (some d) v).tmps.getD k undef = if d = k ∧ d < a.tmps.size then v else a.tmps.getD k undef := by
  show (a.tmps.setIfInBounds d v).getD k undef = _
  rw [Array.getD_eq_getD_getElem?, Array.getElem?_setIfInBounds, Array.getD_eq_getD_getElem?]
  by_cases h : d = k
  · subst h
    by_cases h2 : d < a.tmps.size
    · simp [h2]
    · simp [h2]
  · simp [h]
theorem put_size (a : Act) (d : Option Tmp) (v : Value) : (a.put d v).tmps.size = a.tmps.size := by cases d <;> simp [Act.put]
theorem canon_size (ops : Array Oper) (l : Array Bool) (vals : Nat → Value) (a : Act) : ∀ n, (canon ops l vals a n).tmps.size = a.tmps.size
  | 0 => rfl
  | n + 1 => by
    unfold canon
    split
    · rw [put_size]; exact canon_size ops l vals a n
    · exact canon_size ops l vals a n
theorem canon_get {ops : Array Oper} (hd : apartB ops = true) {l : Array Bool} {vals : Nat → Value} {a : Act} {j k : Nat} (hj : l.getD j false = true) (hk : dstOf ops j = some k) (hs : k < a.tmps.size) :
    ∀ n, j < n → n ≤ ops.size → (canon ops l vals a n).tmps.getD k undef = vals j := by
  intro n
  induction n with
  | zero => intro h; omega
  | succ n ih =>
    intro hjn hn
    unfold canon
    by_cases e : j = n
    · subst e
      rw [if_pos hj, hk, put_get, if_pos ⟨rfl, by rw [canon_size]; exact hs⟩]
    · have ih := ih (by omega) (by omega)
      split
      · have h := apart_of hd (by omega : j < ops.size) (by omega : n < ops.size) e k hk
        rcases hdn : dstOf ops n with _ | d
        · exact ih
        · rw [put_get, if_neg (by rintro ⟨rfl, _⟩; exact h hdn)]
          exact ih
      · exact ih
theorem canon_old {ops : Array Oper} {l : Array Bool} {vals : Nat → Value} {a : Act} {k : Nat} : ∀ n, ((List.range n).all fun j => !(decide (dstOf ops j = some k))) = true → (canon ops l vals a n).tmps.getD k undef = a.tmps.getD k undef
  | 0, _ => rfl
  | n + 1, h => by
    rw [List.range_succ, List.all_append, Bool.and_eq_true] at h
    have ih := canon_old (vals := vals) (a := a) (l := l) n h.1
    have h2 : dstOf ops n ≠ some k := by simpa using h.2
    unfold canon
    split
    · rcases hdn : dstOf ops n with _ | d
      · exact ih
      · rw [put_get, if_neg (by rintro ⟨rfl, _⟩; exact h2 hdn)]
        exact ih
    · exact ih

section
variable {md : Region.Mode} {ops : Array Oper} {Q : Exit → Act → World → Prop}
/-- no guards; each one's slot its own; none waits for one behind it -/
def plainB (md : Region.Mode) (ops : Array Oper) : Bool := apartB ops && (List.range ops.size).all fun i => match ops[i]? with | some o => o.guard.isNone && o.after.all fun e => !(Region.binds md e) || decide (e.on < i) | none => true
/-- what holds where the operations of l are done -/
structure Inv (md : Region.Mode) (ops : Array Oper) (C : World → Prop) (F : Nat → Value → World → Prop) (T : Nat → Nat) (l : Array Bool) (vals : Nat → Value) (W : World) : Prop where
  siz : l.size = ops.size
  com : C W
  fact : ∀ j, l.getD j false = true → l.getD (T j) false = false → F j (vals j) W
  clo : ∀ j o, ops[j]? = some o → l.getD j false = true → ∀ e ∈ o.after, Region.binds md e = true → l.getD e.on false = true
/-- what waits for k has not come up ahead of it -/
theorem Inv.ahead {C : World → Prop} {F : Nat → Value → World → Prop} {T : Nat → Nat} {l : Array Bool} {vals : Nat → Value} {W : World} (h : Inv md ops C F T l vals W) {k : Nat} (hk : l.getD k false = false) (j : Nat)
    (hj : ((ops[j]?).any fun o => o.after.any fun e => Region.binds md e && decide (e.on = k)) = true) : l.getD j false = false := by
  rcases hl : l.getD j false with _ | _
  · rfl
  · exfalso
    rcases ho : ops[j]? with _ | o
    · rw [ho] at hj; cases hj
    · rw [ho] at hj
      obtain ⟨e, he, h2⟩ : ∃ e, e ∈ o.after ∧ (Region.binds md e && decide (e.on = k)) = true := by
        have hj : (o.after.any fun e => Region.binds md e && decide (e.on = k)) = true := hj
        rw [Array.any_eq_true] at hj
        obtain ⟨i, hi, h2⟩ := hj
        exact ⟨o.after[i], Array.getElem_mem hi, h2⟩
      rw [Bool.and_eq_true, decide_eq_true_eq] at h2
      have h3 := h.clo j o ho hl e he h2.1
      rw [h2.2, hk] at h3
      cases h3
def Step (P : Program) (md : Region.Mode) (ops : Array Oper) (Q : Exit → Act → World → Prop) (a : Act) (C : World → Prop) (F : Nat → Value → World → Prop) (T : Nat → Nat) (i : Nat) (o : Oper) : Prop :=
  ∀ (l : Array Bool) (vals : Nat → Value) (W : World), Inv md ops C F T l vals W → l.getD i false = false → (∀ e ∈ o.after, Region.binds md e = true → l.getD e.on false = true) →
    o.wp P (canon ops l vals a ops.size) W (fun a' W' => ∃ v, a' = (canon ops l vals a ops.size).put o.dst v ∧ C W' ∧ F i v W' ∧ ∀ j, j ≠ i → T j ≠ i → l.getD j false = true → l.getD (T j) false = false → F j (vals j) W') Q
def AllFrom (p : Nat → Oper → Prop) : Nat → List Oper → Prop
  | _, [] => True
  | i, o :: r => p i o ∧ AllFrom p (i + 1) r
theorem AllFrom.at {p : Nat → Oper → Prop} : ∀ {l : List Oper} {i : Nat}, AllFrom p i l → ∀ {j : Nat} {o : Oper}, l[j]? = some o → p (i + j) o
  | [], _, _, j, o, h => by simp at h
  | x :: r, i, hp, 0, o, h => by
    obtain rfl : x = o := by simpa using h
    exact hp.1
  | x :: r, i, hp, j + 1, o, h => by
    have := AllFrom.at hp.2 (j := j) (o := o) (by simpa using h)
    rwa [show i + (j + 1) = i + 1 + j by omega]

theorem fwd_of {md : Region.Mode} {ops : Array Oper} (h : plainB md ops = true) : apartB ops = true ∧ ∀ (i : Nat) (o : Oper), ops[i]? = some o → o.guard = none ∧ ∀ e ∈ o.after, Region.binds md e = true → e.on < i := by
  unfold plainB at h
  rw [Bool.and_eq_true] at h
  refine ⟨h.1, fun i o ho => ?_⟩
  have hi : i < ops.size := (Array.getElem?_eq_some_iff.1 ho).1
  have h2 := List.all_eq_true.1 h.2 i (List.mem_range.2 hi)
  rw [ho] at h2
  simp only [Bool.and_eq_true, Option.isNone_iff_eq_none, Array.all_eq_true_iff_forall_mem, Bool.or_eq_true, Bool.not_eq_true', decide_eq_true_eq] at h2
  exact ⟨h2.1, fun e he hb => (h2.2 e he).resolve_left (by rw [hb]; simp)⟩
def cnt (l : Array Bool) : Nat := (l.toList.filter id).length
theorem cnt_set {l : Array Bool} {i : Nat} (hi : i < l.size) (h : l.getD i false = false) : cnt (l.setIfInBounds i true) = cnt l + 1 := by
  obtain ⟨l⟩ := l
  simp only [cnt, List.setIfInBounds_toArray, List.size_toArray] at *
  simp only [Array.getD_eq_getD_getElem?, List.getElem?_toArray] at h
  induction l generalizing i with
  | nil => simp at hi
  | cons b r ih =>
    cases i with
    | zero => simp at h; subst h; simp
    | succ i =>
      have := ih (i := i) (by simpa using hi) (by simpa using h)
      cases b <;> simp [List.set_cons_succ] at this ⊢ <;> omega
theorem cnt_all {l : Array Bool} (h : cnt l = l.size) : ∀ i, i < l.size → l.getD i false = true := by
  obtain ⟨l⟩ := l
  simp only [cnt, List.size_toArray] at *
  intro i hi
  have h2 := List.length_filter_eq_length_iff.1 h l[i] (List.getElem_mem hi)
  simpa [Array.getD_eq_getD_getElem?, hi] using h2
theorem cnt_le (l : Array Bool) : cnt l ≤ l.size := by
  obtain ⟨l⟩ := l
  simpa [cnt] using List.length_filter_le id l
theorem least_open {md : Region.Mode} {ops : Array Oper} (hf : ∀ (i : Nat) (o : Oper), ops[i]? = some o → ∀ e ∈ o.after, Region.binds md e = true → e.on < i) {l : Array Bool} (hl : l.size = ops.size) {i : Nat} (hi : i < ops.size) (h : l.getD i false = false) : Region.ready md ops l ≠ [] := by
  induction i using Nat.strongRecOn with
  | _ i ih =>
    by_cases hx : ∃ k, k < i ∧ l.getD k false = false
    · obtain ⟨k, hk, h1⟩ := hx
      exact ih k hk (by omega) h1
    · refine List.ne_nil_of_mem (a := i) ?_
      unfold Region.ready
      rw [List.mem_filter]
      refine ⟨List.mem_range.2 hi, ?_⟩
      obtain ⟨o, ho⟩ : ∃ o, ops[i]? = some o := ⟨_, Array.getElem?_eq_getElem hi⟩
      have hlt : l.getD i true = false := by
        rw [Array.getD_eq_getD_getElem?, Array.getElem?_eq_getElem (by omega)] at h ⊢
        simpa using h
      rw [hlt, ho]
      simp only [Bool.not_false, Bool.true_and, Option.map_some, Option.getD_some, Array.all_eq_true_iff_forall_mem]
      intro e he
      rcases hbb : Region.binds md e with _ | _
      · simp
      · have h3 := hf i o ho e he hbb
        have : l.getD e.on false = true := by
          rcases hb : l.getD e.on false with _ | _
          · exact absurd ⟨e.on, h3, hb⟩ hx
          · rfl
        simp [this]
theorem wpAny_facts (P : Program) {a : Act} {C : World → Prop} {F : Nat → Value → World → Prop} {T : Nat → Nat} (hp : plainB md ops = true) (hs : AllFrom (Step P md ops Q a C F T) 0 ops.toList)
    (he : ∀ l vals W, Inv md ops C F T l vals W → (∀ i, i < ops.size → l.getD i false = true) → Q .normal (canon ops (Array.replicate ops.size true) vals a ops.size) W) :
    ∀ n l vals W, n + cnt l = ops.size → Inv md ops C F T l vals W → wpAny P md ops Q n l (canon ops l vals a ops.size) W := by
  obtain ⟨hd, hf⟩ := fwd_of hp
  intro n
  induction n with
  | zero =>
    intro l vals W hn hI
    have hall := cnt_all (l := l) (by rw [hI.siz]; omega)
    refine ⟨?_, ?_⟩
    · unfold Region.ready
      rw [List.filter_eq_nil_iff]
      intro i hi
      have h := hall i (by rw [hI.siz]; exact List.mem_range.1 hi)
      have h2 : l.getD i true = true := by
        have hi2 := List.mem_range.1 hi
        rw [Array.getD_eq_getD_getElem?, Array.getElem?_eq_getElem (by rw [hI.siz]; exact hi2)] at h ⊢
        simpa using h
      simp [h2]
    · have hl : l = Array.replicate ops.size true := by
        refine Array.ext (by rw [hI.siz]; simp) fun i h1 h2 => ?_
        have h := hall i h1
        rw [Array.getD_eq_getD_getElem?, Array.getElem?_eq_getElem h1] at h
        simpa using h
      rw [hI.siz] at hall
      have h3 := he l vals W hI hall
      rwa [← hl] at h3
  | succ n ih =>
    intro l vals W hn hI
    have hopen : ∃ i, i < ops.size ∧ l.getD i false = false := by
      refine Classical.byContradiction fun hx => ?_
      have : ∀ b ∈ l.toList, id b = true := by
        intro b hb
        obtain ⟨i, hi, rfl⟩ := List.getElem_of_mem hb
        rcases h2 : l.getD i false with _ | _
        · exact absurd ⟨i, by rw [← hI.siz]; simpa using hi, h2⟩ hx
        · rw [Array.getD_eq_getD_getElem?, Array.getElem?_eq_getElem (by simpa using hi)] at h2
          simpa using h2
      have h3 := List.length_filter_eq_length_iff.2 this
      have h4 := hI.siz
      simp only [cnt] at hn
      simp at h3
      omega
    obtain ⟨k, hk, hk0⟩ := hopen
    refine ⟨fun h => absurd h (least_open (fun i o h => (hf i o h).2) hI.siz hk hk0), fun i hi => ?_⟩
    unfold Region.ready at hi
    rw [List.mem_filter, Bool.and_eq_true] at hi
    obtain ⟨hir, hi1, hi2⟩ := hi
    have hilt := List.mem_range.1 hir
    obtain ⟨o, ho⟩ : ∃ o, ops[i]? = some o := ⟨_, Array.getElem?_eq_getElem hilt⟩
    have hi0 : l.getD i false = false := by
      have hil : i < l.size := by rw [hI.siz]; exact hilt
      rw [Array.getD_eq_getD_getElem?, Array.getElem?_eq_getElem hil] at hi1 ⊢
      simpa using hi1
    rw [ho] at hi2
    simp only [Option.map_some, Option.getD_some, Array.all_eq_true_iff_forall_mem] at hi2
    have hdep : ∀ e ∈ o.after, Region.binds md e = true → l.getD e.on false = true := by
      intro e he hb
      have := hi2 e he
      simpa [hb] using this
    have hst := (AllFrom.at hs (j := i) (o := o) (by simpa using ho))
    rw [Nat.zero_add] at hst
    have hst := hst l vals W hI hi0 hdep
    have hw : Region.wanted o (yielded ops (canon ops l vals a ops.size).tmps) = true := by simp [Region.wanted, (hf i o ho).1]
    unfold wpOp
    rw [ho]
    simp only [hw, if_true]
    refine .inl (Oper.wp_mono ?_ hst)
    rintro a' W' ⟨v, rfl, hC, hF, hrest⟩
    have hcs := canon_set hd (a := a) (vals := vals) (v := v) hilt hI.siz hi0 ops.size (Nat.le_refl _)
    rw [if_pos hilt] at hcs
    have hdst : dstOf ops i = o.dst := by simp [dstOf, ho]
    rw [hdst] at hcs
    rw [← hcs]
    have hil : i < l.size := by rw [hI.siz]; exact hilt
    refine ih _ _ _ (by rw [cnt_set hil hi0]; omega) ⟨by rw [Array.size_setIfInBounds]; exact hI.siz, hC, fun j hj hT => by
    rw [getD_set hil] at hj hT
    by_cases hji : j = i
    · subst hji; simpa [upd] using hF
    · rw [if_neg hji] at hj
      by_cases hTi : T j = i
      · rw [if_pos hTi] at hT; cases hT
      · rw [if_neg hTi] at hT
        have := hrest j hji hTi hj hT
        simpa [upd, hji] using this, fun j o' ho' hj e he hb => ?_⟩
    rw [getD_set hil] at hj ⊢
    by_cases hei : e.on = i
    · rw [if_pos hei]
    · rw [if_neg hei]
      by_cases hji : j = i
      · subst hji
        obtain rfl : o = o' := by rw [ho] at ho'; injection ho'
        exact hdep e he hb
      · rw [if_neg hji] at hj
        exact hI.clo j o' ho' hj e he hb

/-- a region that draws, by its operations' facts -/
theorem wp_region_facts {id : Nat} {a : Act} {w : World} (C : World → Prop) (F : Nat → Value → World → Prop) (T : Nat → Nat) (hm : Tryd.prog.follows .mixedOrders = true) (hp : plainB .any ops = true)
    (hC : C { w with drawn := w.drawn + 1 }) (hs : AllFrom (Step Tryd.prog .any ops Q a C F T) 0 ops.toList)
    (he : ∀ vals W, C W → (∀ j, j < ops.size → ops.size ≤ T j → F j (vals j) W) → Q .normal (canon ops (Array.replicate ops.size true) vals a ops.size) W) : (Code.region id ops true).wp Tryd.prog Q a w := by
  refine wp_region_any hm ?_
  have hc : canon ops (Array.replicate ops.size false) (fun _ => undef) a ops.size = a := by
    have h : ∀ n, canon ops (Array.replicate ops.size false) (fun _ => undef) a n = a := by
      intro n
      induction n with
      | zero => rfl
      | succ n ih =>
        unfold canon
        rw [ih]
        by_cases hn : n < ops.size
        · simp [Array.getD_eq_getD_getElem?, hn]
        · simp [Array.getD_eq_getD_getElem?, hn]
    exact h _
  have h := wpAny_facts (Q := Q) Tryd.prog hp hs (fun l vals W hI hall => he vals W hI.com fun j hj hT => hI.fact j (hall j hj) (by
    rw [Array.getD_eq_getD_getElem?, Array.getElem?_eq_none (by rw [hI.siz]; exact hT)]; rfl)) ops.size (Array.replicate ops.size false) (fun _ => undef) { w with drawn := w.drawn + 1 }
    (by simp [cnt]) ⟨by simp, hC, fun j hj => by
      rw [Array.getD_eq_getD_getElem?, Array.getElem?_replicate] at hj
      split at hj <;> simp at hj, fun j o _ hj => by
      rw [Array.getD_eq_getD_getElem?, Array.getElem?_replicate] at hj
      split at hj <;> simp at hj⟩
  rwa [hc] at h
theorem dep {o : Oper} {l : Array Bool} (h : ∀ e ∈ o.after, Region.binds .any e = true → l.getD e.on false = true) (j : Nat) (hj : (o.after.any fun e => Region.binds .any e && decide (e.on = j)) = true) : l.getD j false = true := by
  obtain ⟨e, he, h2⟩ : ∃ e, e ∈ o.after ∧ (Region.binds .any e && decide (e.on = j)) = true := by
    rw [Array.any_eq_true] at hj
    obtain ⟨k, hk, h2⟩ := hj
    exact ⟨o.after[k], Array.getElem_mem hk, h2⟩
  rw [Bool.and_eq_true, decide_eq_true_eq] at h2
  rw [← h2.2]
  exact h e he h2.1
/-- an operation that only gives a value -/
theorem step_still {i : Nat} {o : Oper} {a : Act} {C : World → Prop} {F : Nat → Value → World → Prop} {T : Nat → Nat}
    (h : ∀ l vals W, Inv md ops C F T l vals W → l.getD i false = false → (∀ e ∈ o.after, Region.binds md e = true → l.getD e.on false = true) → ∃ v, (execOp (canon ops l vals a ops.size).eval o).run Tryd.prog W = .ok (.value v) W ∧ F i v W) : Step Tryd.prog md ops Q a C F T i o := by
  intro l vals W hI hi hdep
  obtain ⟨v, hv, hF⟩ := h l vals W hI hi hdep
  unfold Oper.wp
  rw [hv]
  exact ⟨v, rfl, hI.com, hF, fun j _ _ hj hT => hI.fact j hj hT⟩
end
section
variable {md : Region.Mode} {ops : Array Oper} {Q : Exit → Act → World → Prop}
theorem ev_get {l : Array Bool} {vals : Nat → Value} {a : Act} (hd : apartB ops = true) (j k : Nat) (hj : l.getD j false = true) (hk : dstOf ops j = some k) (hs : k < a.tmps.size) (hn : j < ops.size) : (canon ops l vals a ops.size).eval (.tmp k) = vals j := by
  have h := canon_get hd (vals := vals) hj hk hs ops.size hn (Nat.le_refl _)
  simpa [Act.eval, Array.getD_eq_getD_getElem?] using h
end
section
variable {md : Region.Mode} {ops : Array Oper} {Q : Exit → Act → World → Prop}
theorem ev_old {l : Array Bool} {vals : Nat → Value} {a : Act} (k : Nat) (h : ((List.range ops.size).all fun j => !(decide (dstOf ops j = some k))) = true) : (canon ops l vals a ops.size).eval (.tmp k) = a.eval (.tmp k) := by
  have h := canon_old (vals := vals) (a := a) (l := l) ops.size h
  simpa [Act.eval, Array.getD_eq_getD_getElem?] using h
end
section
variable {md : Region.Mode} {ops : Array Oper} {Q : Exit → Act → World → Prop}
theorem AllFrom.cons {p : Nat → Oper → Prop} {i : Nat} {o : Oper} {r : List Oper} (h : p i o) (hr : AllFrom p (i + 1) r) : AllFrom p i (o :: r) := ⟨h, hr⟩
end
section
variable {md : Region.Mode} {ops : Array Oper} {Q : Exit → Act → World → Prop}
/-- an operation whose run is known: its slots by what was made here, or stood before -/
theorem step_run {i : Nat} {o : Oper} {a : Act} {C : World → Prop} {F : Nat → Value → World → Prop} {T : Nat → Nat} (hd : apartB ops = true)
    (h : ∀ l vals W (ρ : Operand → Value), Inv .any ops C F T l vals W → l.getD i false = false → (∀ e ∈ o.after, Region.binds .any e = true → l.getD e.on false = true) →
      (∀ j k, l.getD j false = true → dstOf ops j = some k → k < a.tmps.size → j < ops.size → ρ (.tmp k) = vals j) → (∀ k, ((List.range ops.size).all fun j => !(decide (dstOf ops j = some k))) = true → ρ (.tmp k) = a.eval (.tmp k)) → (∀ c, ρ (.const c) = c) →
      ∃ v W', (execOp ρ o).run Tryd.prog W = .ok (.value v) W' ∧ C W' ∧ F i v W' ∧ ∀ j, j ≠ i → T j ≠ i → l.getD j false = true → l.getD (T j) false = false → F j (vals j) W') : Step Tryd.prog .any ops Q a C F T i o := by
  intro l vals W hI hi hdep
  obtain ⟨v, W', hv, hC, hF, hr⟩ := h l vals W (canon ops l vals a ops.size).eval hI hi hdep (fun j k h1 h2 h3 h4 => ev_get hd j k h1 h2 h3 h4) (fun k h => ev_old k h) (fun c => rfl)
  unfold Oper.wp
  rw [hv]
  exact ⟨v, rfl, hC, hF, hr⟩
end
section
variable {md : Region.Mode} {ops : Array Oper} {Q : Exit → Act → World → Prop}
theorem step_skip {i : Nat} {o : Oper} {a : Act} {C : World → Prop} {F : Nat → Value → World → Prop} {T : Nat → Nat} (hd : apartB ops = true)
    (h : ∀ l vals W (ρ : Operand → Value), Inv .any ops C F T l vals W → l.getD i false = false → (∀ e ∈ o.after, Region.binds .any e = true → l.getD e.on false = true) →
      (∀ j k, l.getD j false = true → dstOf ops j = some k → k < a.tmps.size → j < ops.size → ρ (.tmp k) = vals j) → (∀ k, ((List.range ops.size).all fun j => !(decide (dstOf ops j = some k))) = true → ρ (.tmp k) = a.eval (.tmp k)) → (∀ c, ρ (.const c) = c) →
      ∃ W', (execOp ρ o).run Tryd.prog W = .ok .skip W' ∧ C W' ∧ F i undef W' ∧ ∀ j, j ≠ i → T j ≠ i → l.getD j false = true → l.getD (T j) false = false → F j (vals j) W') : Step Tryd.prog .any ops Q a C F T i o := by
  intro l vals W hI hi hdep
  obtain ⟨W', hv, hC, hF, hr⟩ := h l vals W (canon ops l vals a ops.size).eval hI hi hdep (fun j k h1 h2 h3 h4 => ev_get hd j k h1 h2 h3 h4) (fun k h => ev_old k h) (fun c => rfl)
  unfold Oper.wp
  rw [hv]
  exact ⟨undef, rfl, hC, hF, hr⟩
end
section
variable {md : Region.Mode} {ops : Array Oper} {Q : Exit → Act → World → Prop}
theorem step_is {i : Nat} {o : Oper} {a : Act} {C : World → Prop} {F : Nat → Value → World → Prop} {T : Nat → Nat} (hd : apartB ops = true)
    (h : ∀ l vals W (ρ : Operand → Value), Inv .any ops C F T l vals W → l.getD i false = false → (∀ e ∈ o.after, Region.binds .any e = true → l.getD e.on false = true) →
      (∀ j k, l.getD j false = true → dstOf ops j = some k → k < a.tmps.size → j < ops.size → ρ (.tmp k) = vals j) → (∀ k, ((List.range ops.size).all fun j => !(decide (dstOf ops j = some k))) = true → ρ (.tmp k) = a.eval (.tmp k)) → (∀ c, ρ (.const c) = c) →
      ∃ v, (execOp ρ o).run Tryd.prog W = .ok (.value v) W ∧ F i v W) : Step Tryd.prog .any ops Q a C F T i o :=
  step_run hd fun l vals W ρ hI hi hdep h1 h2 h3 => by
    obtain ⟨v, hv, hF⟩ := h l vals W ρ hI hi hdep h1 h2 h3
    exact ⟨v, W, hv, hI.com, hF, fun j _ _ hj hT => hI.fact j hj hT⟩
end
section
variable {md : Region.Mode} {ops : Array Oper} {Q : Exit → Act → World → Prop}
/-- a call of a function of one argument -/
theorem step_fn {i : Nat} {o : Oper} {a : Act} {C : World → Prop} {F : Nat → Value → World → Prop} {T : Nat → Nat} (f k : Nat) (ts : Array TypeId) (ho : o.op = .call { callee := .value (.func f), args := #[.tmp k], argTypes := ts })
    (eg : ∀ args w, (callFunc f args).run Tryd.prog w = .ok (.enter f args) w)
    (h : ∀ l vals W, Inv .any ops C F T l vals W → l.getD i false = false → (∀ e ∈ o.after, Region.binds .any e = true → l.getD e.on false = true) → ∃ v, (canon ops l vals a ops.size).eval (.tmp k) = v ∧ Calls Tryd.prog f #[v] W fun e W' => ∃ r, e = .returned r ∧ C W' ∧ F i r W' ∧ ∀ j, j ≠ i → T j ≠ i → l.getD j false = true → l.getD (T j) false = false → F j (vals j) W') : Step Tryd.prog .any ops Q a C F T i o := by
  intro l vals W hI hi hdep
  obtain ⟨v, hv, hcall⟩ := h l vals W hI hi hdep
  have hf : (canon ops l vals a ops.size).eval (.func f) = .func (.func f) #[] #[] := rfl
  unfold Oper.wp
  generalize hact : canon ops l vals a ops.size = A at hv hf hcall ⊢
  have hx : (execOp A.eval o).run Tryd.prog W = .ok (.enter f #[v]) W := by
    generalize A.eval = ρ at hv hf ⊢
    simp [execOp, ho, resolve, invoke, eg, hv, hf, go_sem]
  rw [hx]
  refine hcall.mono fun e W' hr => ?_
  obtain ⟨r, rfl, hk⟩ := hr
  exact ⟨r, rfl, hk⟩
end
theorem never {ops : Array Oper} {C : World → Prop} {F : Nat → Value → World → Prop} {T : Nat → Nat} {l : Array Bool} {vals : Nat → Value} {W : World} (hI : Inv .any ops C F T l vals W) {k : Nat} (hs : ops.size ≤ k) : l.getD k false = false := by
  rw [Array.getD_eq_getD_getElem?, Array.getElem?_eq_none (by rw [hI.siz]; exact hs)]; rfl
end Go.Proofs.YtdennekkbdlhdaaDoor
