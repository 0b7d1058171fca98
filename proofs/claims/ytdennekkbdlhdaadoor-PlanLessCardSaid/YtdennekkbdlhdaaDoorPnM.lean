/-
  A demand; what each node is asked for; and the configuration that is its plan.
-/
import Derived.Test.YtdennekkbdlhdaaDoorPlC
namespace Go.Proofs.YtdennekkbdlhdaaDoor
set_option linter.unusedVariables false

structure Tk where
  node : Int
  mem : Int
  share : Int
deriving Inhabited, DecidableEq
structure Sm where
  src : Int
  dests : List Int
  kind : Int
  size : Int
  depth : Int
  fresh : Int
deriving Inhabited, DecidableEq
structure Dm where
  nodes : Int
  drift : Int
  reading : Int
  rejoin : Int
  quota : Int
  tasks : List Tk
  streams : List Sm
deriving Inhabited

def inD (n a b : Int) : Bool := decide (a ≤ n) && decide (n ≤ b)
theorem inD_iff {n a b : Int} : inD n a b = true ↔ a ≤ n ∧ n ≤ b := by unfold inD; simp
def numB (d : Dm) : Bool := inD d.nodes 4 16 && (inD d.drift 0 1048576 && (inD d.reading 0 1048576 && (inD d.rejoin 1 8 && inD d.quota 1 16)))
def tkB (N : Int) (t : Tk) : Bool := decide (0 ≤ t.node ∧ t.node < N) && (inD t.mem 0 256 && inD t.share 0 N)
/-- they rise, each is a number of one of T -/
def riseB (T : Nat) : Int → List Int → Bool
  | _, [] => true
  | a, t :: l => decide (a < t ∧ t < (T : Int)) && riseB T t l
def toB (T : Nat) (l : List Int) : Bool := riseB T (-1) l && !l.isEmpty
def kindB (s : Sm) : Bool := (decide (s.kind = 1 ∧ s.depth = 0) && inD s.fresh 1 65535) || (decide (s.kind = 2 ∧ s.fresh = 0) && inD s.depth 1 8)
def smB (T : Nat) (s : Sm) : Bool := decide (0 ≤ s.src ∧ s.src < (T : Int)) && (toB T s.dests && (inD s.size 1 32 && kindB s))
def portN : List Sm → Nat
  | [] => 0
  | s :: l => 1 + s.dests.length + portN l
def tasksB (d : Dm) : Bool := decide (d.tasks.length ≤ 32) && d.tasks.all (tkB d.nodes)
def streamsB (d : Dm) : Bool := decide (d.streams.length ≤ 64) && (d.streams.all (smB d.tasks.length) && decide (portN d.streams ≤ 64))
def mayD (d : Dm) : Bool := numB d && (tasksB d && streamsB d)

/-! ### sums -/
def sumI {α : Type} (f : α → Int) : List α → Int
  | [] => 0
  | a :: l => f a + sumI f l
theorem sumI_append {α : Type} (f : α → Int) (l m : List α) : sumI f (l ++ m) = sumI f l + sumI f m := by
  induction l with
  | nil => simp [sumI]
  | cons a l ih => simp only [List.cons_append, sumI, ih]; omega
theorem sumI_snoc {α : Type} (f : α → Int) (l : List α) (a : α) : sumI f (l ++ [a]) = sumI f l + f a := by rw [sumI_append]; simp [sumI]
theorem sumI_nonneg {α : Type} {f : α → Int} {l : List α} (h : ∀ a ∈ l, 0 ≤ f a) : 0 ≤ sumI f l := by
  induction l with
  | nil => exact Int.le_refl _
  | cons a l ih =>
    have := h a (List.mem_cons_self ..)
    have := ih fun b hb => h b (List.mem_cons_of_mem _ hb)
    simp only [sumI]; omega
theorem sumI_take {α : Type} {f : α → Int} {l : List α} (h : ∀ a ∈ l, 0 ≤ f a) (k : Nat) : sumI f (l.take k) ≤ sumI f l := by
  have e : sumI f l = sumI f (l.take k) + sumI f (l.drop k) := by rw [← sumI_append, List.take_append_drop]
  have := sumI_nonneg (f := f) (l := l.drop k) fun a ha => h a (List.mem_of_mem_drop ha)
  omega
theorem sumI_le {α : Type} {f g : α → Int} {l : List α} (h : ∀ a ∈ l, f a ≤ g a) : sumI f l ≤ sumI g l := by
  induction l with
  | nil => exact Int.le_refl _
  | cons a l ih =>
    have := h a (List.mem_cons_self ..)
    have := ih fun b hb => h b (List.mem_cons_of_mem _ hb)
    simp only [sumI]; omega
theorem take_more {α : Type} (l : List α) (d : α) (k : Nat) (h : k < l.length) : l.take (k + 1) = l.take k ++ [l.getD k d] := by
  rw [List.take_succ_eq_append_getElem h, List.getD_eq_getElem?_getD, List.getElem?_eq_getElem h]; rfl
theorem sumI_next {α : Type} (f : α → Int) (l : List α) (d : α) (k : Nat) (h : k < l.length) : sumI f (l.take (k + 1)) = sumI f (l.take k) + f (l.getD k d) := by
  rw [take_more l d k h, sumI_snoc]

def memOf (n : Int) (t : Tk) : Int := if t.node = n then t.mem else 0
def shareOf (n : Int) (t : Tk) : Int := if t.node = n then t.share else 0
def nodeOf (ts : List Tk) (s : Sm) : Int := (ts.getD s.src.toNat default).node
def loadOf (ts : List Tk) (n : Int) (s : Sm) : Int := if nodeOf ts s = n then 1 + s.size else 0
/-- what a node is asked for -/
def memN (n : Int) (ts : List Tk) : Int := sumI (memOf n) ts
def shareN (n : Int) (ts : List Tk) : Int := sumI (shareOf n) ts
def loadN (ts : List Tk) (n : Int) (ss : List Sm) : Int := sumI (loadOf ts n) ss
def fitM (d : Dm) : Bool := (List.range d.nodes.toNat).all fun n => decide (memN (n : Int) d.tasks ≤ 256)
def fitS (d : Dm) : Bool := (List.range d.nodes.toNat).all fun n => decide (shareN (n : Int) d.tasks ≤ d.nodes)
def fitL (d : Dm) : Bool := (List.range d.nodes.toNat).all fun n => decide (loadN d.tasks (n : Int) d.streams ≤ 64)

/-! ### the plan -/
def partAt (ts : List Tk) (i : Nat) : Pt := ⟨(ts.getD i default).node, memN (ts.getD i default).node (ts.take i), memN (ts.getD i default).node (ts.take i) + (ts.getD i default).mem⟩
def partsTo (ts : List Tk) (k : Nat) : List Pt := (List.range k).map (partAt ts)
def givenOf (ts : List Tk) (n : Int) (i : Nat) : List Int := if (ts.getD i default).node = n then List.replicate (ts.getD i default).share.toNat (i : Int) else []
def givenTo (ts : List Tk) (n : Int) (k : Nat) : List Int := (List.range k).flatMap (givenOf ts n)
def rowTo (N : Nat) (ts : List Tk) (n : Int) (k : Nat) : List Int := givenTo ts n k ++ List.replicate (N - (givenTo ts n k).length) (-1)
def rowsTo (N : Nat) (ts : List Tk) (k : Nat) : List (List Int) := (List.range N).map fun (n : Nat) => rowTo N ts (n : Int) k
def portsOf (s : Sm) : List Po := ⟨s.src, s.kind, 1, s.size, s.depth, 0⟩ :: s.dests.map fun t => ⟨t, s.kind, 2, s.size, s.depth, s.fresh⟩
def portsAll (ss : List Sm) : List Po := ss.flatMap portsOf
def linkAt (ts : List Tk) (ss : List Sm) (i : Nat) : Lk := ⟨((portsAll (ss.take i)).length : Nat), (List.range (ss.getD i default).dests.length).map fun j => (((portsAll (ss.take i)).length + 1 + j : Nat) : Int), loadN ts (nodeOf ts (ss.getD i default)) (ss.take i)⟩
def linksTo (ts : List Tk) (ss : List Sm) (k : Nat) : List Lk := (List.range k).map (linkAt ts ss)
def boundF (d : Dm) : Int := 2 * (2 * (d.drift + d.reading) + 1) + d.reading
def confF (d : Dm) : Conf := ⟨d.nodes, (List.range d.nodes.toNat).map fun (n : Nat) => (n : Int), d.drift, d.reading, boundF d, boundF d, d.rejoin, d.quota, partsTo d.tasks d.tasks.length, rowsTo d.nodes.toNat d.tasks d.tasks.length, portsAll d.streams, linksTo d.tasks d.streams d.streams.length⟩
def errF (d : Dm) : Int := if mayD d = false then 2 else if fitM d = false then 23 else if fitS d = false then 24 else if fitL d = false then 26 else 0
def noConf : Conf := ⟨0, [], 0, 0, 0, 0, 0, 0, [], [], [], []⟩
def makeF (d : Dm) : Conf := if errF d = 0 then confF d else noConf

theorem partsTo_next (ts : List Tk) (k : Nat) : partsTo ts (k + 1) = partsTo ts k ++ [partAt ts k] := by simp [partsTo, List.range_succ]
theorem partsTo_len (ts : List Tk) (k : Nat) : (partsTo ts k).length = k := by simp [partsTo]
theorem givenTo_next (ts : List Tk) (n : Int) (k : Nat) : givenTo ts n (k + 1) = givenTo ts n k ++ givenOf ts n k := by simp [givenTo, List.range_succ]
theorem linksTo_next (ts : List Tk) (ss : List Sm) (k : Nat) : linksTo ts ss (k + 1) = linksTo ts ss k ++ [linkAt ts ss k] := by simp [linksTo, List.range_succ]
theorem linksTo_len (ts : List Tk) (ss : List Sm) (k : Nat) : (linksTo ts ss k).length = k := by simp [linksTo]
theorem portsAll_next (ss : List Sm) (k : Nat) (h : k < ss.length) : portsAll (ss.take (k + 1)) = portsAll (ss.take k) ++ portsOf (ss.getD k default) := by
  rw [take_more ss default k h]; simp [portsAll]
theorem portsOf_len (s : Sm) : (portsOf s).length = 1 + s.dests.length := by simp [portsOf]; omega
theorem portsAll_len : ∀ ss : List Sm, (portsAll ss).length = portN ss
  | [] => rfl
  | s :: l => by
    have := portsAll_len l
    simp only [portsAll, List.flatMap_cons, List.length_append, portsOf_len, portN] at this ⊢
    omega
theorem portN_snoc (l : List Sm) (s : Sm) : portN (l ++ [s]) = portN l + (1 + s.dests.length) := by
  induction l with
  | nil => simp [portN]
  | cons a l ih => simp only [List.cons_append, portN, ih]; omega
theorem portN_append (l m : List Sm) : portN (l ++ m) = portN l + portN m := by
  induction l with
  | nil => simp [portN]
  | cons a l ih => simp only [List.cons_append, portN, ih]; omega
theorem portN_take (l : List Sm) (k : Nat) : portN (l.take k) ≤ portN l := by
  have e : portN l = portN (l.take k) + portN (l.drop k) := by rw [← portN_append, List.take_append_drop]
  omega
theorem givenOf_len (ts : List Tk) (n : Int) (i : Nat) (h : 0 ≤ (ts.getD i default).share) : ((givenOf ts n i).length : Int) = shareOf n (ts.getD i default) := by
  unfold givenOf shareOf
  split
  · rw [List.length_replicate]; omega
  · rfl
theorem givenTo_len (ts : List Tk) (n : Int) (h : ∀ t ∈ ts, 0 ≤ t.share) : ∀ k, k ≤ ts.length → ((givenTo ts n k).length : Int) = shareN n (ts.take k)
  | 0, _ => by simp [givenTo, shareN, sumI]
  | k + 1, hk => by
    have ih := givenTo_len ts n h k (by omega)
    have hm : ts.getD k default ∈ ts := by
      rw [List.getD_eq_getElem?_getD, List.getElem?_eq_getElem (show k < ts.length by omega)]
      exact List.getElem_mem _
    have h1 := givenOf_len ts n k (h _ hm)
    rw [givenTo_next, List.length_append]
    unfold shareN at ih ⊢
    rw [sumI_next _ ts default k (by omega)]
    omega
theorem givenTo_nat (ts : List Tk) (n : Int) : ∀ k, ∀ x ∈ givenTo ts n k, 0 ≤ x ∧ x < (k : Int) ∧ (ts.getD x.toNat default).node = n := by
  intro k x hx
  simp only [givenTo, List.mem_flatMap, List.mem_range, givenOf] at hx
  obtain ⟨i, hi, hx⟩ := hx
  split at hx
  · have := (List.mem_replicate.1 hx).2
    subst this
    exact ⟨by omega, by omega, by simpa⟩
  · cases hx
theorem all_range {N : Nat} {p : Nat → Bool} : (List.range N).all p = true ↔ ∀ n, n < N → p n = true := by simp [List.all_eq_true]
end Go.Proofs.YtdennekkbdlhdaaDoor
