/-
  A run of closed code that hangs on no draw: values, memory, operations.
-/
import Derived.RangeFuncLeaves
import Derived.LoopNIn
import Derived.OrdersIn
import Derived.Below
import Derived.Laws.AppendOwn
namespace Go.Proofs.YtdennekkbdlhdaaDoor.Ev
set_option linter.unusedVariables false

/-- a capacity: a number, or as many as the row has but for some -/
inductive Cp where
  | k (n : Nat)
  | o (d : Nat)
instance : Inhabited Cp := ⟨.k 0⟩

inductive AV where
  | b (x : Bool)
  | i (k : IntKind) (n : Int)
  | s (x : ByteArray)
  | pn
  | p (r o : Nat)
  | pg (g o : Nat)
  | sn
  | sl (r o len : Nat) (c : Cp)
  | se (r o u d : Nat)
  | fn (f : FuncId) (first captured : List AV)
  | yl (r : Nat)
  | mn
  | mp (r : Nat)
  | fnil
  | inil
  | ifc (t : TypeId) (v : AV)
  | agg (l : List AV)
  | tup (l : List AV)
instance : Inhabited AV := ⟨.sn⟩

/-! ### Laid open -/
section
variable {R : Type}
noncomputable def fNat (n : Nat) (k : Nat → R) : R := match n with | 0 => k 0 | m + 1 => k (Nat.succ m)
noncomputable def fInt (n : Int) (k : Int → R) : R := match n with | .ofNat m => fNat m fun m => k (.ofNat m) | .negSucc m => fNat m fun m => k (.negSucc m)
noncomputable def fLs {α : Type} (l : List α) : (List α → R) → R := List.rec (motive := fun _ => (List α → R) → R) (fun k => k []) (fun x _ ih k => ih fun l => k (x :: l)) l
noncomputable def fCp (c : Cp) (k : Cp → R) : R := match c with | .k n => fNat n fun n => k (.k n) | .o d => fNat d fun d => k (.o d)
noncomputable def fV1 (v : AV) (k : AV → R) : R :=
  match v with
  | .b true => k (.b true)
  | .b false => k (.b false)
  | .i q n => fInt n fun n => k (.i q n)
  | .s ⟨⟨l⟩⟩ => fLs l fun l => k (.s ⟨⟨l⟩⟩)
  | .p r o => fNat r fun r => fNat o fun o => k (.p r o)
  | .sl r o n c => fNat r fun r => fNat o fun o => fNat n fun n => fCp c fun c => k (.sl r o n c)
  | .se r o u d => fNat r fun r => fNat o fun o => fNat u fun u => fNat d fun d => k (.se r o u d)
  | .mp r => fNat r fun r => k (.mp r)
  | v => k v
noncomputable def fVs (l : List AV) : (List AV → R) → R := List.rec (motive := fun _ => (List AV → R) → R) (fun k => k []) (fun x _ ih k => fV1 x fun x => ih fun l => k (x :: l)) l
noncomputable def fV (v : AV) (k : AV → R) : R :=
  match v with
  | .agg l => fVs l fun l => k (.agg l)
  | .tup l => fVs l fun l => k (.tup l)
  | v => fV1 v k
noncomputable def putK (l : List AV) (n : Nat) (v : AV) : (List AV → R) → R := List.rec (motive := fun _ => Nat → (List AV → R) → R) (fun _ k => k []) (fun x l ih n k => Nat.rec (motive := fun _ => R) (k (v :: l)) (fun m _ => ih m fun l => k (x :: l)) n) l n
noncomputable def nthA (l : List AV) : Nat → AV := List.rec (motive := fun _ => Nat → AV) (fun _ => .tup []) (fun x _ ih n => Nat.rec (motive := fun _ => AV) x (fun m _ => ih m) n) l
theorem nthA_eq (l : List AV) (n : Nat) : nthA l n = l.getD n (.tup []) := by
  induction l generalizing n with
  | nil => rfl
  | cons x l ih =>
    cases n with
    | zero => rfl
    | succ n => exact (ih n).trans (by simp)

theorem fNat_eq (n : Nat) (k : Nat → R) : fNat n k = k n := by cases n <;> rfl
theorem fInt_eq (n : Int) (k : Int → R) : fInt n k = k n := by cases n <;> simp [fInt, fNat_eq]
theorem fLs_eq {α : Type} (l : List α) (k : List α → R) : fLs l k = k l := by induction l generalizing k with | nil => rfl | cons x l ih => exact ih _
theorem fCp_eq (c : Cp) (k : Cp → R) : fCp c k = k c := by cases c <;> simp [fCp, fNat_eq]
theorem fV1_eq (v : AV) (k : AV → R) : fV1 v k = k v := by
  cases v with
  | b x => cases x <;> rfl
  | s x => obtain ⟨⟨l⟩⟩ := x; simp [fV1, fLs_eq]
  | _ => simp [fV1, fInt_eq, fNat_eq, fCp_eq]
theorem fVs_eq (l : List AV) (k : List AV → R) : fVs l k = k l := by
  induction l generalizing k with
  | nil => rfl
  | cons x l ih =>
    refine Eq.trans (show fVs (x :: l) k = fV1 x fun x => fVs l fun l => k (x :: l) from rfl) ?_
    rw [fV1_eq, ih]
theorem fV_eq (v : AV) (k : AV → R) : fV v k = k v := by cases v <;> simp [fV, fVs_eq, fV1_eq]
theorem putK_eq (l : List AV) (n : Nat) (v : AV) (k : List AV → R) : putK l n v k = k (l.set n v) := by
  induction l generalizing n k with
  | nil => simp [putK]
  | cons x l ih =>
    cases n with
    | zero => rfl
    | succ n => exact (ih n _).trans (by simp)
end

/-! ### Memory -/
inductive T (α : Type) where
  | e
  | n (l : T α) (v : Option α) (r : T α)
instance {α : Type} : Inhabited (T α) := ⟨.e⟩

noncomputable def T.get {α : Type} : T α → Nat → Option α
  | .e, _ => none
  | .n l v r, i => match i with | 0 => v | j + 1 => match j % 2 with | 0 => l.get (j / 2) | _ + 1 => r.get (j / 2)
noncomputable def T.set {α : Type} {R : Type} : Nat → T α → Nat → Option α → (Option (T α) → R) → R
  | 0, _, _, _, k => k none
  | f + 1, .e, i, x, k => match i with
    | 0 => k (some (.n .e x .e))
    | j + 1 => match j % 2 with
      | 0 => T.set f .e (j / 2) x fun t => match t with | some t => k (some (.n t none .e)) | none => k none
      | _ + 1 => T.set f .e (j / 2) x fun t => match t with | some t => k (some (.n .e none t)) | none => k none
  | f + 1, .n l v r, i, x, k => match i with
    | 0 => k (some (.n l x r))
    | j + 1 => match j % 2 with
      | 0 => T.set f l (j / 2) x fun t => match t with | some t => k (some (.n t v r)) | none => k none
      | _ + 1 => T.set f r (j / 2) x fun t => match t with | some t => k (some (.n l v t)) | none => k none

/-- the same two, by the type's own recursor: fewer steps -/
noncomputable def T.get' {α : Type} (t : T α) : Nat → Option α := T.rec (motive := fun _ => Nat → Option α) (fun _ => none) (fun _ v _ hl hr i => Nat.rec (motive := fun _ => Option α) v (fun j _ => Nat.rec (motive := fun _ => Option α) (hl (j / 2)) (fun _ _ => hr (j / 2)) (j % 2)) i) t
theorem T.get'_eq {α : Type} (t : T α) (i : Nat) : t.get' i = t.get i := by
  induction t generalizing i with
  | e => rfl
  | n l v r hl hr =>
    cases i with
    | zero => rfl
    | succ j =>
      show Nat.rec (motive := fun _ => Option α) (l.get' (j / 2)) (fun _ _ => r.get' (j / 2)) (j % 2) = _
      simp only [T.get]
      cases j % 2 with
      | zero => exact hl _
      | succ m => exact hr _
noncomputable def T.set' {α : Type} {R : Type} (f : Nat) : T α → Nat → Option α → (Option (T α) → R) → R :=
  Nat.rec (motive := fun _ => T α → Nat → Option α → (Option (T α) → R) → R) (fun _ _ _ k => k none)
    (fun _ ih t i x k => T.casesOn (motive := fun _ => R) t
      (Nat.rec (motive := fun _ => R) (k (some (.n .e x .e))) (fun j _ => Nat.rec (motive := fun _ => R)
        (ih .e (j / 2) x fun t => Option.casesOn (motive := fun _ => R) t (k none) fun t => k (some (.n t none .e)))
        (fun _ _ => ih .e (j / 2) x fun t => Option.casesOn (motive := fun _ => R) t (k none) fun t => k (some (.n .e none t))) (j % 2)) i)
      (fun l v r => Nat.rec (motive := fun _ => R) (k (some (.n l x r))) (fun j _ => Nat.rec (motive := fun _ => R)
        (ih l (j / 2) x fun t => Option.casesOn (motive := fun _ => R) t (k none) fun t => k (some (.n t v r)))
        (fun _ _ => ih r (j / 2) x fun t => Option.casesOn (motive := fun _ => R) t (k none) fun t => k (some (.n l v t))) (j % 2)) i)) f
theorem T.set'_eq {α R : Type} (f : Nat) (t : T α) (i : Nat) (x : Option α) (k : Option (T α) → R) : T.set' f t i x k = T.set f t i x k := by
  induction f generalizing t i k with
  | zero => rfl
  | succ f ih =>
    cases t with
    | e =>
      cases i with
      | zero => rfl
      | succ j =>
        show Nat.rec (motive := fun _ => R) (T.set' f .e (j / 2) x _) (fun _ _ => T.set' f .e (j / 2) x _) (j % 2) = _
        simp only [T.set]
        cases j % 2 with
        | zero => refine (ih _ _ _).trans ?_; congr 1; funext t; cases t <;> rfl
        | succ m => refine (ih _ _ _).trans ?_; congr 1; funext t; cases t <;> rfl
    | n l v r =>
      cases i with
      | zero => rfl
      | succ j =>
        show Nat.rec (motive := fun _ => R) (T.set' f l (j / 2) x _) (fun _ _ => T.set' f r (j / 2) x _) (j % 2) = _
        simp only [T.set]
        cases j % 2 with
        | zero => refine (ih _ _ _).trans ?_; congr 1; funext t; cases t <;> rfl
        | succ m => refine (ih _ _ _).trans ?_; congr 1; funext t; cases t <;> rfl

theorem T.set_id {α R : Type} (f : Nat) (t : T α) (i : Nat) (x : Option α) (k : Option (T α) → R) : T.set f t i x k = k (T.set f t i x id) := by
  induction f generalizing t i R k with
  | zero => rfl
  | succ f ih =>
    cases t with
    | e =>
      cases i with
      | zero => rfl
      | succ j =>
        simp only [T.set]
        split
        · rw [ih]; conv => rhs; arg 1; rw [ih]
          cases T.set f .e (j / 2) x id <;> rfl
        · rw [ih]; conv => rhs; arg 1; rw [ih]
          cases T.set f .e (j / 2) x id <;> rfl
    | n l v r =>
      cases i with
      | zero => rfl
      | succ j =>
        simp only [T.set]
        split
        · rw [ih]; conv => rhs; arg 1; rw [ih]
          cases T.set f l (j / 2) x id <;> rfl
        · rw [ih]; conv => rhs; arg 1; rw [ih]
          cases T.set f r (j / 2) x id <;> rfl
theorem T.get_set {α : Type} (f : Nat) (t t' : T α) (i : Nat) (x : Option α) (h : T.set f t i x id = some t') (j : Nat) : t'.get j = if j = i then x else t.get j := by
  induction f generalizing t t' i j with
  | zero => simp [T.set] at h
  | succ f ih =>
    cases t with
    | e =>
      cases i with
      | zero => simp only [T.set, id] at h; cases h; cases j <;> simp [T.get]; split <;> rfl
      | succ i =>
        simp only [T.set] at h
        split at h
        · rename_i h0
          rw [T.set_id] at h
          cases hs : T.set f .e (i / 2) x id with
          | none => rw [hs] at h; cases h
          | some u =>
            rw [hs] at h; cases h
            cases j with
            | zero => simp [T.get]
            | succ j =>
              simp only [T.get]
              split
              · rename_i h1; rw [ih _ _ _ hs]; simp only [T.get]; have e : (j / 2 = i / 2) = (j + 1 = i + 1) := propext (by omega); simp only [e]
              · rename_i h1; rw [if_neg (by omega)]; try simp [T.get]
        · rename_i m h0
          rw [T.set_id] at h
          cases hs : T.set f .e (i / 2) x id with
          | none => rw [hs] at h; cases h
          | some u =>
            rw [hs] at h; cases h
            cases j with
            | zero => simp [T.get]
            | succ j =>
              simp only [T.get]
              split
              · rename_i h1; rw [if_neg (by omega)]; try simp [T.get]
              · rename_i h1; rw [ih _ _ _ hs]; simp only [T.get]; have e : (j / 2 = i / 2) = (j + 1 = i + 1) := propext (by omega); simp only [e]
    | n l v r =>
      cases i with
      | zero => simp only [T.set, id] at h; cases h; cases j <;> simp [T.get]
      | succ i =>
        simp only [T.set] at h
        split at h
        · rename_i h0
          rw [T.set_id] at h
          cases hs : T.set f l (i / 2) x id with
          | none => rw [hs] at h; cases h
          | some u =>
            rw [hs] at h; cases h
            cases j with
            | zero => simp [T.get]
            | succ j =>
              simp only [T.get]
              split
              · rename_i h1; rw [ih _ _ _ hs]; have e : (j / 2 = i / 2) = (j + 1 = i + 1) := propext (by omega); simp only [e]
              · rename_i h1; rw [if_neg (by omega)]
        · rename_i m h0
          rw [T.set_id] at h
          cases hs : T.set f r (i / 2) x id with
          | none => rw [hs] at h; cases h
          | some u =>
            rw [hs] at h; cases h
            cases j with
            | zero => simp [T.get]
            | succ j =>
              simp only [T.get]
              split
              · rename_i h1; rw [if_neg (by omega)]
              · rename_i h1; rw [ih _ _ _ hs]; have e : (j / 2 = i / 2) = (j + 1 = i + 1) := propext (by omega); simp only [e]

inductive AO where
  | row (cs : List AV) (elem : TypeId) (opn : Bool)
  | loop (st : LoopState) (pend : Option Code) (tmps : List AV) (params : Array Tmp) (assign body : Code) (defers : Nat)
  | defr (taken : Bool)
  | map (key : TypeId) (es : List (AV × AV)) (bs : List Nat) (clk : Nat)
  | iter (m : Option Nat) (since : Nat) (seen : List Nat) (last : Nat)
  | siter (s : ByteArray) (pos : Nat)
instance : Inhabited AO := ⟨.defr false⟩

structure AW where
  t : T AO
  n : Nat
instance : Inhabited AW := ⟨⟨.e, 0⟩⟩

noncomputable def AW.new (σ : AW) (o : AO) : Option AW := match T.set' 40 σ.t σ.n (some o) id with | some t => fNat (σ.n + 1) fun n => some ⟨t, n⟩ | none => none
noncomputable def AW.put (σ : AW) (r : Nat) (o : Option AO) : Option AW := match T.set' 40 σ.t r o id with | some t => some ⟨t, σ.n⟩ | none => none

theorem AW.get_new {σ σ' : AW} {o : AO} (h : σ.new o = some σ') : σ'.n = σ.n + 1 ∧ ∀ j, σ'.t.get j = if j = σ.n then some o else σ.t.get j := by
  unfold AW.new at h
  rw [T.set'_eq] at h
  split at h
  · rename_i t ht; rw [fNat_eq] at h; cases h; exact ⟨rfl, T.get_set _ _ _ _ _ ht⟩
  · cases h
theorem AW.get_put {σ σ' : AW} {r : Nat} {o : Option AO} (h : σ.put r o = some σ') : σ'.n = σ.n ∧ ∀ j, σ'.t.get j = if j = r then o else σ.t.get j := by
  unfold AW.put at h
  rw [T.set'_eq] at h
  split at h
  · rename_i t ht; cases h; exact ⟨rfl, T.get_set _ _ _ _ _ ht⟩
  · cases h

/-! ### Values without addresses -/
noncomputable def ofV1 : Value → Option AV
  | .bool x => some (.b x)
  | .int k n => some (.i k n)
  | .string s => some (.s s)
  | .pointer none => some .pn
  | .slice none 0 0 => some .sn
  | .map none => some .mn
  | .nilFunc => some .fnil
  | .nilIface => some .inil
  | _ => none
noncomputable def ofVs : List Value → Option (List AV)
  | [] => some []
  | v :: l => match ofV1 v, ofVs l with | some a, some m => some (a :: m) | _, _ => none
noncomputable def ofV : Value → Option AV
  | .agg ⟨l⟩ => match ofVs l with | some m => some (.agg m) | none => none
  | .tuple ⟨l⟩ => match ofVs l with | some m => some (.tup m) | none => none
  | v => ofV1 v
noncomputable def toV1 : AV → Option Value
  | .b x => some (.bool x)
  | .i k n => some (.int k n)
  | .s s => some (.string s)
  | .pn => some (.pointer none)
  | .sn => some (.slice none 0 0)
  | .mn => some (.map none)
  | .fnil => some .nilFunc
  | .inil => some .nilIface
  | _ => none
noncomputable def toVs : List AV → Option (List Value)
  | [] => some []
  | v :: l => match toV1 v, toVs l with | some a, some m => some (a :: m) | _, _ => none
noncomputable def toV : AV → Option Value
  | .agg l => match toVs l with | some m => some (.agg ⟨m⟩) | none => none
  | .tup l => match toVs l with | some m => some (.tuple ⟨m⟩) | none => none
  | v => toV1 v

/-- a run that asks nothing of memory -/
noncomputable def quiet (P : Program) {α : Type} : Sem α → Option α
  | .pure a => some a
  | .program k => quiet P (k P)
  | .mark _ k => quiet P k
  | _ => none

noncomputable def ev (t : List AV) : Operand → AV
  | .tmp n => nthA t n
  | .const v => (ofV v).getD (.tup [])
  | .global g => .pg g 0
  | .func f => .fn f [] []
noncomputable def evOk : Operand → Bool
  | .const v => (ofV v).isSome
  | _ => true
noncomputable def evs (t : List AV) (l : List Operand) : List AV := l.map (ev t)
noncomputable def evOks (l : List Operand) : Bool := l.all evOk

noncomputable def cellsOf : AV → List AV
  | .agg l => l
  | v => [v]

noncomputable def ibin (op : BinOp) (k : IntKind) (a b : Int) : Option AV :=
  match op with
  | .add => some (.i k (k.wrap (a + b)))
  | .sub => some (.i k (k.wrap (a - b)))
  | .mul => some (.i k (k.wrap (a * b)))
  | .eql => some (.b (a == b))
  | .neq => some (.b (a != b))
  | .lss => some (.b (decide (a < b)))
  | .leq => some (.b (decide (a ≤ b)))
  | .gtr => some (.b (decide (a > b)))
  | .geq => some (.b (decide (a ≥ b)))
  | _ => none

inductive AN where
  | v (x : AV)
  | skip
  | enter (f : FuncId) (args : List AV)
  | round (l : Nat) (args : List AV)
instance : Inhabited AN := ⟨.skip⟩

noncomputable def getRange (l : List AV) (o n : Nat) : Option (List AV) := let m := (l.drop o).take n; if m.length = n then some m else none
noncomputable def setRange (l : List AV) (o : Nat) (ys : List AV) : Option (List AV) := if o + ys.length ≤ l.length then some (l.take o ++ (ys ++ l.drop (o + ys.length))) else none

noncomputable def isAggP (P : Program) (t : TypeId) : Option Bool := match P.underlying t with | some (.struct _) => some true | some (.array _ _) => some true | some _ => some false | none => none
noncomputable def sizeP (P : Program) (t : TypeId) : Option Nat := match P.info? t with | some i => some i.size | none => none
noncomputable def zeroP (P : Program) (t : TypeId) : Option AV := match P.info? t with
  | some i => (match i.zero with | some z => ofV z | none => none)
  | none => none

/-- the whole of a variable, out of a row's cells -/
noncomputable def loadP (P : Program) (t : TypeId) (cs : List AV) (o : Nat) : Option AV :=
  match isAggP P t, sizeP P t with
  | some true, some n => (match getRange cs o n with | some m => some (.agg m) | none => none)
  | some false, _ => cs[o]?
  | _, _ => none

/-- the cells that a load reads -/
noncomputable def readP (P : Program) (t : TypeId) (cs : List AV) (o : Nat) : Option (List AV) :=
  match isAggP P t, sizeP P t with
  | some true, some n => getRange cs o n
  | some false, _ => getRange cs o 1
  | _, _ => none

noncomputable def fillP (place : Nat → Option (Nat × Nat)) (cs : List AV) : List (Nat × AV) → Option (List AV)
  | [] => some cs
  | (i, v) :: rest => match place i with
    | none => none
    | some (off, size) => if (cellsOf v).length = size then (match setRange cs off (cellsOf v) with | some cs => fillP place cs rest | none => none) else none

noncomputable def bound (t : List AV) (x : Option Operand) (d : Nat) : Option Nat := match x with
  | none => some d
  | some x => (match ev t x with | .i _ n => if 0 ≤ n then some n.toNat else none | _ => none)

noncomputable def repl (n : Nat) (l : List AV) : List AV := match n with | 0 => [] | n + 1 => l ++ repl n l

noncomputable def rowOf (σ : AW) (r : Nat) : Option (List AV × TypeId × Bool) := match σ.t.get' r with | some (.row cs e op) => some (cs, e, op) | _ => none

/-- the cells of the first n elements that a slice, or a string, has -/
noncomputable def firsts (σ : AW) (size n : Nat) : AV → Option (List AV)
  | .sn => if n = 0 then some [] else none
  | .s x => if size = 1 ∧ n = x.size then some (x.data.toList.map fun c => .i .u8 (c.toNat : Int)) else none
  | .sl r o _ _ => (match rowOf σ r with | some (cs, _, _) => getRange cs o (n * size) | none => none)
  | .se _ _ _ _ => if n = 0 then some [] else none
  | _ => none
noncomputable def lenP : AV → Option Nat
  | .sn => some 0
  | .se _ _ _ _ => some 0
  | .s x => some x.size
  | .sl _ _ n _ => some n
  | _ => none

noncomputable def bytesOf : List AV → Option (List UInt8)
  | [] => some []
  | .i .u8 n :: l => (match bytesOf l with | some m => some (UInt8.ofNat n.toNat :: m) | none => none)
  | _ => none

/-- a new row, and a value that hangs on its number -/
noncomputable def one : AV → Bool | .agg _ | .tup _ => false | _ => true
noncomputable def made (σ : AW) (cs : List AV) (e : TypeId) (op : Bool) (v : Nat → AV) : Option (AN × AW) :=
  if !cs.all one then none else
  match fVs cs fun cs => σ.new (.row cs e op) with | some σ' => some (.v (v σ.n), σ') | none => none
noncomputable def puts (σ : AW) (r : Nat) (cs : List AV) (e : TypeId) (op : Bool) (n : AN) : Option (AN × AW) :=
  match fVs cs fun cs => σ.put r (some (.row cs e op)) with | some σ' => some (n, σ') | none => none

noncomputable def appendP (P : Program) (elem : TypeId) (s x : AV) (σ : AW) : Option (AN × AW) :=
  match P.info? elem, lenP s, lenP x with
  | some info, some sLen, some n =>
    if info.size = 0 ∨ (sLen + n) * info.bytes > 140737488355328 ∨ sLen + n > 9000000000000000000 then none else
    match zeroP P elem with
    | none => none
    | some z =>
    if (cellsOf z).length ≠ info.size then none else
    match firsts σ info.size n x with
    | none => none
    | some news =>
      match s with
      | .sn => if n = 0 then some (.v .sn, σ) else made σ news elem true fun r => .sl r 0 n (.o 0)
      | .sl r o _ c => (match rowOf σ r with
        | some (cs, e, op) =>
          if e ≠ elem then none else
          (match c, op with
          | .k cap, _ => if sLen + n ≤ cap then (match setRange cs (o + sLen * info.size) news with
              | some cs => puts σ r cs e op (.v (.sl r o (sLen + n) c))
              | none => none)
            else (match getRange cs o (sLen * info.size) with | some old => made σ (old ++ news) elem true fun r => .sl r 0 (sLen + n) (.o 0) | none => none)
          | .o d, true => if o = d * info.size ∧ o + (sLen + n) * info.size ≤ cs.length then
              (match setRange cs (o + sLen * info.size) news with
              | some cs => puts σ r cs e op (.v (.sl r o (sLen + n) c))
              | none => none)
            else if d ≠ 0 ∨ o ≠ 0 then none else
            (match getRange cs 0 (sLen * info.size) with
            | some old => (match σ.put r none with | some σ' => made σ' (old ++ news) elem true fun r => .sl r 0 (sLen + n) (.o 0) | none => none)
            | none => none)
          | _, _ => none)
        | none => none)
      | _ => none
  | _, _, _ => none

/-- keys of maps -/
noncomputable def keyP (P : Program) (kt : TypeId) (k : AV) : Bool := match P.underlying kt, k with
  | some (.int j), .i k _ => decide (j = k)
  | some .string, .s _ => true
  | some .bool, .b _ => true
  | _, _ => false
noncomputable def sameK : AV → AV → Bool
  | .i _ a, .i _ b => decide (a = b)
  | .s x, .s y => decide (x.data.toList = y.data.toList)
  | .b x, .b y => x == y
  | _, _ => false
noncomputable def findM (k : AV) : List (AV × AV) → Option AV
  | [] => none
  | e :: l => if sameK k e.1 then some e.2 else findM k l
noncomputable def putM (k v : AV) : List (AV × AV) → List (AV × AV)
  | [] => [(k, v)]
  | e :: l => if sameK k e.1 then (k, v) :: l else e :: putM k v l
noncomputable def dropM (k : AV) : List (AV × AV) → List (AV × AV)
  | [] => []
  | e :: l => if sameK k e.1 then l else e :: dropM k l
noncomputable def dropB (k : AV) : List (AV × AV) → List Nat → List Nat
  | e :: l, b :: bs => if sameK k e.1 then bs else b :: dropB k l bs
  | _, bs => bs
noncomputable def mapOf (σ : AW) (r : Nat) : Option (TypeId × List (AV × AV) × List Nat × Nat) := match σ.t.get' r with | some (.map kt es bs clk) => some (kt, es, bs, clk) | _ => none
noncomputable def makeM (P : Program) (ty : TypeId) (σ : AW) : Option (AN × AW) := match P.underlying ty with
  | some (.map kt _) => (match σ.new (.map kt [] [] 0) with | some σ' => some (.v (.mp σ.n), σ') | none => none)
  | _ => none
noncomputable def updM (P : Program) (ty : TypeId) (m k v : AV) (σ : AW) : Option (AN × AW) := match P.underlying ty, m with
  | some (.map kt _), .mp r => (match mapOf σ r with
    | some (kt', es, bs, clk) => if kt' = kt ∧ keyP P kt k = true then
        (match findM k es with
        | some _ => (match fLs (putM k v es) fun es => σ.put r (some (.map kt es bs clk)) with | some σ' => some (.skip, σ') | none => none)
        | none => (match fLs (putM k v es) fun es => fLs (bs ++ [clk]) fun bs => fNat (clk + 1) fun clk => σ.put r (some (.map kt es bs clk)) with | some σ' => some (.skip, σ') | none => none)) else none
    | none => none)
  | _, _ => none
noncomputable def delM (P : Program) (ty : TypeId) (m k : AV) (σ : AW) : Option (AN × AW) := match P.underlying ty, m with
  | some (.map kt _), .mp r => (match mapOf σ r with
    | some (kt', es, bs, clk) => if kt' = kt ∧ keyP P kt k = true then
        (match fLs (dropM k es) fun es' => fLs (dropB k es bs) fun bs => σ.put r (some (.map kt es' bs clk)) with | some σ' => some (.v (.tup []), σ') | none => none) else none
    | none => none)
  | _, _ => none
noncomputable def lookM (P : Program) (ty : TypeId) (m k : AV) (ok : Bool) (σ : AW) : Option (AN × AW) := match P.underlying ty with
  | some (.map kt e) => if keyP P kt k = true then
      (match m, zeroP P e with
      | .mn, some z => some (.v (if ok then .tup [z, .b false] else z), σ)
      | .mp r, some z => (match mapOf σ r with
        | some (kt', es, _, _) => if kt' = kt then (match findM k es with
            | some v => some (.v (if ok then .tup [v, .b true] else v), σ)
            | none => some (.v (if ok then .tup [z, .b false] else z), σ)) else none
        | none => none)
      | _, _ => none) else none
  | _ => none

/-- what a plain operation tells: no memory is asked -/
noncomputable def plainOp (P : Program) (o : Oper) (t : List AV) : Option AV :=
  if o.op.operands.toList.all (fun x => evOk x && (toV (ev t x)).isSome) then
    match quiet P (execOp (fun x => (toV (ev t x)).getD undef) o) with
    | some (.value v) => ofV v
    | _ => none
  else none

/-- one of two is nil, the other isn't -/
noncomputable def nilNe : Option TypeDesc → AV → AV → Bool
  | some (.pointer _), .p _ _, .pn | some (.pointer _), .pn, .p _ _ | some (.pointer _), .pg _ _, .pn | some (.pointer _), .pn, .pg _ _ => true
  | some (.slice _), .sl _ _ _ _, .sn | some (.slice _), .sn, .sl _ _ _ _ => true
  | some (.func _ _ _), .fn _ _ _, .fnil | some (.func _ _ _), .fnil, .fn _ _ _ | some (.func _ _ _), .yl _, .fnil | some (.func _ _ _), .fnil, .yl _ => true
  | some (.map _ _), .mp _, .mn | some (.map _ _), .mn, .mp _ => true
  | some (.interface _), .ifc _ _, .inil | some (.interface _), .inil, .ifc _ _ => true
  | _, _, _ => false

/-- the same pointer twice -/
noncomputable def ptrEq (P : Program) (d : Option TypeDesc) (a b : AV) : Bool := match d, a, b with
  | some (.pointer e), .p r o, .p s u => (sizeP P e).isSome && (decide (r = s) && decide (o = u))
  | _, _, _ => false

noncomputable def readG (G : List (Nat × List AV)) (g : Nat) : Option (List AV) := match G with
  | [] => none
  | (h, cs) :: l => if g = h then some cs else readG l g

noncomputable def placesP (P : Program) (fs : List Field) : Option (List (Nat × Nat)) := fs.mapM (fun f => (P.info? f.type).map fun i => (f.offset, i.size))
noncomputable def buildOp (P : Program) (ty : TypeId) (parts : List (Nat × AV)) : Option AV :=
  match zeroP P ty with
  | some z => (match P.underlying ty with
    | some (.struct fs) => (match placesP P fs.toList with
      | some pl => (match fillP (fun i => pl[i]?) (cellsOf z) parts with
        | some cs => some (.agg cs)
        | none => none)
      | none => none)
    | some (.array _ e) => (match sizeP P e with
      | some n => (match fillP (fun i => some (i * n, n)) (cellsOf z) parts with
        | some cs => some (.agg cs)
        | none => none)
      | none => none)
    | _ => none)
  | none => none

noncomputable def limC (c : Cp) (len : Nat) : Nat := match c with | .k n => n | .o _ => len
noncomputable def sliceOp (P : Program) (ty : TypeId) (x : AV) (t : List AV) (lo hi mx : Option Operand) : Option AV :=
  match x, P.underlying ty with
  | .sl r o len c, some (.slice e) => (match sizeP P e, bound t lo 0, bound t hi len with
    | some size, some l, some h =>
      if h ≤ limC c len ∧ l ≤ h then
        (match mx with
        | none => if l = 0 then some (.sl r o h c) else (match c with
          | .k n => some (.sl r (if n = l then o else o + l * size) (h - l) (.k (n - l)))
          | .o d => if l < len then some (.sl r (o + l * size) (h - l) (.o (d + l))) else some (.se r o (o + l * size) (d + l)))
        | some m => (match ev t m, hi, c with
          | .i _ m, some _, .k n => if 0 ≤ m ∧ (h : Int) ≤ m ∧ m ≤ n then some (.sl r (if m.toNat = l then o else o + l * size) (h - l) (.k (m.toNat - l))) else none
          | .i _ m, some _, .o _ => if 0 ≤ m ∧ (h : Int) ≤ m ∧ m ≤ len then some (.sl r (if m.toNat = l then o else o + l * size) (h - l) (.k (m.toNat - l))) else none
          | _, _, _ => none))
      else none
    | _, _, _ => none)
  | .p r o, some (.pointer a) => (match P.underlying a with
    | some (.array n e) => (match sizeP P e, bound t lo 0, bound t hi n with
      | some size, some l, some h => if h ≤ n ∧ l ≤ h ∧ mx.isNone then some (.sl r (if n = l then o else o + l * size) (h - l) (.k (n - l))) else none
      | _, _, _ => none)
    | _ => none)
  | .p r o, some (.array n e) => (match sizeP P e, bound t lo 0, bound t hi n with
    | some size, some l, some h => if h ≤ n ∧ l ≤ h ∧ mx.isNone then some (.sl r (if n = l then o else o + l * size) (h - l) (.k (n - l))) else none
    | _, _, _ => none)
  | _, _ => none

noncomputable def idxAddr (P : Program) (ty : TypeId) (x i : AV) : Option AV :=
  match P.underlying ty, x, i with
  | some (.slice e), .sl r o len _, .i _ n => if 0 ≤ n ∧ n < len then (match sizeP P e with | some k => some (.p r (o + n.toNat * k)) | none => none) else none
  | some (.array len e), .p r o, .i _ n => if 0 ≤ n ∧ n < len then (match sizeP P e with | some k => some (.p r (o + n.toNat * k)) | none => none) else none
  | some (.array len e), .pg g o, .i _ n => if 0 ≤ n ∧ n < len then (match sizeP P e with | some k => some (.pg g (o + n.toNat * k)) | none => none) else none
  | _, _, _ => none

noncomputable def fldAddr (P : Program) (ty : TypeId) (x : AV) (f : Nat) : Option AV :=
  match P.underlying ty, x with
  | some (.struct fs), .p r o => (match fs[f]? with
    | some fd => (match sizeP P fd.type with | some (_ + 1) => some (.p r (o + fd.offset)) | _ => none)
    | none => none)
  | some (.struct fs), .pg g o => (match fs[f]? with
    | some fd => (match sizeP P fd.type with | some (_ + 1) => some (.pg g (o + fd.offset)) | _ => none)
    | none => none)
  | _, _ => none

/-- ranges over texts and maps -/
noncomputable def iterOf (σ : AW) (r : Nat) : Option (Option Nat × Nat × List Nat × Nat) := match σ.t.get' r with | some (.iter m since seen last) => some (m, since, seen, last) | _ => none
noncomputable def siterOf (σ : AW) (r : Nat) : Option (ByteArray × Nat) := match σ.t.get' r with | some (.siter s pos) => some (s, pos) | _ => none
noncomputable def rangeM (P : Program) (ty : TypeId) (x : AV) (σ : AW) : Option (AN × AW) := match P.underlying ty, x with
  | some (.map _ _), .mn => (match σ.new (.iter none 0 [] 0) with | some σ' => some (.v (.p σ.n 0), σ') | none => none)
  | some (.map _ _), .mp r => (match mapOf σ r with
    | some (_, _, _, clk) => (match σ.new (.iter (some r) clk [] clk) with | some σ' => some (.v (.p σ.n 0), σ') | none => none)
    | none => none)
  | some .string, .s x => (match σ.new (.siter x 0) with | some σ' => some (.v (.p σ.n 0), σ') | none => none)
  | _, _ => none
noncomputable def nextS (x : AV) (isS : Bool) (σ : AW) : Option (AN × AW) := match x, isS with
  | .p r 0, true => (match siterOf σ r with
    | some (s, pos) => if pos < s.size then
        (match fNat (pos + (Utf8.decode s pos).2) fun q => σ.put r (some (.siter s q)) with | some σ' => some (.v (.tup [.b true, .i .i64 pos, .i .i32 (Utf8.decode s pos).1]), σ') | none => none)
      else some (.v (.tup [.b false]), σ)
    | none => none)
  | .p r 0, false => (match iterOf σ r with
    | some (none, _, _, _) => some (.v (.tup [.b false]), σ)
    | _ => none)
  | _, _ => none
noncomputable def findB (b : Nat) : List (AV × AV) → List Nat → Option (AV × AV)
  | e :: l, c :: bs => if c = b then some e else findB b l bs
  | _, _ => none
noncomputable def lastB : List Nat → Option Nat
  | [] => none
  | b :: l => match lastB l with | some c => some c | none => some b
noncomputable def entryM (x : AV) (σ : AW) : Option (AN × AW) := match x with
  | .p r 0 => (match iterOf σ r with
    | some (some m, _, seen, last) => (match mapOf σ m, lastB seen with
      | some (_, es, bs, clk), some b => if clk = last then (match findB b es bs with | some e => some (.v (.tup [e.1, e.2]), σ) | none => none) else none
      | _, _ => none)
    | _ => none)
  | _ => none
noncomputable def hasN (b : Nat) : List Nat → Bool
  | [] => false
  | c :: l => if b = c then true else hasN b l
noncomputable def underN (n : Nat) : List Nat → Bool
  | [] => true
  | b :: l => if b < n then underN n l else false
/-- which entries are left -/
noncomputable def leftM (seen : List Nat) : List (AV × AV) → List Nat → List ((AV × AV) × Nat)
  | e :: l, b :: bs => if hasN b seen then leftM seen l bs else (e, b) :: leftM seen l bs
  | _, _ => []
/-- what the next of a map can be -/
noncomputable def nextM (x : AV) (isS : Bool) (σ : AW) : Option (Nat × Nat × Nat × List Nat × Nat × List ((AV × AV) × Nat)) := match x, isS with
  | .p r 0, false => (match iterOf σ r with
    | some (some m, since, seen, last) => (match mapOf σ m with
      | some (_, es, bs, clk) => if underN since bs = true ∧ since ≤ last then some (r, m, since, seen, clk, leftM seen es bs) else none
      | none => none)
    | _ => none)
  | _, _ => none

section
variable (P : Program) (G : List (Nat × List AV))

noncomputable def loadOp (ty : TypeId) (a : AV) (σ : AW) : Option AV := match a with
  | .p r o => (match rowOf σ r with | some (cs, _, _) => loadP P ty cs o | none => none)
  | .pg g o => (match readG G g with | some cs => loadP P ty cs o | none => none)
  | _ => none

noncomputable def orPlain (o : Oper) (t : List AV) : Option AV → Option AV
  | some v => some v
  | none => plainOp P o t

/-- operations that leave memory as it is, whatever it is -/
noncomputable def pureOp (o : Oper) (t : List AV) : Option AV :=
  if !evOks o.op.operands.toList then none else
  match o.op with
  | .move x | .assign x => some (ev t x)
  | .pick c a b => (match ev t c with | .b true => some (ev t a) | .b false => some (ev t b) | _ => none)
  | .nilCheck x => (match ev t x with
    | .p r o => some (.p r o)
    | .pg g o => some (.pg g o)
    | .fn f a b => some (.fn f a b)
    | .yl r => some (.yl r)
    | _ => none)
  | .binOp op ty x y _ => orPlain P o t (match ev t x, ev t y with
    | .i k a, .i k' b => (if k = k' then ibin op k a b else none)
    | a, b => (match nilNe (P.underlying ty) a b, ptrEq P (P.underlying ty) a b, op with
      | true, _, .eql => some (.b false)
      | true, _, .neq => some (.b true)
      | false, true, .eql => some (.b true)
      | false, true, .neq => some (.b false)
      | _, _, _ => none))
  | .build ty parts => buildOp P ty (parts.toList.map fun x => (x.1, ev t x.2))
  | .makeFunc (.func g) first captured => some (.fn g (evs t first.toList) (evs t captured.toList))
  | .makeInterface ty x => (match P.underlying ty with | some (.interface _) => none | some _ => some (.ifc ty (ev t x)) | none => none)
  | .fieldAddr ty x f => fldAddr P ty (ev t x) f
  | .field ty x f => (match P.underlying ty, ev t x with
    | some (.struct fs), .agg l => (match fs[f]? with | some fd => loadP P fd.type l fd.offset | none => none)
    | _, _ => none)
  | .indexAddr ty x i => idxAddr P ty (ev t x) (ev t i)
  | .index ty x i => orPlain P o t (match P.underlying ty, ev t x, ev t i with
    | some (.array len e), .agg l, .i _ n => if 0 ≤ n ∧ n < len then (match sizeP P e with | some k => loadP P e l (n.toNat * k) | none => none) else none
    | _, _, _ => none)
  | .extract x i => (match ev t x with | .tup l => l[i]? | _ => none)
  | .slice ty x lo hi mx => orPlain P o t (sliceOp P ty (ev t x) t lo hi mx)
  | .call ⟨.builtin .len, ⟨[x]⟩, ⟨[ty]⟩⟩ => orPlain P o t (match ev t x, P.underlying ty with
    | .sl _ _ n _, some (.slice _) => some (.i .i64 n)
    | .se _ _ _ _, some (.slice _) => some (.i .i64 0)
    | _, _ => none)
  | .call ⟨.builtin .cap, ⟨[x]⟩, ⟨[ty]⟩⟩ => (match ev t x, P.underlying ty with
    | .sl _ _ _ (.k n), some (.slice _) => some (.i .i64 n)
    | _, _ => none)
  | .call ⟨.builtin .min, _, _⟩ => plainOp P o t
  | .call ⟨.builtin .max, _, _⟩ => plainOp P o t
  | .unOp .. => plainOp P o t
  | .convert .. => plainOp P o t
  | _ => none

noncomputable def stillOp (o : Oper) (t : List AV) (σ : AW) : Option AV := match o.op with
  | .load ty a => if evOk a then loadOp P G ty (ev t a) σ else none
  | _ => pureOp P o t

/-- operations that do more -/
noncomputable def moreOp (o : Oper) (t : List AV) (σ : AW) : Option (AN × AW) :=
  if !evOks o.op.operands.toList then none else
  match o.op with
  | .alloc ty => (match zeroP P ty with | some z => made σ (cellsOf z) ty false fun r => .p r 0 | none => none)
  | .box ty x => made σ (cellsOf (ev t x)) ty false fun r => .p r 0
  | .buildSlice ty len parts => (match P.underlying ty with
    | some (.slice e) => (match sizeP P e, zeroP P e with
      | some size, some z => if len * size > 16777216 ∨ (cellsOf z).length ≠ size ∨ size = 0 ∨ (len = 0 ∧ parts.toList.length ≠ 0) then none else
        (match fillP (fun i => some (i * size, size)) (repl len (cellsOf z)) (parts.toList.map fun x => (x.1, ev t x.2)) with
        | some cs => made σ cs e false fun r => .sl r 0 len (.k len)
        | none => none)
      | _, _ => none)
    | _ => none)
  | .store ty a x => (match ev t a, sizeP P ty with
    | .p r o, some n => (match rowOf σ r with
      | some (cs, e, op) => if (cellsOf (ev t x)).length = n ∧ (cellsOf (ev t x)).all one = true then (match setRange cs o (cellsOf (ev t x)) with
          | some cs => puts σ r cs e op .skip
          | none => none) else none
      | none => none)
    | _, _ => none)
  | .makeSlice ty ln cp => (match P.underlying ty, ev t ln, ev t cp with
    | some (.slice e), .i .i64 l, .i .i64 c => (match P.info? e, zeroP P e with
      | some info, some z => if 0 ≤ l ∧ l ≤ c ∧ c ≤ 1000000000 ∧ (info.bytes : Int) * c ≤ 140737488355328 ∧ (cellsOf z).length = info.size ∧ info.size ≠ 0 then
          made σ (repl c.toNat (cellsOf z)) e false fun r => .sl r 0 l.toNat (.k c.toNat)
        else none
      | _, _ => none)
    | _, _, _ => none)
  | .call ⟨.builtin .append, ⟨[s, x]⟩, ⟨[ts, tx]⟩⟩ => (match P.underlying ts, P.underlying tx with
    | some (.slice e), some (.slice _) => appendP P e (ev t s) (ev t x) σ
    | some (.slice e), some .string => appendP P e (ev t s) (ev t x) σ
    | _, _ => none)
  | .call ⟨.builtin .copy, ⟨[d, x]⟩, ⟨[ts, tx]⟩⟩ => (match P.underlying ts, ev t d with
    | some (.slice e), .sl r o dl _ => (match sizeP P e, lenP (ev t x), rowOf σ r with
      | some size, some xl, some (cs, el, op) => (match firsts σ size (Nat.min xl dl) (ev t x) with
        | some ys => (match setRange cs o ys with
          | some cs => puts σ r cs el op (.v (.i .i64 (Nat.min xl dl : Nat)))
          | none => none)
        | none => none)
      | _, _, _ => none)
    | _, _ => none)
  | .makeMap ty none => makeM P ty σ
  | .makeMap ty (some h) => (match ev t h with | .i _ _ => makeM P ty σ | _ => none)
  | .mapUpdate ty m k x => updM P ty (ev t m) (ev t k) (ev t x) σ
  | .insert ty m k x => updM P ty (ev t m) (ev t k) (ev t x) σ
  | .lookup ty m k ok => lookM P ty (ev t m) (ev t k) ok σ
  | .range ty x => rangeM P ty (ev t x) σ
  | .next x isS => nextS (ev t x) isS σ
  | .entry x => entryM (ev t x) σ
  | .slice ty x lo hi none => (match ev t x, P.underlying ty with
    | .sl r o len (.o d), some (.slice e) => (match rowOf σ r, sizeP P e, bound t lo 0, bound t hi len with
      | some (cs, e', true), some size, some l, some h =>
        if e' = e ∧ o = d * size ∧ size ≠ 0 ∧ o + h * size ≤ cs.length ∧ l < h then some (.v (.sl r (o + l * size) (h - l) (.o (d + l))), σ) else none
      | _, _, _, _ => none)
    | _, _ => none)
  | .call ⟨.builtin .clear, ⟨[x]⟩, ⟨[ty]⟩⟩ => (match P.underlying ty, ev t x with
    | some (.slice _), .sn => some (.v (.tup []), σ)
    | some (.slice _), .se _ _ _ _ => some (.v (.tup []), σ)
    | some (.slice e), .sl r o n _ => if n = 0 then some (.v (.tup []), σ) else (match zeroP P e, rowOf σ r with
      | some z, some (cs, el, op) => if (cellsOf z).all one then (match setRange cs o (repl n (cellsOf z)) with
        | some cs => puts σ r cs el op (.v (.tup []))
        | none => none) else none
      | _, _ => none)
    | _, _ => none)
  | .call ⟨.builtin .len, ⟨[x]⟩, ⟨[ty]⟩⟩ => (match P.underlying ty, ev t x with
    | some (.map _ _), .mp r => (match mapOf σ r with | some (_, es, _, _) => some (.v (.i .i64 (es.length : Nat)), σ) | none => none)
    | _, _ => none)
  | .call ⟨.builtin .delete, ⟨[m, k]⟩, ⟨ty :: _⟩⟩ => delM P ty (ev t m) (ev t k) σ
  | .call ⟨.value f, args, _⟩ => (match ev t f with
    | .fn g first captured => some (.enter g (first ++ evs t args.toList ++ captured), σ)
    | .yl l => some (.round l (evs t args.toList), σ)
    | _ => none)
  | .convert s d x => (match ev t x, P.underlying s, P.underlying d with
    | .sl r o len c, some (.slice e), some .string => (match P.underlying e, rowOf σ r with
      | some (.int .u8), some (cs, _, _) => (match getRange cs o len with
        | some l => (match bytesOf l with | some m => some (.v (.s ⟨⟨m⟩⟩), σ) | none => none)
        | none => none)
      | _, _ => none)
    | .se _ _ _ _, some (.slice e), some .string => (match P.underlying e with | some (.int .u8) => some (.v (.s ⟨⟨[]⟩⟩), σ) | _ => none)
    | .sl r o len (.k cap), some (.slice e), some (.slice e') => (match P.underlying e', rowOf σ r with
      | some (.int .u8), some (cs, el, op) => if s = d ∧ !op then some (.v (.sl r o len (.k cap)), σ) else none
      | _, _ => none)
    | _, _, _ => none)
  | _ => none
end
end Go.Proofs.YtdennekkbdlhdaaDoor.Ev
/-
  The run itself, with fuel.
-/
namespace Go.Proofs.YtdennekkbdlhdaaDoor.Ev
set_option linter.unusedVariables false

noncomputable def stillKind (P : Program) (o : Oper) : Bool := match o.op with
  | .move _ | .assign _ | .pick .. | .load .. | .nilCheck _ | .binOp .. | .build .. | .makeFunc .. | .makeInterface .. | .fieldAddr .. | .field .. | .indexAddr .. | .index .. | .extract .. | .slice .. | .unOp .. => true
  | .convert _ d _ => (match P.underlying d with | some (.int _) => true | _ => false)
  | .call ⟨.builtin .len, _, _⟩ | .call ⟨.builtin .cap, _, _⟩ | .call ⟨.builtin .min, _, _⟩ | .call ⟨.builtin .max, _, _⟩ => true
  | _ => false

/-- those that stand behind operation i in every order -/
noncomputable def behind (ops : List Oper) (i j : Nat) (acc : List Nat) : List Nat := match ops with
  | [] => acc
  | o :: l => behind l i (j + 1) (if o.after.toList.any (fun e => Region.binds .any e && (e.on == i || acc.contains e.on)) then j :: acc else acc)
noncomputable def behindOk (ops : Array Oper) (listed : Array Bool) (i : Nat) (bh : List Nat) : Bool := bh.all fun j => !listed.getD j true && (match ops[j]? with
  | some o => o.after.toList.any (fun e => Region.binds .any e && (e.on == i || bh.contains e.on))
  | none => false)
noncomputable def behindL (P : Program) (ops : Array Oper) (listed : Array Bool) (i : Nat) : Option (List Nat) :=
  match ops[i]? with
  | some o => (match o.op with
    | .load .. => (match fLs (behind ops.toList i 0 []) some with
      | some bh => if behindOk ops listed i bh then fLs (bh.filter fun j => match ops[j]? with | some o => !stillKind P o | none => false) some else none
      | none => none)
    | _ => some [])
  | none => none

/-- an operation that makes a variable, and hangs on none -/
noncomputable def isFloat (P : Program) (ops : Array Oper) (i : Nat) : Bool := match ops[i]? with
  | some o => (match o.op with | .alloc ty => (zeroP P ty).isSome | _ => false) && o.guard.isNone && o.dst.isSome && o.after.toList.all fun e => !Region.binds .any e
  | none => false
noncomputable def apartB (ops : Array Oper) (i j : Nat) : Bool := match ops[i]?, ops[j]? with | some a, some b => a.apart ops b | _, _ => false
noncomputable def floatsOf (P : Program) (ops : Array Oper) (listed : Array Bool) : List Nat := (List.range ops.size).filter fun j => !listed.getD j true && isFloat P ops j

noncomputable def planGo (P : Program) (ops : Array Oper) : Nat → Array Bool → Option (List (Nat × Option (List Nat)))
  | 0, listed => if (Region.ready .any ops listed).isEmpty then some [] else none
  | f + 1, listed => match Region.ready .any ops listed with
    | [] => some []
    | r :: rs => match (r :: rs).find? (fun i => (match ops[i]? with | some o => stillKind P o | none => false) && Region.free .any ops listed i) with
      | some i => (match behindL P ops listed i, planGo P ops f (listed.setIfInBounds i true) with | some bh, some l => some ((i, some bh) :: l) | _, _ => none)
      | none => match fLs (floatsOf P ops listed) some with
        | some [] => if rs.isEmpty then (match planGo P ops f (listed.setIfInBounds r true) with | some l => some ((r, none) :: l) | none => none) else none
        | some [e] => (match Region.ready .any ops (listed.setIfInBounds e true) with
          | [i] => if (decide (i = e) || !(r :: rs).contains i || isFloat P ops i || !apartB ops e i) then
              (if rs.isEmpty && decide (r = e) then (match planGo P ops f (listed.setIfInBounds e true) with | some l => some ((e, none) :: l) | none => none) else none)
            else (match planGo P ops f (listed.setIfInBounds i true) with | some l => some ((i, none) :: l) | none => none)
          | _ => if rs.isEmpty && decide (r = e) then (match planGo P ops f (listed.setIfInBounds e true) with | some l => some ((e, none) :: l) | none => none) else none)
        | _ => none
noncomputable def noDefer (ops : Array Oper) : Bool := ops.all fun o => match o.op with | .defer _ => false | _ => true
noncomputable def plan (P : Program) (ops : Array Oper) : Option (List (Nat × Option (List Nat))) := if Region.noSelect ops && noDefer ops && P.follows .mixedOrders then planGo P ops ops.size (Array.replicate ops.size false) else none

noncomputable def yieldedA (ops : Array Oper) (t : List AV) (j : Nat) : Option Bool :=
  match ops[j]? with
  | none => none
  | some o => match o.dst with
    | none => none
    | some d => match nthA t d with
      | .b b => some b
      | _ => none

noncomputable def putT (t : List AV) (dst : Option Tmp) (v : AV) : Option (List AV) := match dst with
  | some d => fV v fun v => putK t d v some
  | none => some t

noncomputable def sameV : AV → AV → Bool
  | .b x, .b y => x == y
  | .i k n, .i l m => decide (k = l) && decide (n = m)
  | .s x, .s y => decide (x.data.toList = y.data.toList)
  | .pn, .pn => true
  | .p r o, .p s u => decide (r = s) && decide (o = u)
  | .pg g o, .pg h u => decide (g = h) && decide (o = u)
  | .sn, .sn => true
  | .sl r o n (.k c), .sl s u m (.k d) => decide (r = s) && decide (o = u) && decide (n = m) && decide (c = d)
  | .sl r o n (.o c), .sl s u m (.o d) => decide (r = s) && decide (o = u) && decide (n = m) && decide (c = d)
  | .yl r, .yl s => decide (r = s)
  | .mp r, .mp s => decide (r = s)
  | .mn, .mn => true
  | .se r o u d, .se r' o' u' d' => decide (r = r') && decide (o = o') && decide (u = u') && decide (d = d')
  | .fn f [] [], .fn g [] [] => decide (f = g)
  | .fnil, .fnil => true
  | .inil, .inil => true
  | _, _ => false

/-- what was read ahead: which operations stand behind it, which row, from where on, what -/
structure Rd where
  bh : List Nat
  r : Nat
  o : Nat
  vs : List AV

noncomputable def sameVs : List AV → List AV → Bool
  | [], [] => true
  | x :: l, y :: m => sameV x y && sameVs l m
  | _, _ => false
/-- cells that were read ahead are as they were -/
noncomputable def keptD (σ : AW) : List Rd → Bool
  | [] => true
  | d :: l => (match rowOf σ d.r with
    | some (cs, _, _) => (match getRange cs d.o d.vs.length with | some us => sameVs us d.vs | none => false)
    | none => false) && keptD σ l
/-- what operation j stands behind counts no more -/
noncomputable def dropD (j : Nat) : List Rd → List Rd
  | [] => []
  | d :: l => if d.bh.contains j then dropD j l else d :: dropD j l
/-- which cells a load reads -/
noncomputable def readsD (P : Program) (bh : List Nat) (o : Oper) (t : List AV) (σ : AW) : Option (List Rd) :=
  match o.op with
  | .load ty a => (match ev t a with
    | .p r o => (match rowOf σ r with
      | some (cs, _, _) => (match readP P ty cs o with | some vs => some [⟨bh, r, o, vs⟩] | none => none)
      | none => none)
    | _ => some [])
  | _ => some []

/-- what waits for the function's end: the mark of a range over functions, or a deferred call -/
inductive Mk where
  | c (r : Nat)
  | f (g : FuncId) (args captured : List AV)

/-- what goes on behind code, behind a region's operations, behind a call -/
abbrev KC := Exit → List AV → List Mk → AW → Bool
abbrev KO := List AV → AW → Bool
abbrev KV := AV → AW → Bool

structure Fns where
  code : Option Nat → Code → List AV → List Mk → AW → KC → Bool
  loop : Option Nat → Code → List AV → List Mk → AW → KC → Bool
  call : FuncId → List AV → AW → KV → Bool
  round : Nat → List AV → AW → KV → Bool

section
variable (P : Program) (G : List (Nat × List AV)) (F : Fns)

/-- the next of a map: whichever it is -/
noncomputable def nextGo (σ : AW) (r m since : Nat) (seen : List Nat) (clk : Nat) (K : KV) : List ((AV × AV) × Nat) → Bool
  | [] => true
  | (e, b) :: l => (match fLs (seen ++ [b]) fun s => σ.put r (some (.iter (some m) since s clk)) with
    | some σ' => K (.tup [.b true, e.1, e.2]) σ'
    | none => false) && nextGo σ r m since seen clk K l
noncomputable def nextK (o : Oper) (t : List AV) (σ : AW) : Option (KV → Bool) := match o.op with
  | .next x isS => if evOk x then (match nextM (ev t x) isS σ with
    | some (_, _, _, _, _, []) => some fun K => K (.tup [.b false]) σ
    | some (r, m, since, seen, clk, e :: l) => some fun K => nextGo σ r m since seen clk K (e :: l)
    | none => none) else none
  | _ => none
noncomputable def doMore (o : Oper) (t : List AV) (σ : AW) (K : KV) : Bool :=
  match moreOp P o t σ with
  | some (.v v, σ) => K v σ
  | some (.skip, σ) => K (.tup []) σ
  | some (.enter f args, σ) => F.call f args σ K
  | some (.round l args, σ) => F.round l args σ K
  | none => (match nextK o t σ with | some q => q K | none => false)
noncomputable def putK' (t : List AV) (dst : Option Tmp) (v : AV) (K : List AV → Bool) : Bool := match putT t dst v with | some t => K t | none => false
noncomputable def oneOp (o : Oper) (t : List AV) (σ : AW) (K : KO) : Bool :=
  match stillOp P G o t σ with
  | some v => putK' t o.dst v fun t => K t σ
  | none => doMore P F o t σ fun v σ => putK' t o.dst v fun t => K t σ

noncomputable def runOps (ops : Array Oper) : List Oper → List AV → AW → KO → Bool
  | [], t, σ, K => K t σ
  | o :: l, t, σ, K =>
    if Region.wanted o (yieldedA ops t) then oneOp P G F o t σ fun t σ => runOps ops l t σ K
    else putK' t o.dst (.tup []) fun t => runOps ops l t σ K

noncomputable def runPlan (ops : Array Oper) : List (Nat × Option (List Nat)) → List Rd → List AV → AW → KO → Bool
  | [], _, t, σ, K => K t σ
  | (i, st) :: l, D, t, σ, K => match ops[i]? with
    | none => false
    | some o =>
      if Region.wanted o (yieldedA ops t) then
        (match st with
        | some bh => (match stillOp P G o t σ, readsD P bh o t σ with
          | some v, some D' => (match putT t o.dst v with | some t => runPlan ops l (D' ++ D) t σ K | none => false)
          | _, _ => false)
        | none => oneOp P G F o t σ fun t σ => if keptD σ (dropD i D) then runPlan ops l (dropD i D) t σ K else false)
      else (match putT t o.dst (.tup []) with | some t => runPlan ops l D t σ K | none => false)

noncomputable def setParams : List AV → List Tmp → List AV → List AV
  | t, i :: is, v :: vs => setParams (t.set i v) is vs
  | t, _, _ => t

noncomputable def rangeStart (rnd : Option Nat) (σ : AW) : Option (Nat × List Mk × AW) := match rnd with
  | some l => (match σ.t.get l with | some (.loop _ _ _ _ _ _ dr) => some (dr, [], σ) | _ => none)
  | none => (match σ.new (.defr false) with | some σ' => some (σ.n, [.c σ.n], σ') | none => none)
noncomputable def rangeF (rnd : Option Nat) (f : Operand) (ps : Array Tmp) (asg body : Code) (t : List AV) (d : List Mk) (σ : AW) (K : KC) : Bool :=
  match rangeStart rnd σ with
  | none => false
  | some (dr, mark, σ) => match σ.new (.loop .ready none t ps asg body dr) with
    | none => false
    | some σ' => match ev t f with
      | .fn g first captured => F.call g (first ++ [.yl σ.n] ++ captured) σ' fun _ σ₂ => (match σ₂.t.get σ.n with
          | some (.loop st pend tm ps asg body dr) => (match decide (st = .busy), σ₂.put σ.n (some (.loop .exhausted pend tm ps asg body dr)) with
            | false, some σ₃ => (match pend with
              | none => K .normal t (mark ++ d) σ₃
              | some c => F.code rnd c t (mark ++ d) σ₃ K)
            | _, _ => false)
          | _ => false)
      | _ => false

/-- a region whose last operation defers a call -/
noncomputable def dfrOf (ops : Array Oper) : Option (List Oper × Oper) := match ops.toList.getLast? with
  | some o => (match o.op with | .defer _ => some (ops.toList.dropLast, o) | _ => none)
  | none => none
noncomputable def mkOf (o : Oper) (t : List AV) : Option Mk := match o.op with
  | .defer ⟨.value f, args, _⟩ => if evOk f && evOks args.toList then (match ev t f with
    | .fn g first captured => some (.f g (first ++ evs t args.toList) captured)
    | _ => none) else none
  | _ => none
noncomputable def dfrK (ops : Array Oper) (o : Oper) (t : List AV) (K : Mk → List AV → Bool) : Bool :=
  if Region.wanted o (yieldedA ops t) then (match mkOf o t with | some m => putK' t o.dst (.tup []) fun t => K m t | none => false) else false
noncomputable def seqK (rnd : Option Nat) (b : Code) (K : KC) : KC := fun x t d σ => match x with | .normal => F.code rnd b t d σ K | x => K x t d σ
noncomputable def blockK (id : Nat) (K : KC) : KC := fun x t d σ => match x with | .exit i => K (if i = id then .normal else .exit i) t d σ | x => K x t d σ
noncomputable def scopeK (K : KC) : KC := fun x t d σ => match x with | .goto _ => false | x => K x t d σ
noncomputable def codeF (rnd : Option Nat) (c : Code) (t : List AV) (d : List Mk) (σ : AW) (K : KC) : Bool :=
  match c with
  | .skip | .label _ => K .normal t d σ
  | .seq a b => F.code rnd a t d σ (seqK F rnd b K)
  | .cond c a b => if !evOk c then false else (match ev t c with
    | .b true => F.code rnd a t d σ K
    | .b false => F.code rnd b t d σ K
    | _ => false)
  | .block id c => F.code rnd c t d σ (blockK id K)
  | .scope c => F.code rnd c t d σ (scopeK K)
  | .loop c => F.loop rnd c t d σ K
  | .exit id => K (.exit id) t d σ
  | .ret => K .ret t d σ
  | .region _ ops false => (match dfrOf ops with
    | none => runOps P G F ops ops.toList t σ fun t σ => K .normal t d σ
    | some (l, o) => (match rnd with
      | none => runOps P G F ops l t σ fun t σ => dfrK ops o t fun m t => K .normal t (m :: d) σ
      | some _ => false))
  | .region _ ops true => (match plan P ops with
    | some l => runPlan P G F ops l [] t σ fun t σ => K .normal t d σ
    | none => false)
  | .rangeFunc f ps asg body => if !evOk f then false else rangeF F rnd f ps asg body t d σ K
  | _ => false

noncomputable def loopK (rnd : Option Nat) (c : Code) (K : KC) : KC := fun x t d σ => match x with | .normal => F.loop rnd c t d σ K | x => K x t d σ
noncomputable def loopF (rnd : Option Nat) (c : Code) (t : List AV) (d : List Mk) (σ : AW) (K : KC) : Bool := F.code rnd c t d σ (loopK F rnd c K)

noncomputable def resOne (t : List AV) (σ : AW) : ResultVar → Option AV
  | .tmp n => some (t.getD n (.tup []))
  | .cell a ty => (match t.getD a (.tup []) with
    | .p r o => loadOp P G ty (.p r o) σ
    | _ => none)
noncomputable def resAll (t : List AV) (σ : AW) : List ResultVar → Option (List AV)
  | [] => some []
  | r :: l => match resOne P G t σ r, resAll t σ l with | some v, some m => some (v :: m) | _, _ => none

noncomputable def undefs : Nat → List AV
  | 0 => []
  | n + 1 => .tup [] :: undefs n

noncomputable def okExit : Exit → Bool | .normal | .ret => true | _ => false
/-- a deferred call, which defers nothing itself -/
noncomputable def endK (fn : Func) (K : AW → Bool) : KC := fun x t d σ => match d with
  | [] => if okExit x then (match resAll P G t σ fn.results.toList with | some _ => K σ | none => false) else false
  | _ => false
noncomputable def runD (f : FuncId) (args : List AV) (σ : AW) (K : AW → Bool) : Bool :=
  match P.funcs[f]? with
  | none => false
  | some fn => if fn.name == "runtime.NumGoroutine" then false else match fn.body with
    | none => false
    | some c => match fVs (args ++ undefs (fn.ntmps - args.length)) some with
      | none => false
      | some t => F.code none c t [] σ (endK P G fn K)
noncomputable def leaveF : List Mk → AW → (AW → Bool) → Bool
  | [], σ, K => K σ
  | .c r :: l, σ, K => (match σ.t.get r with
    | some (.defr false) => (match σ.put r (some (.defr true)) with | some σ => leaveF l σ K | none => false)
    | _ => false)
  | .f g args captured :: l, σ, K => runD P G F g (args ++ captured) σ fun σ => leaveF l σ K

noncomputable def leaveK (fn : Func) (K : KV) : KC := fun x t d σ => if okExit x then
    leaveF P G F d σ fun σ => (match resAll P G t σ fn.results.toList with
      | some [v] => fV v fun v => K v σ
      | some l => fVs l fun l => K (.tup l) σ
      | none => false)
  else false
noncomputable def callF (f : FuncId) (args : List AV) (σ : AW) (K : KV) : Bool :=
  match P.funcs[f]? with
  | none => false
  | some fn => if fn.name == "runtime.NumGoroutine" then false else match fn.body with
    | none => false
    | some c => match fVs (args ++ undefs (fn.ntmps - args.length)) some with
      | none => false
      | some t => F.code none c t [] σ (leaveK P G F fn K)

noncomputable def exitJump : Exit → Option (Option Code) | .normal => some none | .ret => some (some Code.ret) | .exit id => some (some (Code.exit id)) | _ => none
noncomputable def roundK2 (l : Nat) (K : KV) : KC := fun x _ _ σ => match σ.t.get l, exitJump x with
  | some (.loop _ _ tm ps asg' body' dr), some j => (match σ.put l (some (.loop (if Option.isNone j then .ready else .done) j tm ps asg' body' dr)) with
    | some σ => K (.b (Option.isNone j)) σ
    | none => false)
  | _, _ => false
noncomputable def roundK1 (l : Nat) (body : Code) (K : KV) : KC := fun x t d σ => match x, d with
  | .normal, [] => (match σ.t.get l with
    | some (.loop .ready pend tm ps asg' body' dr) => (match σ.put l (some (.loop .busy pend tm ps asg' body' dr)) with
      | some σ => F.code (some l) body t [] σ (roundK2 l K)
      | none => false)
    | _ => false)
  | _, _ => false
noncomputable def roundF (l : Nat) (args : List AV) (σ : AW) (K : KV) : Bool :=
  match σ.t.get l with
  | some (.loop _ _ tm ps asg body _) => if args.length ≠ ps.size then false else
    (match fVs (setParams tm ps.toList args) some with
    | none => false
    | some t => F.code (some l) asg t [] σ (roundK1 F l body K))
  | _ => false

noncomputable def stepF : Fns := ⟨codeF P G F, loopF F, callF P G F, roundF F⟩
end

noncomputable def botF : Fns := ⟨fun _ _ _ _ _ _ => false, fun _ _ _ _ _ _ => false, fun _ _ _ _ => false, fun _ _ _ _ => false⟩
noncomputable def evalF (P : Program) (G : List (Nat × List AV)) (n : Nat) : Fns := Nat.rec botF (fun _ F => stepF P G F) n

/-- the end: the answer is true -/
noncomputable def isTrue : KV := fun v _ => match v with | .b true => true | _ => false
/-- a function without arguments that answers true -/
noncomputable def closedB (P : Program) (G : List (Nat × List AV)) (n f : Nat) : Bool := (evalF P G n).call f [] ⟨.e, 0⟩ isTrue
end Go.Proofs.YtdennekkbdlhdaaDoor.Ev
