/-
  What LexBlanks' walk needs to know of the text it makes.
-/
import Derived.Test.YtohmenghlboalaaDoorLxI0

namespace Go.Proofs.YtohmenghlboalaaDoor
open Go.RowKit Go.Shelf
set_option linter.unusedVariables false
set_option linter.unusedSimpArgs false

theorem put_app (sep : Tk → List UInt8) : ∀ (l m : List Tk), putF sep (l ++ m) = putF sep l ++ putF sep m
  | [], m => rfl
  | t :: l, m => by
    show t.t ++ (sep t ++ putF sep (l ++ m)) = (t.t ++ (sep t ++ putF sep l)) ++ putF sep m
    rw [put_app sep l m]; simp only [List.append_assoc]
theorem put_snoc {L : List Tk} {k : Nat} {t : Tk} (h : L[k]? = some t) : putF sepB (L.take (k + 1)) = putF sepB (L.take k) ++ (t.t ++ [32, 9, 35, 32, 63, 10, 13]) := by
  rw [List.take_add_one, h, put_app]
  show putF sepB (L.take k) ++ (t.t ++ (sepB t ++ [])) = _
  rw [List.append_nil]; rfl
theorem str_app (a b : List UInt8) : str a ++ str b = str (a ++ b) := byt_inj (by
  rw [byt_str]; simp [byt, str, ByteArray.data_append])
theorem put_len : ∀ (ts : List Tk), (∀ t ∈ ts, t.t.length ≤ 1000) → (putF sepB ts).length ≤ 1007 * ts.length
  | [], _ => Nat.zero_le _
  | t :: l, h => by
    have h1 := put_len l (fun u hu => h u (List.mem_cons_of_mem _ hu))
    have h2 := h t (List.mem_cons_self ..)
    show (t.t ++ ([32, 9, 35, 32, 63, 10, 13] ++ putF sepB l)).length ≤ _
    simp only [List.length_append, List.length_cons, List.length_nil]
    omega
theorem lnB_at : ∀ {M : List Tk} {ln cl k : Nat} {t : Tk}, lnB ln cl M → M[k]? = some t → t.ln = ln + k ∧ t.cl = (if k = 0 then cl else 2)
  | [], _, _, _, _, _, h => by simp at h
  | u :: l, ln, cl, 0, t, hl, h => by
    obtain rfl : u = t := by simpa using h
    exact ⟨hl.1, hl.2.1⟩
  | u :: l, ln, cl, k + 1, t, hl, h => by
    have h1 := lnB_at hl.2.2 (show l[k]? = some t by simpa using h)
    refine ⟨by omega, ?_⟩
    rw [if_neg (Nat.succ_ne_zero k), h1.2]; split <;> rfl
theorem tkn_same {L M : List Tk} (h : M.map tkn = L.map tkn) : sameF false (L.map toV) (M.map toV) = true := by
  have hl : M.length = L.length := by have := congrArg List.length h; simpa using this
  refine sameF_true (by rw [List.length_map, List.length_map, hl]) fun i hi => ?_
  rw [List.length_map] at hi
  have h1 : tkn (M[i]'(by omega)) = tkn L[i] := by
    have := congrArg (fun x => x[i]?) h
    simpa [List.getElem?_eq_getElem hi, List.getElem?_eq_getElem (show i < M.length by omega)] using this
  have e1 : (L.map toV).getD i default = toV L[i] := by simp [List.getD_eq_getElem?_getD, List.getElem?_eq_getElem hi]
  have e2 : (M.map toV).getD i default = toV (M[i]'(by omega)) := by simp [List.getD_eq_getElem?_getD, List.getElem?_eq_getElem (show i < M.length by omega)]
  rw [e1, e2]
  simp only [tkn, Prod.mk.injEq] at h1
  simp [sameT, toV, h1.1, h1.2.1, h1.2.2]
end Go.Proofs.YtohmenghlboalaaDoor
