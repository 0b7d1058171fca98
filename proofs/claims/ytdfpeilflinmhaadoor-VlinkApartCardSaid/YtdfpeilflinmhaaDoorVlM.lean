/-
  What is laid into a payload stands there: no place meets another one.
-/
import Derived.Test.YtdfpeilflinmhaaDoorVlF
namespace Go.Proofs.YtdfpeilflinmhaaDoor
open Go.RowKit Go.Deep
set_option linter.unusedVariables false
set_option linter.unusedSimpArgs false

/-- a message laid in its place -/
def layF (p : List Nat) (o : Nat) (m : List Nat) : List Nat := (p.set o 1).take (o + 1) ++ m ++ (p.set o 1).drop (o + 1 + m.length)
theorem layF_len (p : List Nat) (o : Nat) (m : List Nat) (h : o + 1 + m.length ≤ p.length) : (layF p o m).length = p.length := by simp [layF]; omega
theorem layF_bytes (p : List Nat) (o : Nat) (m : List Nat) (h : ∀ b ∈ p, b < 256) (hm : ∀ b ∈ m, b < 256) : ∀ b ∈ layF p o m, b < 256 := by
  intro b hb
  have hs : ∀ b ∈ p.set o 1, b < 256 := fun b hb => by
    rcases List.mem_or_eq_of_mem_set hb with h1 | rfl
    · exact h b h1
    · decide
  unfold layF at hb
  rcases List.mem_append.1 hb with hb | hb
  · rcases List.mem_append.1 hb with hb | hb
    · exact hs b (List.mem_of_mem_take hb)
    · exact hm b hb
  · exact hs b (List.mem_of_mem_drop hb)
theorem layF_in (p : List Nat) (o : Nat) (m : List Nat) (h : o + 1 + m.length ≤ p.length) (j : Nat) : (layF p o m).getD j 0 = if j = o then 1 else if o < j ∧ j < o + 1 + m.length then m.getD (j - o - 1) 0 else p.getD j 0 := by
  unfold layF
  rw [List.getD_eq_getElem?_getD]
  by_cases h1 : j < o + 1
  · rw [List.append_assoc, List.getElem?_append_left (by simp; omega), List.getElem?_take_of_lt h1, ← List.getD_eq_getElem?_getD, List.getD_eq_getElem?_getD, List.getElem?_set]
    by_cases h2 : o = j
    · subst h2; rw [if_pos rfl, if_pos (by omega), if_pos rfl]; rfl
    · rw [if_neg h2, if_neg (fun e => h2 e.symm), if_neg (by omega), List.getD_eq_getElem?_getD]
  · rw [if_neg (by omega)]
    by_cases h2 : j < o + 1 + m.length
    · rw [if_pos ⟨by omega, h2⟩, List.getElem?_append_left (by simp; omega), List.getElem?_append_right (by simp; omega), List.getD_eq_getElem?_getD]
      congr 2
      simp; omega
    · rw [if_neg (by omega), List.getElem?_append_right (by simp; omega), List.getElem?_drop, List.getD_eq_getElem?_getD]
      rw [show o + 1 + m.length + (j - ((p.set o 1).take (o + 1) ++ m).length) = j by simp; omega, List.getElem?_set, if_neg (by omega)]

/-- is it laid? -/
def cndB (isF : Int → Bool) (dtF : Int → List Nat) (x : Lr) : Bool := isF x.src && decide ((dtF x.src).length = x.siz.toNat)
def pkF (isF : Int → Bool) (dtF : Int → List Nat) (p : List Nat) (x : Lr) : List Nat := if cndB isF dtF x then layF p x.off.toNat (dtF x.src) else p
/-- all that is laid -/
def packF (isF : Int → Bool) (dtF : Int → List Nat) (p : List Nat) (L : List Lr) : List Nat := L.foldl (pkF isF dtF) p
/-- within the payload -/
def Fit (x : Lr) : Prop := x.off.toNat + 1 + x.siz.toNat ≤ 64
def Away (x y : Lr) : Prop := x.off.toNat + 1 + x.siz.toNat ≤ y.off.toNat ∨ y.off.toNat + 1 + y.siz.toNat ≤ x.off.toNat
section
variable {isF : Int → Bool} {dtF : Int → List Nat}
theorem cnd_len {x : Lr} (h : cndB isF dtF x = true) : (dtF x.src).length = x.siz.toNat := by
  unfold cndB at h
  simp at h
  exact h.2
theorem pkF_len {p : List Nat} {x : Lr} (hp : p.length = 64) (hx : Fit x) : (pkF isF dtF p x).length = 64 := by
  unfold pkF
  split
  · rename_i h
    rw [layF_len _ _ _ (by rw [cnd_len h, hp]; exact hx), hp]
  · exact hp
theorem pkF_bytes {p : List Nat} {x : Lr} (hp : ∀ b ∈ p, b < 256) (hd : ∀ z, ∀ b ∈ dtF z, b < 256) : ∀ b ∈ pkF isF dtF p x, b < 256 := by
  unfold pkF
  split
  · exact layF_bytes _ _ _ hp (hd _)
  · exact hp
theorem packF_len : ∀ (L : List Lr) (p : List Nat), p.length = 64 → (∀ x ∈ L, Fit x) → (packF isF dtF p L).length = 64
  | [], p, hp, _ => hp
  | x :: L, p, hp, h => packF_len L _ (pkF_len hp (h x (.head _))) fun y hy => h y (.tail _ hy)
theorem packF_bytes : ∀ (L : List Lr) (p : List Nat), (∀ b ∈ p, b < 256) → (∀ z, ∀ b ∈ dtF z, b < 256) → ∀ b ∈ packF isF dtF p L, b < 256
  | [], p, hp, _ => hp
  | x :: L, p, hp, h => packF_bytes L _ (pkF_bytes hp h) h
theorem packF_out (j : Nat) : ∀ (L : List Lr) (p : List Nat), p.length = 64 → (∀ x ∈ L, Fit x) → (∀ x ∈ L, j < x.off.toNat ∨ x.off.toNat + 1 + x.siz.toNat ≤ j) → (packF isF dtF p L).getD j 0 = p.getD j 0
  | [], p, _, _, _ => rfl
  | x :: L, p, hp, hf, h => by
    have ih := packF_out j L (pkF isF dtF p x) (pkF_len hp (hf x (.head _))) (fun y hy => hf y (.tail _ hy)) (fun y hy => h y (.tail _ hy))
    show (packF isF dtF (pkF isF dtF p x) L).getD j 0 = _
    rw [ih]
    unfold pkF
    split
    · rename_i hc
      have hl := cnd_len hc
      rw [layF_in _ _ _ (by rw [hl, hp]; exact hf x (.head _))]
      have := h x (.head _)
      rw [if_neg (by omega), if_neg (by omega)]
    · rfl
theorem packF_snoc (L : List Lr) (x : Lr) (p : List Nat) : packF isF dtF p (L ++ [x]) = pkF isF dtF (packF isF dtF p L) x := by simp [packF]
theorem packF_take {L : List Lr} {n : Nat} {x : Lr} {p : List Nat} (h : L[n]? = some x) : packF isF dtF p (L.take (n + 1)) = pkF isF dtF (packF isF dtF p (L.take n)) x := by
  rw [List.take_add_one, h]
  exact packF_snoc _ _ _
theorem away_symm {x y : Lr} (h : Away x y) : Away y x := h.symm
/-- within a link's place: what it lays, or what stood there -/
theorem packF_in {L : List Lr} {p : List Nat} {x : Lr} (hp : p.length = 64) (hf : ∀ x ∈ L, Fit x) (ha : L.Pairwise Away) (hx : x ∈ L) {j : Nat} (h1 : x.off.toNat ≤ j) (h2 : j < x.off.toNat + 1 + x.siz.toNat) :
    (packF isF dtF p L).getD j 0 = if cndB isF dtF x then (if j = x.off.toNat then 1 else (dtF x.src).getD (j - x.off.toNat - 1) 0) else p.getD j 0 := by
  obtain ⟨L1, L2, rfl⟩ := List.append_of_mem hx
  rw [List.pairwise_append] at ha
  obtain ⟨_, ha2, ha3⟩ := ha
  rw [List.pairwise_cons] at ha2
  have hl1 : (packF isF dtF p L1).length = 64 := packF_len L1 p hp fun y hy => hf y (by simp [hy])
  have e : packF isF dtF p (L1 ++ x :: L2) = packF isF dtF (pkF isF dtF (packF isF dtF p L1) x) L2 := by simp [packF]
  rw [e, packF_out j L2 _ (pkF_len hl1 (hf x hx)) (fun y hy => hf y (by simp [hy])) (fun y hy => by have := ha2.1 y hy; unfold Away at this; omega)]
  have h0 : (packF isF dtF p L1).getD j 0 = p.getD j 0 := packF_out j L1 p hp (fun y hy => hf y (by simp [hy])) fun y hy => by have := ha3 y hy x (.head _); unfold Away at this; omega
  unfold pkF
  split
  · rename_i hc
    have hl := cnd_len hc
    rw [layF_in _ _ _ (by rw [hl, hl1]; exact hf x hx)]
    by_cases h3 : j = x.off.toNat
    · rw [if_pos h3, if_pos h3]
    · rw [if_neg h3, if_neg h3, if_pos ⟨by omega, by rw [hl]; exact h2⟩]
  · exact h0
end
theorem own_fit {c : Conf} (hm : MayK c) {node : Int} {n : Nat} (hn : n ≤ c.links.length) : ∀ x ∈ ownL c node n, Fit x := fun x hx => by
  obtain ⟨o, s, ho, hs, h1, _⟩ := own_nat hm hn hx
  unfold Fit
  rw [ho, hs]
  simpa using h1
theorem own_away {c : Conf} (hm : MayK c) (node : Int) : ∀ n, n ≤ c.links.length → (ownL c node n).Pairwise Away
  | 0, _ => by simp [ownL]
  | n + 1, h => by
    rw [ownL_succ]
    have ih := own_away hm node n (by omega)
    cases hb : mineB c node n
    · simpa using ih
    · simp only [if_true]
      rw [List.pairwise_append]
      refine ⟨ih, by simp, fun x hx y hy => ?_⟩
      obtain rfl := List.mem_singleton.1 hy
      obtain ⟨k, hk, hkm, rfl⟩ := ownL_mem hx
      have hap := hm.apart
      unfold ApartP at hap
      rw [List.pairwise_iff_getElem] at hap
      have h2 := hap k n (by simp; omega) (by simp; omega) hk
      simp only [List.getElem_map] at h2
      have ek : c.links.getD k default = c.links[k]'(by omega) := by rw [List.getD_eq_getElem?_getD, List.getElem?_eq_getElem (by omega)]; rfl
      have en : c.links.getD n default = c.links[n]'(by omega) := by rw [List.getD_eq_getElem?_getD, List.getElem?_eq_getElem (by omega)]; rfl
      have hk2 := of_decide_eq_true hkm
      have hn2 := of_decide_eq_true hb
      have h3 := h2 (by
        unfold ptOf
        dsimp only
        unfold nodeF at hk2 hn2
        rw [← ek, ← en, hk2, hn2])
      obtain ⟨p1, p2, p3, p4⟩ := hm.place (show k < c.links.length by omega)
      obtain ⟨q1, q2, q3, q4⟩ := hm.place (show n < c.links.length by omega)
      unfold meetS spOf ptOf at h3
      rw [← ek, ← en] at h3
      simp only [decide_eq_false_iff_not] at h3
      simp only [lrF] at p1 p2 p3 p4 q1 q2 q3 q4
      unfold Away
      simp only [lrF]
      omega
end Go.Proofs.YtdfpeilflinmhaaDoor
