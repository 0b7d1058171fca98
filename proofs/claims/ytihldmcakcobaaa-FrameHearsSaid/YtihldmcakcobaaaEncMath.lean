/-
  What a frame's bytes tell: the frame itself; and for whom their sum is right.
-/
import Derived.Test.YtihldmcakcobaaaRight
namespace Go.Proofs.Ytihldmcakcobaaa
open Go.RowKit
set_option linter.unusedVariables false

section
variable (o : Nat) (s m : Int) (p : List Nat)

theorem enc_cons : enc (o : Int) s m p = (s / 16777216 % 256).toNat :: (s / 65536 % 256).toNat :: (s / 256 % 256).toNat :: (s % 256).toNat :: (m / 256).toNat :: (m % 256).toNat :: o :: (p ++ SumMath.four (SumMath.more 0 (enc0 (o : Int) s m p))) := by
  simp [enc, enc0, st]
theorem enc_len (hp : p.length = 64) : (enc (o : Int) s m p).length = 75 := by
  rw [enc_cons]; simp [SumMath.four, hp]
theorem enc0_lt (ho : o < 16) (hm : (Lit.int .u16 m).wf = true) (hpl : ∀ c ∈ p, c < 256) : ∀ c ∈ enc0 (o : Int) s m p, c < 256 := by
  have hb := bounds_u16 hm
  intro c hc
  simp only [enc0, List.mem_append, List.mem_singleton] at hc
  rcases hc with (hc | hc) | hc
  · exact st_lt s m hb.1 hb.2 c hc
  · omega
  · exact hpl c hc
theorem enc_lt (ho : o < 16) (hm : (Lit.int .u16 m).wf = true) (hpl : ∀ c ∈ p, c < 256) : ∀ c ∈ enc (o : Int) s m p, c < 256 := by
  intro c hc
  rcases List.mem_append.1 hc with h | h
  · exact enc0_lt o s m p ho hm hpl c h
  · exact SumMath.four_lt (SumMath.more_lt _ _) c h
theorem enc_own : (enc (o : Int) s m p).getD 6 0 = o := by rw [enc_cons]; rfl
theorem enc_slot (hs0 : 0 ≤ s) (hs1 : s ≤ 2147483647) : ((slotB (enc (o : Int) s m p) : Nat) : Int) = s := by
  rw [enc_cons]
  show (((((s / 16777216 % 256).toNat * 256 + (s / 65536 % 256).toNat) * 256 + (s / 256 % 256).toNat) * 256 + (s % 256).toNat : Nat) : Int) = s
  omega
theorem enc_mem (hm : (Lit.int .u16 m).wf = true) : ((memB (enc (o : Int) s m p) : Nat) : Int) = m := by
  have hb := bounds_u16 hm
  rw [enc_cons]
  show (((m / 256).toNat * 256 + (m % 256).toNat : Nat) : Int) = m
  omega
theorem enc_pay (hp : p.length = 64) : payB (enc (o : Int) s m p) = p := by
  rw [enc_cons]
  show ((p ++ _).take 64) = p
  rw [List.take_append_of_le_length (by omega), List.take_of_length_le (by omega)]
theorem enc_fr (hp : p.length = 64) (ho : o < 16) (hs0 : 0 ≤ s) (hs1 : s ≤ 2147483647) : isFr (enc (o : Int) s m p) = true := by
  refine isFr_iff.2 ⟨enc_len o s m p hp, by rw [enc_own]; exact ho, ?_⟩
  have := enc_slot o s m p hs0 hs1
  omega
theorem enc_frB (hp : p.length = 64) (hs0 : 0 ≤ s) (hs1 : s ≤ 2147483647) (hm : (Lit.int .u16 m).wf = true) : frB (enc (o : Int) s m p) = frv o s m p := by
  rw [frB, enc_own, enc_slot o s m p hs0 hs1, enc_mem o s m p hm, enc_pay o s m p hp]
theorem enc_mid (hp : p.length = 64) : ((enc (o : Int) s m p).drop 6).take 65 = o :: p := by
  rw [enc_cons]
  show (o :: (p ++ _)).take 65 = o :: p
  rw [List.take_succ_cons, List.take_append_of_le_length (by omega), List.take_of_length_le (by omega)]
theorem enc_end (hp : p.length = 64) : (enc (o : Int) s m p).drop 71 = SumMath.four (SumMath.more 0 (enc0 (o : Int) s m p)) := by
  rw [enc_cons]
  show (p ++ _).drop 64 = _
  rw [List.drop_append_of_le_length (by omega), List.drop_of_length_le (by omega), List.nil_append]
theorem enc0_more (hm : (Lit.int .u16 m).wf = true) : SumMath.more 0 (enc0 (o : Int) s m p) = SumMath.more (SumMath.more 0 (st s m)) (o :: p) := by
  have hb := bounds_u16 hm
  rw [SumMath.more_append _ _ (st_lt s m hb.1 hb.2)]
  simp [enc0]
theorem four_inj {a b : Nat} (h : SumMath.four a = SumMath.four b) (ha : a < 4294967296) (hb : b < 4294967296) : a = b := by
  have h1 : SumMath.low (SumMath.four a) = SumMath.low (SumMath.four b) := by rw [h]
  rwa [SumMath.four_low, SumMath.four_low] at h1
theorem enc_summed_own (hp : p.length = 64) (hm : (Lit.int .u16 m).wf = true) : summed (enc (o : Int) s m p) s m = true := by
  unfold summed
  rw [enc_mid o s m p hp, enc_end o s m p hp, enc0_more o s m p hm]
  exact decide_eq_true rfl
theorem enc_acc (hp : p.length = 64) (ho : o < 16) (hs0 : 0 ≤ s) (hs1 : s ≤ 2147483647) (hm : (Lit.int .u16 m).wf = true) : accE (enc (o : Int) s m p) o s m = 0 := by
  unfold accE
  rw [if_pos (enc_fr o s m p hp ho hs0 hs1), if_pos (enc_summed_own o s m p hp hm), if_pos]
  unfold meets
  rw [enc_own, enc_slot o s m p hs0 hs1, enc_mem o s m p hm]
  exact decide_eq_true ⟨rfl, rfl, rfl⟩
theorem enc_acc_iff (hp : p.length = 64) (ho : o < 16) (hs0 : 0 ≤ s) (hs1 : s ≤ 2147483647) (hm : (Lit.int .u16 m).wf = true) (o' z y : Int) : accE (enc (o : Int) s m p) o' z y = 0 ↔ (o : Int) = o' ∧ s = z ∧ m = y := by
  constructor
  · intro h
    have h1 := (acc_ok h).2.2
    rw [enc_own, enc_slot o s m p hs0 hs1, enc_mem o s m p hm] at h1
    exact h1
  · rintro ⟨rfl, rfl, rfl⟩
    exact enc_acc o s m p hp ho hs0 hs1 hm
theorem enc_dec (hp : p.length = 64) (ho : o < 16) (hs0 : 0 ≤ s) (hs1 : s ≤ 2147483647) (hm : (Lit.int .u16 m).wf = true) : decE (enc (o : Int) s m p) = 0 :=
  dec_of_acc (enc_acc o s m p hp ho hs0 hs1 hm)
end
end Go.Proofs.Ytihldmcakcobaaa
