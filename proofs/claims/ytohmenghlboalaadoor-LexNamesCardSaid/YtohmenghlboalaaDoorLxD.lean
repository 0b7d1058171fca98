/-
  The token that a text begins with.
-/
import Derived.Test.YtohmenghlboalaaDoorLxC
import Derived.Laws.EntriesVeiled
namespace Go.Proofs.YtohmenghlboalaaDoor
open Go.RowKit Go.Shelf
attribute [local go_sem] Oper.semAt_some
set_option linter.unusedVariables false
set_option linter.unusedSimpArgs false
set_option maxRecDepth 100000

def fstV (s : ByteArray) : Option (Nat × Nat × Int) → Value
  | none => nilT
  | some x => tokV (x.1 : Nat) (s.extract 0 (x.2.1 + 1)) x.2.2 0 0

/-- what first has made when it looks at the first byte -/
structure Fw (w W : World) : Prop where
  res : Res w W
  l : Two W (w.heap.size + 1) (w.heap.size + 1 + 1) 97 122
  d : Two W (w.heap.size + 1 + 1 + 1) (w.heap.size + 1 + 1 + 1 + 1) 48 57
  fl : W.cell? ⟨w.heap.size + 1 + 1 + 1 + 1 + 1, 0, none⟩ = some (betw (w.heap.size + 1) (w.heap.size + 1 + 1))
  fd : W.cell? ⟨w.heap.size + 1 + 1 + 1 + 1 + 1 + 1, 0, none⟩ = some (betw (w.heap.size + 1 + 1 + 1) (w.heap.size + 1 + 1 + 1 + 1))
  km : W.cell? ⟨w.heap.size + 1 + 1 + 1 + 1 + 1 + 1 + 1, 0, none⟩ = some (.string ⟨#[123, 125, 40, 41, 58, 59, 44, 61, 46]⟩)
theorem fw_new (w : World) : Fw w ((((((((w.alloc (.cells #[.int .i64 0, .string ⟨#[]⟩, .int .i64 0, .int .i64 0, .int .i64 0] 24)).alloc (.cells #[.int .u8 97] 5)).alloc (.cells #[.int .u8 122] 5)).alloc (.cells #[.int .u8 48] 5)).alloc (.cells #[.int .u8 57] 5)).alloc (.cells #[.func (.func 38) #[] #[.pointer (some ⟨w.heap.size + 1, 0, none⟩), .pointer (some ⟨w.heap.size + 1 + 1, 0, none⟩)]] 61)).alloc (.cells #[.func (.func 38) #[] #[.pointer (some ⟨w.heap.size + 1 + 1 + 1, 0, none⟩), .pointer (some ⟨w.heap.size + 1 + 1 + 1 + 1, 0, none⟩)]] 61)).alloc (.cells #[.string ⟨#[123, 125, 40, 41, 58, 59, 44, 61, 46]⟩] 9)) := by
  have r0 : ((((((((w.alloc (.cells #[.int .i64 0, .string ⟨#[]⟩, .int .i64 0, .int .i64 0, .int .i64 0] 24)).alloc (.cells #[.int .u8 97] 5)).alloc (.cells #[.int .u8 122] 5)).alloc (.cells #[.int .u8 48] 5)).alloc (.cells #[.int .u8 57] 5)).alloc (.cells #[.func (.func 38) #[] #[.pointer (some ⟨w.heap.size + 1, 0, none⟩), .pointer (some ⟨w.heap.size + 1 + 1, 0, none⟩)]] 61)).alloc (.cells #[.func (.func 38) #[] #[.pointer (some ⟨w.heap.size + 1 + 1 + 1, 0, none⟩), .pointer (some ⟨w.heap.size + 1 + 1 + 1 + 1, 0, none⟩)]] 61)).alloc (.cells #[.string ⟨#[123, 125, 40, 41, 58, 59, 44, 61, 46]⟩] 9)).heap[w.heap.size]? = some (.cells #[.int .i64 0, .string ⟨#[]⟩, .int .i64 0, .int .i64 0, .int .i64 0] 24 (0, 0)) := ((heap_alloc_old _ _ (by simp only [World.size_alloc]; omega)).trans ((heap_alloc_old _ _ (by simp only [World.size_alloc]; omega)).trans ((heap_alloc_old _ _ (by simp only [World.size_alloc]; omega)).trans ((heap_alloc_old _ _ (by simp only [World.size_alloc]; omega)).trans ((heap_alloc_old _ _ (by simp only [World.size_alloc]; omega)).trans ((heap_alloc_old _ _ (by simp only [World.size_alloc]; omega)).trans ((heap_alloc_old _ _ (by simp only [World.size_alloc]; omega)).trans (by have := heap_alloc_new w (.cells #[.int .i64 0, .string ⟨#[]⟩, .int .i64 0, .int .i64 0, .int .i64 0] 24); simpa only [World.size_alloc] using this))))))))
  have r1 : ((((((((w.alloc (.cells #[.int .i64 0, .string ⟨#[]⟩, .int .i64 0, .int .i64 0, .int .i64 0] 24)).alloc (.cells #[.int .u8 97] 5)).alloc (.cells #[.int .u8 122] 5)).alloc (.cells #[.int .u8 48] 5)).alloc (.cells #[.int .u8 57] 5)).alloc (.cells #[.func (.func 38) #[] #[.pointer (some ⟨w.heap.size + 1, 0, none⟩), .pointer (some ⟨w.heap.size + 1 + 1, 0, none⟩)]] 61)).alloc (.cells #[.func (.func 38) #[] #[.pointer (some ⟨w.heap.size + 1 + 1 + 1, 0, none⟩), .pointer (some ⟨w.heap.size + 1 + 1 + 1 + 1, 0, none⟩)]] 61)).alloc (.cells #[.string ⟨#[123, 125, 40, 41, 58, 59, 44, 61, 46]⟩] 9)).heap[w.heap.size + 1]? = some (.cells #[.int .u8 97] 5 (0, 0)) := ((heap_alloc_old _ _ (by simp only [World.size_alloc]; omega)).trans ((heap_alloc_old _ _ (by simp only [World.size_alloc]; omega)).trans ((heap_alloc_old _ _ (by simp only [World.size_alloc]; omega)).trans ((heap_alloc_old _ _ (by simp only [World.size_alloc]; omega)).trans ((heap_alloc_old _ _ (by simp only [World.size_alloc]; omega)).trans ((heap_alloc_old _ _ (by simp only [World.size_alloc]; omega)).trans (by have := heap_alloc_new (w.alloc (.cells #[.int .i64 0, .string ⟨#[]⟩, .int .i64 0, .int .i64 0, .int .i64 0] 24)) (.cells #[.int .u8 97] 5); simpa only [World.size_alloc] using this)))))))
  have r2 : ((((((((w.alloc (.cells #[.int .i64 0, .string ⟨#[]⟩, .int .i64 0, .int .i64 0, .int .i64 0] 24)).alloc (.cells #[.int .u8 97] 5)).alloc (.cells #[.int .u8 122] 5)).alloc (.cells #[.int .u8 48] 5)).alloc (.cells #[.int .u8 57] 5)).alloc (.cells #[.func (.func 38) #[] #[.pointer (some ⟨w.heap.size + 1, 0, none⟩), .pointer (some ⟨w.heap.size + 1 + 1, 0, none⟩)]] 61)).alloc (.cells #[.func (.func 38) #[] #[.pointer (some ⟨w.heap.size + 1 + 1 + 1, 0, none⟩), .pointer (some ⟨w.heap.size + 1 + 1 + 1 + 1, 0, none⟩)]] 61)).alloc (.cells #[.string ⟨#[123, 125, 40, 41, 58, 59, 44, 61, 46]⟩] 9)).heap[w.heap.size + 1 + 1]? = some (.cells #[.int .u8 122] 5 (0, 0)) := ((heap_alloc_old _ _ (by simp only [World.size_alloc]; omega)).trans ((heap_alloc_old _ _ (by simp only [World.size_alloc]; omega)).trans ((heap_alloc_old _ _ (by simp only [World.size_alloc]; omega)).trans ((heap_alloc_old _ _ (by simp only [World.size_alloc]; omega)).trans ((heap_alloc_old _ _ (by simp only [World.size_alloc]; omega)).trans (by have := heap_alloc_new ((w.alloc (.cells #[.int .i64 0, .string ⟨#[]⟩, .int .i64 0, .int .i64 0, .int .i64 0] 24)).alloc (.cells #[.int .u8 97] 5)) (.cells #[.int .u8 122] 5); simpa only [World.size_alloc] using this))))))
  have r3 : ((((((((w.alloc (.cells #[.int .i64 0, .string ⟨#[]⟩, .int .i64 0, .int .i64 0, .int .i64 0] 24)).alloc (.cells #[.int .u8 97] 5)).alloc (.cells #[.int .u8 122] 5)).alloc (.cells #[.int .u8 48] 5)).alloc (.cells #[.int .u8 57] 5)).alloc (.cells #[.func (.func 38) #[] #[.pointer (some ⟨w.heap.size + 1, 0, none⟩), .pointer (some ⟨w.heap.size + 1 + 1, 0, none⟩)]] 61)).alloc (.cells #[.func (.func 38) #[] #[.pointer (some ⟨w.heap.size + 1 + 1 + 1, 0, none⟩), .pointer (some ⟨w.heap.size + 1 + 1 + 1 + 1, 0, none⟩)]] 61)).alloc (.cells #[.string ⟨#[123, 125, 40, 41, 58, 59, 44, 61, 46]⟩] 9)).heap[w.heap.size + 1 + 1 + 1]? = some (.cells #[.int .u8 48] 5 (0, 0)) := ((heap_alloc_old _ _ (by simp only [World.size_alloc]; omega)).trans ((heap_alloc_old _ _ (by simp only [World.size_alloc]; omega)).trans ((heap_alloc_old _ _ (by simp only [World.size_alloc]; omega)).trans ((heap_alloc_old _ _ (by simp only [World.size_alloc]; omega)).trans (by have := heap_alloc_new (((w.alloc (.cells #[.int .i64 0, .string ⟨#[]⟩, .int .i64 0, .int .i64 0, .int .i64 0] 24)).alloc (.cells #[.int .u8 97] 5)).alloc (.cells #[.int .u8 122] 5)) (.cells #[.int .u8 48] 5); simpa only [World.size_alloc] using this)))))
  have r4 : ((((((((w.alloc (.cells #[.int .i64 0, .string ⟨#[]⟩, .int .i64 0, .int .i64 0, .int .i64 0] 24)).alloc (.cells #[.int .u8 97] 5)).alloc (.cells #[.int .u8 122] 5)).alloc (.cells #[.int .u8 48] 5)).alloc (.cells #[.int .u8 57] 5)).alloc (.cells #[.func (.func 38) #[] #[.pointer (some ⟨w.heap.size + 1, 0, none⟩), .pointer (some ⟨w.heap.size + 1 + 1, 0, none⟩)]] 61)).alloc (.cells #[.func (.func 38) #[] #[.pointer (some ⟨w.heap.size + 1 + 1 + 1, 0, none⟩), .pointer (some ⟨w.heap.size + 1 + 1 + 1 + 1, 0, none⟩)]] 61)).alloc (.cells #[.string ⟨#[123, 125, 40, 41, 58, 59, 44, 61, 46]⟩] 9)).heap[w.heap.size + 1 + 1 + 1 + 1]? = some (.cells #[.int .u8 57] 5 (0, 0)) := ((heap_alloc_old _ _ (by simp only [World.size_alloc]; omega)).trans ((heap_alloc_old _ _ (by simp only [World.size_alloc]; omega)).trans ((heap_alloc_old _ _ (by simp only [World.size_alloc]; omega)).trans (by have := heap_alloc_new ((((w.alloc (.cells #[.int .i64 0, .string ⟨#[]⟩, .int .i64 0, .int .i64 0, .int .i64 0] 24)).alloc (.cells #[.int .u8 97] 5)).alloc (.cells #[.int .u8 122] 5)).alloc (.cells #[.int .u8 48] 5)) (.cells #[.int .u8 57] 5); simpa only [World.size_alloc] using this))))
  have r5 : ((((((((w.alloc (.cells #[.int .i64 0, .string ⟨#[]⟩, .int .i64 0, .int .i64 0, .int .i64 0] 24)).alloc (.cells #[.int .u8 97] 5)).alloc (.cells #[.int .u8 122] 5)).alloc (.cells #[.int .u8 48] 5)).alloc (.cells #[.int .u8 57] 5)).alloc (.cells #[.func (.func 38) #[] #[.pointer (some ⟨w.heap.size + 1, 0, none⟩), .pointer (some ⟨w.heap.size + 1 + 1, 0, none⟩)]] 61)).alloc (.cells #[.func (.func 38) #[] #[.pointer (some ⟨w.heap.size + 1 + 1 + 1, 0, none⟩), .pointer (some ⟨w.heap.size + 1 + 1 + 1 + 1, 0, none⟩)]] 61)).alloc (.cells #[.string ⟨#[123, 125, 40, 41, 58, 59, 44, 61, 46]⟩] 9)).heap[w.heap.size + 1 + 1 + 1 + 1 + 1]? = some (.cells #[.func (.func 38) #[] #[.pointer (some ⟨w.heap.size + 1, 0, none⟩), .pointer (some ⟨w.heap.size + 1 + 1, 0, none⟩)]] 61 (0, 0)) := ((heap_alloc_old _ _ (by simp only [World.size_alloc]; omega)).trans ((heap_alloc_old _ _ (by simp only [World.size_alloc]; omega)).trans (by have := heap_alloc_new (((((w.alloc (.cells #[.int .i64 0, .string ⟨#[]⟩, .int .i64 0, .int .i64 0, .int .i64 0] 24)).alloc (.cells #[.int .u8 97] 5)).alloc (.cells #[.int .u8 122] 5)).alloc (.cells #[.int .u8 48] 5)).alloc (.cells #[.int .u8 57] 5)) (.cells #[.func (.func 38) #[] #[.pointer (some ⟨w.heap.size + 1, 0, none⟩), .pointer (some ⟨w.heap.size + 1 + 1, 0, none⟩)]] 61); simpa only [World.size_alloc] using this)))
  have r6 : ((((((((w.alloc (.cells #[.int .i64 0, .string ⟨#[]⟩, .int .i64 0, .int .i64 0, .int .i64 0] 24)).alloc (.cells #[.int .u8 97] 5)).alloc (.cells #[.int .u8 122] 5)).alloc (.cells #[.int .u8 48] 5)).alloc (.cells #[.int .u8 57] 5)).alloc (.cells #[.func (.func 38) #[] #[.pointer (some ⟨w.heap.size + 1, 0, none⟩), .pointer (some ⟨w.heap.size + 1 + 1, 0, none⟩)]] 61)).alloc (.cells #[.func (.func 38) #[] #[.pointer (some ⟨w.heap.size + 1 + 1 + 1, 0, none⟩), .pointer (some ⟨w.heap.size + 1 + 1 + 1 + 1, 0, none⟩)]] 61)).alloc (.cells #[.string ⟨#[123, 125, 40, 41, 58, 59, 44, 61, 46]⟩] 9)).heap[w.heap.size + 1 + 1 + 1 + 1 + 1 + 1]? = some (.cells #[.func (.func 38) #[] #[.pointer (some ⟨w.heap.size + 1 + 1 + 1, 0, none⟩), .pointer (some ⟨w.heap.size + 1 + 1 + 1 + 1, 0, none⟩)]] 61 (0, 0)) := ((heap_alloc_old _ _ (by simp only [World.size_alloc]; omega)).trans (by have := heap_alloc_new ((((((w.alloc (.cells #[.int .i64 0, .string ⟨#[]⟩, .int .i64 0, .int .i64 0, .int .i64 0] 24)).alloc (.cells #[.int .u8 97] 5)).alloc (.cells #[.int .u8 122] 5)).alloc (.cells #[.int .u8 48] 5)).alloc (.cells #[.int .u8 57] 5)).alloc (.cells #[.func (.func 38) #[] #[.pointer (some ⟨w.heap.size + 1, 0, none⟩), .pointer (some ⟨w.heap.size + 1 + 1, 0, none⟩)]] 61)) (.cells #[.func (.func 38) #[] #[.pointer (some ⟨w.heap.size + 1 + 1 + 1, 0, none⟩), .pointer (some ⟨w.heap.size + 1 + 1 + 1 + 1, 0, none⟩)]] 61); simpa only [World.size_alloc] using this))
  have r7 : ((((((((w.alloc (.cells #[.int .i64 0, .string ⟨#[]⟩, .int .i64 0, .int .i64 0, .int .i64 0] 24)).alloc (.cells #[.int .u8 97] 5)).alloc (.cells #[.int .u8 122] 5)).alloc (.cells #[.int .u8 48] 5)).alloc (.cells #[.int .u8 57] 5)).alloc (.cells #[.func (.func 38) #[] #[.pointer (some ⟨w.heap.size + 1, 0, none⟩), .pointer (some ⟨w.heap.size + 1 + 1, 0, none⟩)]] 61)).alloc (.cells #[.func (.func 38) #[] #[.pointer (some ⟨w.heap.size + 1 + 1 + 1, 0, none⟩), .pointer (some ⟨w.heap.size + 1 + 1 + 1 + 1, 0, none⟩)]] 61)).alloc (.cells #[.string ⟨#[123, 125, 40, 41, 58, 59, 44, 61, 46]⟩] 9)).heap[w.heap.size + 1 + 1 + 1 + 1 + 1 + 1 + 1]? = some (.cells #[.string ⟨#[123, 125, 40, 41, 58, 59, 44, 61, 46]⟩] 9 (0, 0)) := (by have := heap_alloc_new (((((((w.alloc (.cells #[.int .i64 0, .string ⟨#[]⟩, .int .i64 0, .int .i64 0, .int .i64 0] 24)).alloc (.cells #[.int .u8 97] 5)).alloc (.cells #[.int .u8 122] 5)).alloc (.cells #[.int .u8 48] 5)).alloc (.cells #[.int .u8 57] 5)).alloc (.cells #[.func (.func 38) #[] #[.pointer (some ⟨w.heap.size + 1, 0, none⟩), .pointer (some ⟨w.heap.size + 1 + 1, 0, none⟩)]] 61)).alloc (.cells #[.func (.func 38) #[] #[.pointer (some ⟨w.heap.size + 1 + 1 + 1, 0, none⟩), .pointer (some ⟨w.heap.size + 1 + 1 + 1 + 1, 0, none⟩)]] 61)) (.cells #[.string ⟨#[123, 125, 40, 41, 58, 59, 44, 61, 46]⟩] 9); simpa only [World.size_alloc] using this)
  refine ⟨⟨((((((((bal w _).alloc (by simp) _).alloc (by simp; omega) _).alloc (by simp; omega) _).alloc (by simp; omega) _).alloc (by simp; omega) _).alloc (by simp; omega) _).alloc (by simp; omega) _), r0⟩, ⟨?_, ?_⟩, ⟨?_, ?_⟩, ?_, ?_, ?_⟩
  · rw [cell_of_row _ _ _ _ _ _ r1]; rfl
  · rw [cell_of_row _ _ _ _ _ _ r2]; rfl
  · rw [cell_of_row _ _ _ _ _ _ r3]; rfl
  · rw [cell_of_row _ _ _ _ _ _ r4]; rfl
  · rw [cell_of_row _ _ _ _ _ _ r5]; rfl
  · rw [cell_of_row _ _ _ _ _ _ r6]; rfl
  · rw [cell_of_row _ _ _ _ _ _ r7]; rfl

set_option maxHeartbeats 4000000 in
theorem first_word (s : ByteArray) (c : UInt8) (r : List UInt8) (hs : byt s = c :: r) (hz : s.size ≤ 140737488355328) (w : World) (hE : Env w) (hl : isL c = true) :
    Calls Tryd.prog 22 #[.string s] w fun e w' => e = .returned (fstV s (fstF (byt s))) ∧ Below w.heap.size w w' := by
  have hc0 : (byt s)[0]? = some c := by rw [hs]; rfl
  have hix := idx_at0 (s := s) (c := c) hc0
  unfold u8V at hix
  have hsz : 1 ≤ s.size := by rw [← byt_len, hs]; simp
  have HF := hide (fw_new w)
  have HL := hide (letter_at c _ _ _ HF.out.l)
  have HD := hide (digit_at c _ _ _ HF.out.d)
  have HK := hide (mark_at c _ _ HF.out.km)
  have HE := hide (hE.below HF.out.res.bel (Nat.le_refl _))
  have hbl : w.heap.size + 1 + 1 + 1 + 1 + 1 < ((((((((w.alloc (.cells #[.int .i64 0, .string ⟨#[]⟩, .int .i64 0, .int .i64 0, .int .i64 0] 24)).alloc (.cells #[.int .u8 97] 5)).alloc (.cells #[.int .u8 122] 5)).alloc (.cells #[.int .u8 48] 5)).alloc (.cells #[.int .u8 57] 5)).alloc (.cells #[.func (.func 38) #[] #[.pointer (some ⟨w.heap.size + 1, 0, none⟩), .pointer (some ⟨w.heap.size + 1 + 1, 0, none⟩)]] 61)).alloc (.cells #[.func (.func 38) #[] #[.pointer (some ⟨w.heap.size + 1 + 1 + 1, 0, none⟩), .pointer (some ⟨w.heap.size + 1 + 1 + 1 + 1, 0, none⟩)]] 61)).alloc (.cells #[.string ⟨#[123, 125, 40, 41, 58, 59, 44, 61, 46]⟩] 9)).heap.size := World.block_lt_of_cell? _ _ HF.out.fl
  have hbd : w.heap.size + 1 + 1 + 1 + 1 + 1 + 1 < ((((((((w.alloc (.cells #[.int .i64 0, .string ⟨#[]⟩, .int .i64 0, .int .i64 0, .int .i64 0] 24)).alloc (.cells #[.int .u8 97] 5)).alloc (.cells #[.int .u8 122] 5)).alloc (.cells #[.int .u8 48] 5)).alloc (.cells #[.int .u8 57] 5)).alloc (.cells #[.func (.func 38) #[] #[.pointer (some ⟨w.heap.size + 1, 0, none⟩), .pointer (some ⟨w.heap.size + 1 + 1, 0, none⟩)]] 61)).alloc (.cells #[.func (.func 38) #[] #[.pointer (some ⟨w.heap.size + 1 + 1 + 1, 0, none⟩), .pointer (some ⟨w.heap.size + 1 + 1 + 1 + 1, 0, none⟩)]] 61)).alloc (.cells #[.string ⟨#[123, 125, 40, 41, 58, 59, 44, 61, 46]⟩] 9)).heap.size := World.block_lt_of_cell? _ _ HF.out.fd
  have hbm : w.heap.size + 1 + 1 + 1 + 1 + 1 + 1 + 1 < ((((((((w.alloc (.cells #[.int .i64 0, .string ⟨#[]⟩, .int .i64 0, .int .i64 0, .int .i64 0] 24)).alloc (.cells #[.int .u8 97] 5)).alloc (.cells #[.int .u8 122] 5)).alloc (.cells #[.int .u8 48] 5)).alloc (.cells #[.int .u8 57] 5)).alloc (.cells #[.func (.func 38) #[] #[.pointer (some ⟨w.heap.size + 1, 0, none⟩), .pointer (some ⟨w.heap.size + 1 + 1, 0, none⟩)]] 61)).alloc (.cells #[.func (.func 38) #[] #[.pointer (some ⟨w.heap.size + 1 + 1 + 1, 0, none⟩), .pointer (some ⟨w.heap.size + 1 + 1 + 1 + 1, 0, none⟩)]] 61)).alloc (.cells #[.string ⟨#[123, 125, 40, 41, 58, 59, 44, 61, 46]⟩] 9)).heap.size := World.block_lt_of_cell? _ _ HF.out.km
  have cl := HF.out.fl
  have cd := HF.out.fd
  have cm := HF.out.km
  have HR2 := hide HF.out.res
  unfold betw at cl cd
  unfold u8V at HL HD HK
  rw [hl] at HL
  obtain ⟨n, hn⟩ : ∃ n, n = 1 + tkw isW ((byt s).drop 1) := ⟨_, rfl⟩
  have HT := hide (thr_word s c hc0 (by omega) _ _ _ _ _ _ _ HF.out.fl HF.out.fd HF.out.l HF.out.d)
  rw [← hn] at HT
  have hdr : (byt s).drop 1 = r := by rw [hs]; rfl
  rw [hdr] at hn
  have hns : n ≤ s.size := by rw [hn, ← byt_len, hs]; have := tkw_le isW r; simp; omega
  have hns2 : ((n : Nat) : Int) ≤ (s.size : Nat) := by omega
  have hn0 : (0 : Int) ≤ (n : Nat) := by omega
  have HV := hide (show fstV s (fstF (byt s)) = .agg #[.int .i64 1, .string (s.extract 0 n), .int .i64 0, .int .i64 0, .int .i64 0] by
    rw [hs, fstF_cons, if_pos hl, hn, Nat.add_comm]; rfl)
  obtain ⟨k0, k1, k2, k3, k4, k5⟩ := HF.out.res.cells
  clear hs hc0 hE hl hn hdr
  go_enter Tryd.func22, Tryd.ntmps22
  go_wp2_with (first
    | (go_at_call 31; refine (betw_at _ _ _).mono ?_; rintro e w' ⟨rfl, rfl⟩)
    | (go_at_call 29; refine (among_at _ _).mono ?_; rintro e w' ⟨rfl, rfl⟩))
  generalize ((((((((w.alloc (.cells #[.int .i64 0, .string ⟨#[]⟩, .int .i64 0, .int .i64 0, .int .i64 0] 24)).alloc (.cells #[.int .u8 97] 5)).alloc (.cells #[.int .u8 122] 5)).alloc (.cells #[.int .u8 48] 5)).alloc (.cells #[.int .u8 57] 5)).alloc (.cells #[.func (.func 38) #[] #[.pointer (some ⟨w.heap.size + 1, 0, none⟩), .pointer (some ⟨w.heap.size + 1 + 1, 0, none⟩)]] 61)).alloc (.cells #[.func (.func 38) #[] #[.pointer (some ⟨w.heap.size + 1 + 1 + 1, 0, none⟩), .pointer (some ⟨w.heap.size + 1 + 1 + 1 + 1, 0, none⟩)]] 61)).alloc (.cells #[.string ⟨#[123, 125, 40, 41, 58, 59, 44, 61, 46]⟩] 9)) = W1 at *
  refine HL.out.mono ?_
  rintro e w' ⟨rfl, rfl⟩
  go_wp2_with fail
  refine HT.out.mono ?_
  rintro e w' ⟨rfl, rfl⟩
  go_wp2_with fail
  refine bodyPost_ret (results_cell_row (fn := Tryd.f22) rfl _ _ w.heap.size _ _ (0, 0) _ rfl (HR2.out.made _ _ _ _ _) Tryd.underlying24 rfl tok_info) rfl ?_
  exact ⟨congrArg Ending.returned HV.out.symm, HR2.out.done _ _ _ _ _⟩

set_option maxHeartbeats 4000000 in
theorem first_digit (s : ByteArray) (c : UInt8) (r : List UInt8) (hs : byt s = c :: r) (hz : s.size ≤ 140737488355328) (w : World) (hE : Env w) (hl : isL c = false) (hd : isD c = true) :
    Calls Tryd.prog 22 #[.string s] w fun e w' => e = .returned (fstV s (fstF (byt s))) ∧ Below w.heap.size w w' := by
  have hc0 : (byt s)[0]? = some c := by rw [hs]; rfl
  have hix := idx_at0 (s := s) (c := c) hc0
  unfold u8V at hix
  have hsz : 1 ≤ s.size := by rw [← byt_len, hs]; simp
  have HF := hide (fw_new w)
  have HL := hide (letter_at c _ _ _ HF.out.l)
  have HD := hide (digit_at c _ _ _ HF.out.d)
  have HK := hide (mark_at c _ _ HF.out.km)
  have HE := hide (hE.below HF.out.res.bel (Nat.le_refl _))
  have hbl : w.heap.size + 1 + 1 + 1 + 1 + 1 < ((((((((w.alloc (.cells #[.int .i64 0, .string ⟨#[]⟩, .int .i64 0, .int .i64 0, .int .i64 0] 24)).alloc (.cells #[.int .u8 97] 5)).alloc (.cells #[.int .u8 122] 5)).alloc (.cells #[.int .u8 48] 5)).alloc (.cells #[.int .u8 57] 5)).alloc (.cells #[.func (.func 38) #[] #[.pointer (some ⟨w.heap.size + 1, 0, none⟩), .pointer (some ⟨w.heap.size + 1 + 1, 0, none⟩)]] 61)).alloc (.cells #[.func (.func 38) #[] #[.pointer (some ⟨w.heap.size + 1 + 1 + 1, 0, none⟩), .pointer (some ⟨w.heap.size + 1 + 1 + 1 + 1, 0, none⟩)]] 61)).alloc (.cells #[.string ⟨#[123, 125, 40, 41, 58, 59, 44, 61, 46]⟩] 9)).heap.size := World.block_lt_of_cell? _ _ HF.out.fl
  have hbd : w.heap.size + 1 + 1 + 1 + 1 + 1 + 1 < ((((((((w.alloc (.cells #[.int .i64 0, .string ⟨#[]⟩, .int .i64 0, .int .i64 0, .int .i64 0] 24)).alloc (.cells #[.int .u8 97] 5)).alloc (.cells #[.int .u8 122] 5)).alloc (.cells #[.int .u8 48] 5)).alloc (.cells #[.int .u8 57] 5)).alloc (.cells #[.func (.func 38) #[] #[.pointer (some ⟨w.heap.size + 1, 0, none⟩), .pointer (some ⟨w.heap.size + 1 + 1, 0, none⟩)]] 61)).alloc (.cells #[.func (.func 38) #[] #[.pointer (some ⟨w.heap.size + 1 + 1 + 1, 0, none⟩), .pointer (some ⟨w.heap.size + 1 + 1 + 1 + 1, 0, none⟩)]] 61)).alloc (.cells #[.string ⟨#[123, 125, 40, 41, 58, 59, 44, 61, 46]⟩] 9)).heap.size := World.block_lt_of_cell? _ _ HF.out.fd
  have hbm : w.heap.size + 1 + 1 + 1 + 1 + 1 + 1 + 1 < ((((((((w.alloc (.cells #[.int .i64 0, .string ⟨#[]⟩, .int .i64 0, .int .i64 0, .int .i64 0] 24)).alloc (.cells #[.int .u8 97] 5)).alloc (.cells #[.int .u8 122] 5)).alloc (.cells #[.int .u8 48] 5)).alloc (.cells #[.int .u8 57] 5)).alloc (.cells #[.func (.func 38) #[] #[.pointer (some ⟨w.heap.size + 1, 0, none⟩), .pointer (some ⟨w.heap.size + 1 + 1, 0, none⟩)]] 61)).alloc (.cells #[.func (.func 38) #[] #[.pointer (some ⟨w.heap.size + 1 + 1 + 1, 0, none⟩), .pointer (some ⟨w.heap.size + 1 + 1 + 1 + 1, 0, none⟩)]] 61)).alloc (.cells #[.string ⟨#[123, 125, 40, 41, 58, 59, 44, 61, 46]⟩] 9)).heap.size := World.block_lt_of_cell? _ _ HF.out.km
  have cl := HF.out.fl
  have cd := HF.out.fd
  have cm := HF.out.km
  have HR2 := hide HF.out.res
  unfold betw at cl cd
  unfold u8V at HL HD HK
  rw [hl] at HL
  rw [hd] at HD
  obtain ⟨n, hn⟩ : ∃ n, n = 1 + tkw isD ((byt s).drop 1) := ⟨_, rfl⟩
  have HT := hide (thr_digit s c hc0 (by omega) _ _ _ HF.out.d)
  rw [← hn] at HT
  unfold betw at HT
  have hdr : (byt s).drop 1 = r := by rw [hs]; rfl
  rw [hdr] at hn
  have hns : n ≤ s.size := by rw [hn, ← byt_len, hs]; have := tkw_le isD r; simp; omega
  have hns2 : ((n : Nat) : Int) ≤ (s.size : Nat) := by omega
  have hn0 : (0 : Int) ≤ (n : Nat) := by omega
  have hsub : byt (s.extract 0 n) = c :: r.take (tkw isD r) := by rw [sub_to, hs, hn, Nat.add_comm, List.take_succ_cons]
  have HN := hide (number_at (s.extract 0 n) (by rw [ByteArray.size_extract]; omega) ⟨c, _, hsub, (.inl hd), all_take _ _⟩ _ HE.out)
  have HV0 := hide (show fstV s (fstF (byt s)) = numV (s.extract 0 n) (numF (byt (s.extract 0 n))) by
    rw [hsub, hs, fstF_cons, if_neg (by simp [hl]), if_pos (.inl hd), hn, Nat.add_comm]
    cases numF (c :: r.take (tkw isD r)) <;> rfl)
  cases hnum : numF (byt (s.extract 0 n)) with
  | none =>
    rw [hnum] at HN HV0
    have HV := hide (show fstV s (fstF (byt s)) = .agg #[.int .i64 0, .string ⟨#[]⟩, .int .i64 0, .int .i64 0, .int .i64 0] from HV0.out)
    unfold numV at HN
    unfold nilT at HN
    unfold tokV at HN
    clear hs hc0 hE hl hd hn hdr hsub hnum HV0
    go_enter Tryd.func22, Tryd.ntmps22
    go_wp2_with (first
      | (go_at_call 31; refine (betw_at _ _ _).mono ?_; rintro e w' ⟨rfl, rfl⟩)
      | (go_at_call 29; refine (among_at _ _).mono ?_; rintro e w' ⟨rfl, rfl⟩))
    generalize ((((((((w.alloc (.cells #[.int .i64 0, .string ⟨#[]⟩, .int .i64 0, .int .i64 0, .int .i64 0] 24)).alloc (.cells #[.int .u8 97] 5)).alloc (.cells #[.int .u8 122] 5)).alloc (.cells #[.int .u8 48] 5)).alloc (.cells #[.int .u8 57] 5)).alloc (.cells #[.func (.func 38) #[] #[.pointer (some ⟨w.heap.size + 1, 0, none⟩), .pointer (some ⟨w.heap.size + 1 + 1, 0, none⟩)]] 61)).alloc (.cells #[.func (.func 38) #[] #[.pointer (some ⟨w.heap.size + 1 + 1 + 1, 0, none⟩), .pointer (some ⟨w.heap.size + 1 + 1 + 1 + 1, 0, none⟩)]] 61)).alloc (.cells #[.string ⟨#[123, 125, 40, 41, 58, 59, 44, 61, 46]⟩] 9)) = W1 at *
    refine HL.out.mono ?_
    rintro e w' ⟨rfl, rfl⟩
    go_wp2_with fail
    refine HD.out.mono ?_
    rintro e w' ⟨rfl, rfl⟩
    go_wp2_with fail
    refine HT.out.mono ?_
    rintro e w' ⟨rfl, rfl⟩
    go_wp2_with fail
    refine HN.out.mono ?_
    rintro e W2 ⟨rfl, hb2⟩
    have HR2 := hide (HR2.out.on hb2 (Nat.le_refl _))
    obtain ⟨k0, k1, k2, k3, k4, k5⟩ := HR2.out.cells
    clear hb2
    go_wp2_with fail
    refine bodyPost_ret (results_cell_row (fn := Tryd.f22) rfl _ _ w.heap.size _ _ (0, 0) _ rfl (HR2.out.made _ _ _ _ _) Tryd.underlying24 rfl tok_info) rfl ?_
    exact ⟨congrArg Ending.returned HV.out.symm, HR2.out.done _ _ _ _ _⟩
  | some z =>
    rw [hnum] at HN HV0
    have HV := hide (show fstV s (fstF (byt s)) = .agg #[.int .i64 2, .string (s.extract 0 n), .int .i64 z, .int .i64 0, .int .i64 0] from HV0.out)
    unfold numV at HN
    unfold tokV at HN
    clear hs hc0 hE hl hd hn hdr hsub hnum HV0
    go_enter Tryd.func22, Tryd.ntmps22
    go_wp2_with (first
      | (go_at_call 31; refine (betw_at _ _ _).mono ?_; rintro e w' ⟨rfl, rfl⟩)
      | (go_at_call 29; refine (among_at _ _).mono ?_; rintro e w' ⟨rfl, rfl⟩))
    generalize ((((((((w.alloc (.cells #[.int .i64 0, .string ⟨#[]⟩, .int .i64 0, .int .i64 0, .int .i64 0] 24)).alloc (.cells #[.int .u8 97] 5)).alloc (.cells #[.int .u8 122] 5)).alloc (.cells #[.int .u8 48] 5)).alloc (.cells #[.int .u8 57] 5)).alloc (.cells #[.func (.func 38) #[] #[.pointer (some ⟨w.heap.size + 1, 0, none⟩), .pointer (some ⟨w.heap.size + 1 + 1, 0, none⟩)]] 61)).alloc (.cells #[.func (.func 38) #[] #[.pointer (some ⟨w.heap.size + 1 + 1 + 1, 0, none⟩), .pointer (some ⟨w.heap.size + 1 + 1 + 1 + 1, 0, none⟩)]] 61)).alloc (.cells #[.string ⟨#[123, 125, 40, 41, 58, 59, 44, 61, 46]⟩] 9)) = W1 at *
    refine HL.out.mono ?_
    rintro e w' ⟨rfl, rfl⟩
    go_wp2_with fail
    refine HD.out.mono ?_
    rintro e w' ⟨rfl, rfl⟩
    go_wp2_with fail
    refine HT.out.mono ?_
    rintro e w' ⟨rfl, rfl⟩
    go_wp2_with fail
    refine HN.out.mono ?_
    rintro e W2 ⟨rfl, hb2⟩
    have HR2 := hide (HR2.out.on hb2 (Nat.le_refl _))
    obtain ⟨k0, k1, k2, k3, k4, k5⟩ := HR2.out.cells
    clear hb2
    go_wp2_with fail
    refine bodyPost_ret (results_cell_row (fn := Tryd.f22) rfl _ _ w.heap.size _ _ (0, 0) _ rfl (HR2.out.made _ _ _ _ _) Tryd.underlying24 rfl tok_info) rfl ?_
    exact ⟨congrArg Ending.returned HV.out.symm, HR2.out.done _ _ _ _ _⟩

set_option maxHeartbeats 4000000 in
theorem first_minus (s : ByteArray) (c : UInt8) (r : List UInt8) (hs : byt s = c :: r) (hz : s.size ≤ 140737488355328) (w : World) (hE : Env w) (hl : isL c = false) (hd : isD c = false) (hm : c = 45) :
    Calls Tryd.prog 22 #[.string s] w fun e w' => e = .returned (fstV s (fstF (byt s))) ∧ Below w.heap.size w w' := by
  have hc0 : (byt s)[0]? = some c := by rw [hs]; rfl
  have hix := idx_at0 (s := s) (c := c) hc0
  unfold u8V at hix
  have hsz : 1 ≤ s.size := by rw [← byt_len, hs]; simp
  have HF := hide (fw_new w)
  have HL := hide (letter_at c _ _ _ HF.out.l)
  have HD := hide (digit_at c _ _ _ HF.out.d)
  have HK := hide (mark_at c _ _ HF.out.km)
  have HE := hide (hE.below HF.out.res.bel (Nat.le_refl _))
  have hbl : w.heap.size + 1 + 1 + 1 + 1 + 1 < ((((((((w.alloc (.cells #[.int .i64 0, .string ⟨#[]⟩, .int .i64 0, .int .i64 0, .int .i64 0] 24)).alloc (.cells #[.int .u8 97] 5)).alloc (.cells #[.int .u8 122] 5)).alloc (.cells #[.int .u8 48] 5)).alloc (.cells #[.int .u8 57] 5)).alloc (.cells #[.func (.func 38) #[] #[.pointer (some ⟨w.heap.size + 1, 0, none⟩), .pointer (some ⟨w.heap.size + 1 + 1, 0, none⟩)]] 61)).alloc (.cells #[.func (.func 38) #[] #[.pointer (some ⟨w.heap.size + 1 + 1 + 1, 0, none⟩), .pointer (some ⟨w.heap.size + 1 + 1 + 1 + 1, 0, none⟩)]] 61)).alloc (.cells #[.string ⟨#[123, 125, 40, 41, 58, 59, 44, 61, 46]⟩] 9)).heap.size := World.block_lt_of_cell? _ _ HF.out.fl
  have hbd : w.heap.size + 1 + 1 + 1 + 1 + 1 + 1 < ((((((((w.alloc (.cells #[.int .i64 0, .string ⟨#[]⟩, .int .i64 0, .int .i64 0, .int .i64 0] 24)).alloc (.cells #[.int .u8 97] 5)).alloc (.cells #[.int .u8 122] 5)).alloc (.cells #[.int .u8 48] 5)).alloc (.cells #[.int .u8 57] 5)).alloc (.cells #[.func (.func 38) #[] #[.pointer (some ⟨w.heap.size + 1, 0, none⟩), .pointer (some ⟨w.heap.size + 1 + 1, 0, none⟩)]] 61)).alloc (.cells #[.func (.func 38) #[] #[.pointer (some ⟨w.heap.size + 1 + 1 + 1, 0, none⟩), .pointer (some ⟨w.heap.size + 1 + 1 + 1 + 1, 0, none⟩)]] 61)).alloc (.cells #[.string ⟨#[123, 125, 40, 41, 58, 59, 44, 61, 46]⟩] 9)).heap.size := World.block_lt_of_cell? _ _ HF.out.fd
  have hbm : w.heap.size + 1 + 1 + 1 + 1 + 1 + 1 + 1 < ((((((((w.alloc (.cells #[.int .i64 0, .string ⟨#[]⟩, .int .i64 0, .int .i64 0, .int .i64 0] 24)).alloc (.cells #[.int .u8 97] 5)).alloc (.cells #[.int .u8 122] 5)).alloc (.cells #[.int .u8 48] 5)).alloc (.cells #[.int .u8 57] 5)).alloc (.cells #[.func (.func 38) #[] #[.pointer (some ⟨w.heap.size + 1, 0, none⟩), .pointer (some ⟨w.heap.size + 1 + 1, 0, none⟩)]] 61)).alloc (.cells #[.func (.func 38) #[] #[.pointer (some ⟨w.heap.size + 1 + 1 + 1, 0, none⟩), .pointer (some ⟨w.heap.size + 1 + 1 + 1 + 1, 0, none⟩)]] 61)).alloc (.cells #[.string ⟨#[123, 125, 40, 41, 58, 59, 44, 61, 46]⟩] 9)).heap.size := World.block_lt_of_cell? _ _ HF.out.km
  have cl := HF.out.fl
  have cd := HF.out.fd
  have cm := HF.out.km
  have HR2 := hide HF.out.res
  unfold betw at cl cd
  unfold u8V at HL HD HK
  rw [hl] at HL
  rw [hd] at HD
  obtain ⟨n, hn⟩ : ∃ n, n = 1 + tkw isD ((byt s).drop 1) := ⟨_, rfl⟩
  have HT := hide (thr_digit s c hc0 (by omega) _ _ _ HF.out.d)
  rw [← hn] at HT
  unfold betw at HT
  have hdr : (byt s).drop 1 = r := by rw [hs]; rfl
  rw [hdr] at hn
  have hns : n ≤ s.size := by rw [hn, ← byt_len, hs]; have := tkw_le isD r; simp; omega
  have hns2 : ((n : Nat) : Int) ≤ (s.size : Nat) := by omega
  have hn0 : (0 : Int) ≤ (n : Nat) := by omega
  have hsub : byt (s.extract 0 n) = c :: r.take (tkw isD r) := by rw [sub_to, hs, hn, Nat.add_comm, List.take_succ_cons]
  have HN := hide (number_at (s.extract 0 n) (by rw [ByteArray.size_extract]; omega) ⟨c, _, hsub, (.inr hm), all_take _ _⟩ _ HE.out)
  have HV0 := hide (show fstV s (fstF (byt s)) = numV (s.extract 0 n) (numF (byt (s.extract 0 n))) by
    rw [hsub, hs, fstF_cons, if_neg (by simp [hl]), if_pos (.inr hm), hn, Nat.add_comm]
    cases numF (c :: r.take (tkw isD r)) <;> rfl)
  have hmm : ((c.toNat : Nat) : Int) = 45 := by rw [hm]; rfl
  subst hm
  cases hnum : numF (byt (s.extract 0 n)) with
  | none =>
    rw [hnum] at HN HV0
    have HV := hide (show fstV s (fstF (byt s)) = .agg #[.int .i64 0, .string ⟨#[]⟩, .int .i64 0, .int .i64 0, .int .i64 0] from HV0.out)
    unfold numV at HN
    unfold nilT at HN
    unfold tokV at HN
    clear hs hc0 hE hl hd hn hdr hsub hnum HV0
    go_enter Tryd.func22, Tryd.ntmps22
    go_wp2_with (first
      | (go_at_call 31; refine (betw_at _ _ _).mono ?_; rintro e w' ⟨rfl, rfl⟩)
      | (go_at_call 29; refine (among_at _ _).mono ?_; rintro e w' ⟨rfl, rfl⟩))
    generalize ((((((((w.alloc (.cells #[.int .i64 0, .string ⟨#[]⟩, .int .i64 0, .int .i64 0, .int .i64 0] 24)).alloc (.cells #[.int .u8 97] 5)).alloc (.cells #[.int .u8 122] 5)).alloc (.cells #[.int .u8 48] 5)).alloc (.cells #[.int .u8 57] 5)).alloc (.cells #[.func (.func 38) #[] #[.pointer (some ⟨w.heap.size + 1, 0, none⟩), .pointer (some ⟨w.heap.size + 1 + 1, 0, none⟩)]] 61)).alloc (.cells #[.func (.func 38) #[] #[.pointer (some ⟨w.heap.size + 1 + 1 + 1, 0, none⟩), .pointer (some ⟨w.heap.size + 1 + 1 + 1 + 1, 0, none⟩)]] 61)).alloc (.cells #[.string ⟨#[123, 125, 40, 41, 58, 59, 44, 61, 46]⟩] 9)) = W1 at *
    refine HL.out.mono ?_
    rintro e w' ⟨rfl, rfl⟩
    go_wp2_with fail
    refine HD.out.mono ?_
    rintro e w' ⟨rfl, rfl⟩
    go_wp2_with fail
    refine HT.out.mono ?_
    rintro e w' ⟨rfl, rfl⟩
    go_wp2_with fail
    refine HN.out.mono ?_
    rintro e W2 ⟨rfl, hb2⟩
    have HR2 := hide (HR2.out.on hb2 (Nat.le_refl _))
    obtain ⟨k0, k1, k2, k3, k4, k5⟩ := HR2.out.cells
    clear hb2
    go_wp2_with fail
    refine bodyPost_ret (results_cell_row (fn := Tryd.f22) rfl _ _ w.heap.size _ _ (0, 0) _ rfl (HR2.out.made _ _ _ _ _) Tryd.underlying24 rfl tok_info) rfl ?_
    exact ⟨congrArg Ending.returned HV.out.symm, HR2.out.done _ _ _ _ _⟩
  | some z =>
    rw [hnum] at HN HV0
    have HV := hide (show fstV s (fstF (byt s)) = .agg #[.int .i64 2, .string (s.extract 0 n), .int .i64 z, .int .i64 0, .int .i64 0] from HV0.out)
    unfold numV at HN
    unfold tokV at HN
    clear hs hc0 hE hl hd hn hdr hsub hnum HV0
    go_enter Tryd.func22, Tryd.ntmps22
    go_wp2_with (first
      | (go_at_call 31; refine (betw_at _ _ _).mono ?_; rintro e w' ⟨rfl, rfl⟩)
      | (go_at_call 29; refine (among_at _ _).mono ?_; rintro e w' ⟨rfl, rfl⟩))
    generalize ((((((((w.alloc (.cells #[.int .i64 0, .string ⟨#[]⟩, .int .i64 0, .int .i64 0, .int .i64 0] 24)).alloc (.cells #[.int .u8 97] 5)).alloc (.cells #[.int .u8 122] 5)).alloc (.cells #[.int .u8 48] 5)).alloc (.cells #[.int .u8 57] 5)).alloc (.cells #[.func (.func 38) #[] #[.pointer (some ⟨w.heap.size + 1, 0, none⟩), .pointer (some ⟨w.heap.size + 1 + 1, 0, none⟩)]] 61)).alloc (.cells #[.func (.func 38) #[] #[.pointer (some ⟨w.heap.size + 1 + 1 + 1, 0, none⟩), .pointer (some ⟨w.heap.size + 1 + 1 + 1 + 1, 0, none⟩)]] 61)).alloc (.cells #[.string ⟨#[123, 125, 40, 41, 58, 59, 44, 61, 46]⟩] 9)) = W1 at *
    refine HL.out.mono ?_
    rintro e w' ⟨rfl, rfl⟩
    go_wp2_with fail
    refine HD.out.mono ?_
    rintro e w' ⟨rfl, rfl⟩
    go_wp2_with fail
    refine HT.out.mono ?_
    rintro e w' ⟨rfl, rfl⟩
    go_wp2_with fail
    refine HN.out.mono ?_
    rintro e W2 ⟨rfl, hb2⟩
    have HR2 := hide (HR2.out.on hb2 (Nat.le_refl _))
    obtain ⟨k0, k1, k2, k3, k4, k5⟩ := HR2.out.cells
    clear hb2
    go_wp2_with fail
    refine bodyPost_ret (results_cell_row (fn := Tryd.f22) rfl _ _ w.heap.size _ _ (0, 0) _ rfl (HR2.out.made _ _ _ _ _) Tryd.underlying24 rfl tok_info) rfl ?_
    exact ⟨congrArg Ending.returned HV.out.symm, HR2.out.done _ _ _ _ _⟩

set_option maxHeartbeats 4000000 in
theorem first_mark (s : ByteArray) (c : UInt8) (r : List UInt8) (hs : byt s = c :: r) (hz : s.size ≤ 140737488355328) (w : World) (hE : Env w) (hl : isL c = false) (hd : isD c = false) (hm : c ≠ 45) (hk : isM c = true) :
    Calls Tryd.prog 22 #[.string s] w fun e w' => e = .returned (fstV s (fstF (byt s))) ∧ Below w.heap.size w w' := by
  have hc0 : (byt s)[0]? = some c := by rw [hs]; rfl
  have hix := idx_at0 (s := s) (c := c) hc0
  unfold u8V at hix
  have hsz : 1 ≤ s.size := by rw [← byt_len, hs]; simp
  have HF := hide (fw_new w)
  have HL := hide (letter_at c _ _ _ HF.out.l)
  have HD := hide (digit_at c _ _ _ HF.out.d)
  have HK := hide (mark_at c _ _ HF.out.km)
  have HE := hide (hE.below HF.out.res.bel (Nat.le_refl _))
  have hbl : w.heap.size + 1 + 1 + 1 + 1 + 1 < ((((((((w.alloc (.cells #[.int .i64 0, .string ⟨#[]⟩, .int .i64 0, .int .i64 0, .int .i64 0] 24)).alloc (.cells #[.int .u8 97] 5)).alloc (.cells #[.int .u8 122] 5)).alloc (.cells #[.int .u8 48] 5)).alloc (.cells #[.int .u8 57] 5)).alloc (.cells #[.func (.func 38) #[] #[.pointer (some ⟨w.heap.size + 1, 0, none⟩), .pointer (some ⟨w.heap.size + 1 + 1, 0, none⟩)]] 61)).alloc (.cells #[.func (.func 38) #[] #[.pointer (some ⟨w.heap.size + 1 + 1 + 1, 0, none⟩), .pointer (some ⟨w.heap.size + 1 + 1 + 1 + 1, 0, none⟩)]] 61)).alloc (.cells #[.string ⟨#[123, 125, 40, 41, 58, 59, 44, 61, 46]⟩] 9)).heap.size := World.block_lt_of_cell? _ _ HF.out.fl
  have hbd : w.heap.size + 1 + 1 + 1 + 1 + 1 + 1 < ((((((((w.alloc (.cells #[.int .i64 0, .string ⟨#[]⟩, .int .i64 0, .int .i64 0, .int .i64 0] 24)).alloc (.cells #[.int .u8 97] 5)).alloc (.cells #[.int .u8 122] 5)).alloc (.cells #[.int .u8 48] 5)).alloc (.cells #[.int .u8 57] 5)).alloc (.cells #[.func (.func 38) #[] #[.pointer (some ⟨w.heap.size + 1, 0, none⟩), .pointer (some ⟨w.heap.size + 1 + 1, 0, none⟩)]] 61)).alloc (.cells #[.func (.func 38) #[] #[.pointer (some ⟨w.heap.size + 1 + 1 + 1, 0, none⟩), .pointer (some ⟨w.heap.size + 1 + 1 + 1 + 1, 0, none⟩)]] 61)).alloc (.cells #[.string ⟨#[123, 125, 40, 41, 58, 59, 44, 61, 46]⟩] 9)).heap.size := World.block_lt_of_cell? _ _ HF.out.fd
  have hbm : w.heap.size + 1 + 1 + 1 + 1 + 1 + 1 + 1 < ((((((((w.alloc (.cells #[.int .i64 0, .string ⟨#[]⟩, .int .i64 0, .int .i64 0, .int .i64 0] 24)).alloc (.cells #[.int .u8 97] 5)).alloc (.cells #[.int .u8 122] 5)).alloc (.cells #[.int .u8 48] 5)).alloc (.cells #[.int .u8 57] 5)).alloc (.cells #[.func (.func 38) #[] #[.pointer (some ⟨w.heap.size + 1, 0, none⟩), .pointer (some ⟨w.heap.size + 1 + 1, 0, none⟩)]] 61)).alloc (.cells #[.func (.func 38) #[] #[.pointer (some ⟨w.heap.size + 1 + 1 + 1, 0, none⟩), .pointer (some ⟨w.heap.size + 1 + 1 + 1 + 1, 0, none⟩)]] 61)).alloc (.cells #[.string ⟨#[123, 125, 40, 41, 58, 59, 44, 61, 46]⟩] 9)).heap.size := World.block_lt_of_cell? _ _ HF.out.km
  have cl := HF.out.fl
  have cd := HF.out.fd
  have cm := HF.out.km
  have HR2 := hide HF.out.res
  unfold betw at cl cd
  unfold u8V at HL HD HK
  rw [hl] at HL
  rw [hd] at HD
  rw [hk] at HK
  have hmm : (((c.toNat : Nat) : Int) == 45) = false := by
    rw [show (((c.toNat : Nat) : Int) == 45) = decide (c.toNat = 45) from nat_beq _ 45, decide_eq_false]
    exact fun e => hm (UInt8.toNat_inj.1 (by rw [e]; rfl))
  have hmm2 : ¬ ((c.toNat : Nat) : Int) = 45 := by simpa using hmm
  have HV := hide (show fstV s (fstF (byt s)) = .agg #[.int .i64 3, .string (s.extract 0 1), .int .i64 0, .int .i64 0, .int .i64 0] by
    rw [hs, fstF_cons, if_neg (by simp [hl]), if_neg (by rintro (h | h); simp [hd] at h; exact hm h), if_pos hk]; rfl)
  obtain ⟨k0, k1, k2, k3, k4, k5⟩ := HF.out.res.cells
  have h1s : (1 : Int) ≤ (s.size : Nat) := by omega
  clear hs hc0 hE hl hd hm hk
  go_enter Tryd.func22, Tryd.ntmps22
  go_wp2_with (first
    | (go_at_call 31; refine (betw_at _ _ _).mono ?_; rintro e w' ⟨rfl, rfl⟩)
    | (go_at_call 29; refine (among_at _ _).mono ?_; rintro e w' ⟨rfl, rfl⟩))
  generalize ((((((((w.alloc (.cells #[.int .i64 0, .string ⟨#[]⟩, .int .i64 0, .int .i64 0, .int .i64 0] 24)).alloc (.cells #[.int .u8 97] 5)).alloc (.cells #[.int .u8 122] 5)).alloc (.cells #[.int .u8 48] 5)).alloc (.cells #[.int .u8 57] 5)).alloc (.cells #[.func (.func 38) #[] #[.pointer (some ⟨w.heap.size + 1, 0, none⟩), .pointer (some ⟨w.heap.size + 1 + 1, 0, none⟩)]] 61)).alloc (.cells #[.func (.func 38) #[] #[.pointer (some ⟨w.heap.size + 1 + 1 + 1, 0, none⟩), .pointer (some ⟨w.heap.size + 1 + 1 + 1 + 1, 0, none⟩)]] 61)).alloc (.cells #[.string ⟨#[123, 125, 40, 41, 58, 59, 44, 61, 46]⟩] 9)) = W1 at *
  refine HL.out.mono ?_
  rintro e w' ⟨rfl, rfl⟩
  go_wp2_with fail
  refine HD.out.mono ?_
  rintro e w' ⟨rfl, rfl⟩
  go_wp2_with fail
  refine HK.out.mono ?_
  rintro e w' ⟨rfl, rfl⟩
  go_wp2_with fail
  refine bodyPost_ret (results_cell_row (fn := Tryd.f22) rfl _ _ w.heap.size _ _ (0, 0) _ rfl (HR2.out.made _ _ _ _ _) Tryd.underlying24 rfl tok_info) rfl ?_
  exact ⟨congrArg Ending.returned HV.out.symm, HR2.out.done _ _ _ _ _⟩

set_option maxHeartbeats 4000000 in
theorem first_none (s : ByteArray) (c : UInt8) (r : List UInt8) (hs : byt s = c :: r) (hz : s.size ≤ 140737488355328) (w : World) (hE : Env w) (hl : isL c = false) (hd : isD c = false) (hm : c ≠ 45) (hk : isM c = false) :
    Calls Tryd.prog 22 #[.string s] w fun e w' => e = .returned (fstV s (fstF (byt s))) ∧ Below w.heap.size w w' := by
  have hc0 : (byt s)[0]? = some c := by rw [hs]; rfl
  have hix := idx_at0 (s := s) (c := c) hc0
  unfold u8V at hix
  have hsz : 1 ≤ s.size := by rw [← byt_len, hs]; simp
  have HF := hide (fw_new w)
  have HL := hide (letter_at c _ _ _ HF.out.l)
  have HD := hide (digit_at c _ _ _ HF.out.d)
  have HK := hide (mark_at c _ _ HF.out.km)
  have HE := hide (hE.below HF.out.res.bel (Nat.le_refl _))
  have hbl : w.heap.size + 1 + 1 + 1 + 1 + 1 < ((((((((w.alloc (.cells #[.int .i64 0, .string ⟨#[]⟩, .int .i64 0, .int .i64 0, .int .i64 0] 24)).alloc (.cells #[.int .u8 97] 5)).alloc (.cells #[.int .u8 122] 5)).alloc (.cells #[.int .u8 48] 5)).alloc (.cells #[.int .u8 57] 5)).alloc (.cells #[.func (.func 38) #[] #[.pointer (some ⟨w.heap.size + 1, 0, none⟩), .pointer (some ⟨w.heap.size + 1 + 1, 0, none⟩)]] 61)).alloc (.cells #[.func (.func 38) #[] #[.pointer (some ⟨w.heap.size + 1 + 1 + 1, 0, none⟩), .pointer (some ⟨w.heap.size + 1 + 1 + 1 + 1, 0, none⟩)]] 61)).alloc (.cells #[.string ⟨#[123, 125, 40, 41, 58, 59, 44, 61, 46]⟩] 9)).heap.size := World.block_lt_of_cell? _ _ HF.out.fl
  have hbd : w.heap.size + 1 + 1 + 1 + 1 + 1 + 1 < ((((((((w.alloc (.cells #[.int .i64 0, .string ⟨#[]⟩, .int .i64 0, .int .i64 0, .int .i64 0] 24)).alloc (.cells #[.int .u8 97] 5)).alloc (.cells #[.int .u8 122] 5)).alloc (.cells #[.int .u8 48] 5)).alloc (.cells #[.int .u8 57] 5)).alloc (.cells #[.func (.func 38) #[] #[.pointer (some ⟨w.heap.size + 1, 0, none⟩), .pointer (some ⟨w.heap.size + 1 + 1, 0, none⟩)]] 61)).alloc (.cells #[.func (.func 38) #[] #[.pointer (some ⟨w.heap.size + 1 + 1 + 1, 0, none⟩), .pointer (some ⟨w.heap.size + 1 + 1 + 1 + 1, 0, none⟩)]] 61)).alloc (.cells #[.string ⟨#[123, 125, 40, 41, 58, 59, 44, 61, 46]⟩] 9)).heap.size := World.block_lt_of_cell? _ _ HF.out.fd
  have hbm : w.heap.size + 1 + 1 + 1 + 1 + 1 + 1 + 1 < ((((((((w.alloc (.cells #[.int .i64 0, .string ⟨#[]⟩, .int .i64 0, .int .i64 0, .int .i64 0] 24)).alloc (.cells #[.int .u8 97] 5)).alloc (.cells #[.int .u8 122] 5)).alloc (.cells #[.int .u8 48] 5)).alloc (.cells #[.int .u8 57] 5)).alloc (.cells #[.func (.func 38) #[] #[.pointer (some ⟨w.heap.size + 1, 0, none⟩), .pointer (some ⟨w.heap.size + 1 + 1, 0, none⟩)]] 61)).alloc (.cells #[.func (.func 38) #[] #[.pointer (some ⟨w.heap.size + 1 + 1 + 1, 0, none⟩), .pointer (some ⟨w.heap.size + 1 + 1 + 1 + 1, 0, none⟩)]] 61)).alloc (.cells #[.string ⟨#[123, 125, 40, 41, 58, 59, 44, 61, 46]⟩] 9)).heap.size := World.block_lt_of_cell? _ _ HF.out.km
  have cl := HF.out.fl
  have cd := HF.out.fd
  have cm := HF.out.km
  have HR2 := hide HF.out.res
  unfold betw at cl cd
  unfold u8V at HL HD HK
  rw [hl] at HL
  rw [hd] at HD
  rw [hk] at HK
  have hmm : (((c.toNat : Nat) : Int) == 45) = false := by
    rw [show (((c.toNat : Nat) : Int) == 45) = decide (c.toNat = 45) from nat_beq _ 45, decide_eq_false]
    exact fun e => hm (UInt8.toNat_inj.1 (by rw [e]; rfl))
  have hmm2 : ¬ ((c.toNat : Nat) : Int) = 45 := by simpa using hmm
  have HV := hide (show fstV s (fstF (byt s)) = .agg #[.int .i64 0, .string ⟨#[]⟩, .int .i64 0, .int .i64 0, .int .i64 0] by
    rw [hs, fstF_cons, if_neg (by simp [hl]), if_neg (by rintro (h | h); simp [hd] at h; exact hm h), if_neg (by simp [hk])]; rfl)
  obtain ⟨k0, k1, k2, k3, k4, k5⟩ := HF.out.res.cells
  have h1s : (1 : Int) ≤ (s.size : Nat) := by omega
  clear hs hc0 hE hl hd hm hk
  go_enter Tryd.func22, Tryd.ntmps22
  go_wp2_with (first
    | (go_at_call 31; refine (betw_at _ _ _).mono ?_; rintro e w' ⟨rfl, rfl⟩)
    | (go_at_call 29; refine (among_at _ _).mono ?_; rintro e w' ⟨rfl, rfl⟩))
  generalize ((((((((w.alloc (.cells #[.int .i64 0, .string ⟨#[]⟩, .int .i64 0, .int .i64 0, .int .i64 0] 24)).alloc (.cells #[.int .u8 97] 5)).alloc (.cells #[.int .u8 122] 5)).alloc (.cells #[.int .u8 48] 5)).alloc (.cells #[.int .u8 57] 5)).alloc (.cells #[.func (.func 38) #[] #[.pointer (some ⟨w.heap.size + 1, 0, none⟩), .pointer (some ⟨w.heap.size + 1 + 1, 0, none⟩)]] 61)).alloc (.cells #[.func (.func 38) #[] #[.pointer (some ⟨w.heap.size + 1 + 1 + 1, 0, none⟩), .pointer (some ⟨w.heap.size + 1 + 1 + 1 + 1, 0, none⟩)]] 61)).alloc (.cells #[.string ⟨#[123, 125, 40, 41, 58, 59, 44, 61, 46]⟩] 9)) = W1 at *
  refine HL.out.mono ?_
  rintro e w' ⟨rfl, rfl⟩
  go_wp2_with fail
  refine HD.out.mono ?_
  rintro e w' ⟨rfl, rfl⟩
  go_wp2_with fail
  refine HK.out.mono ?_
  rintro e w' ⟨rfl, rfl⟩
  go_wp2_with fail
  refine bodyPost_ret (results_cell_row (fn := Tryd.f22) rfl _ _ w.heap.size _ _ (0, 0) _ rfl (HR2.out.made _ _ _ _ _) Tryd.underlying24 rfl tok_info) rfl ?_
  exact ⟨congrArg Ending.returned HV.out.symm, HR2.out.done _ _ _ _ _⟩

theorem first_at (s : ByteArray) (c : UInt8) (r : List UInt8) (hs : byt s = c :: r) (hz : s.size ≤ 140737488355328) (w : World) (hE : Env w) :
    Calls Tryd.prog 22 #[.string s] w fun e w' => e = .returned (fstV s (fstF (byt s))) ∧ Below w.heap.size w w' := by
  cases hl : isL c with
  | true => exact first_word s c r hs hz w hE hl
  | false =>
    cases hd : isD c with
    | true => exact first_digit s c r hs hz w hE hl hd
    | false =>
      by_cases hm : c = 45
      · exact first_minus s c r hs hz w hE hl hd hm
      · cases hk : isM c with
        | true => exact first_mark s c r hs hz w hE hl hd hm hk
        | false => exact first_none s c r hs hz w hE hl hd hm hk
end Go.Proofs.YtohmenghlboalaaDoor
