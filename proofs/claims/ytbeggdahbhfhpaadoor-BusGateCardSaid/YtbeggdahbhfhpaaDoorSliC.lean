/-
  Slices of bytes of the call's own that are never nil: their block, what is appended, what is stored, copies.
-/
import Derived.Test.YtbeggdahbhfhpaaDoorCorC
namespace Go.Proofs.YtbeggdahbhfhpaaDoor
open Go.RowKit
set_option linter.unusedVariables false

theorem over_lt (z : Int) (mask t : Nat) : over z mask t < 256 := by
  unfold over
  split
  · exact Nat.mod_lt _ (by decide)
  · decide
theorem corr_lt (b : List Nat) (z : Int) (mask : Nat) (h : ∀ c ∈ b, c < 256) : ∀ c ∈ corr b z mask, c < 256 := by
  intro c hc
  simp only [corr, List.mem_map, List.mem_range] at hc
  obtain ⟨t, ht, rfl⟩ := hc
  exact Nat.xor_lt_two_pow (n := 8) (getD_lt h t) (over_lt z mask t)
/-- frame.Corrupt, its answer of the call's own -/
theorem corr_own (b : List Nat) (n : Nat) (ad : Addr) (cap : Nat) (z : Int) (mask : Nat) (w : World) (hn : b.length = n) (hm : n ≤ 1000000) (hB : Bytes w (some ad) b) (hz : (Lit.int .i64 z).wf = true) (hmask : mask < 4294967296) :
    Calls Tryd.prog 101 #[.slice (some ad) n cap, .int .i64 z, .int .u32 mask] w fun e w' => ∃ g c, e = .returned (.slice (some ⟨g, 0, none⟩) n c) ∧ OwnS w' w.heap.size g n c (corr b z mask) ∧ Below w.heap.size w w' := by
  refine (corr_cap b n ad cap z mask w hn hm hB hz hmask).mono ?_
  rintro e w' ⟨A, c, rfl, hnc, hcm, hM, ⟨g, cur, rfl, hg, hh, hs⟩, hb⟩
  refine ⟨g, c, rfl, ?_, hb⟩
  have hR : Row w' g n (fun t => (corr b z mask).getD t 0) := by
    rcases hM with h | ⟨g', h1, _, h2⟩
    · exact ⟨(Array.getElem?_eq_some_iff.1 hh).1, fun t ht => by omega⟩
    · injection h1 with h1; injection h1 with h1; subst h1; exact h2
  have h := OwnS.of_row hh hs hR (fun t ht => getD_lt (corr_lt b z mask hB.1) t) hg hnc hcm
  rwa [show (List.range n).map (fun t => (corr b z mask).getD t 0) = corr b z mask by
    refine ext_getD (by simp [corr_len, hn]) (fun t ht => ?_)
    rw [List.getD_eq_getElem?_getD, List.getElem?_map, List.getElem?_range (by simpa using ht)]; rfl] at h
end Go.Proofs.YtbeggdahbhfhpaaDoor
