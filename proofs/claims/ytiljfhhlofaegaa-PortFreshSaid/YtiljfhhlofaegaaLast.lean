/-
  The walk of PortLast.
-/
import Derived.Test.YtiljfhhlofaegaaAlive
namespace Go.Proofs.Ytiljfhhlofaegaa
open Go.RowKit Go.Shelf
set_option linter.unusedVariables false

theorem i64_id {z : Int} (h0 : 0 ≤ z) (h1 : z < 4294967296) : IntKind.i64.wrap z = z := by
  rw [IntKind.wrap_i64]
  omega
theorem sub_i64 (n : Nat) (h1 : 1 ≤ n) (h2 : n ≤ 32) : IntKind.i64.wrap ((n : Int) - 1) = (n : Int) - 1 := i64_id (by omega) (by omega)

set_option maxRecDepth 100000 in
theorem most_at (a m : Nat) (w : World) (ha : a < 256) (hm : 1 ≤ m ∧ m ≤ 1000) : Calls Try.prog 23 #[.int .u8 a, .int .i64 m] w fun e w' => e = .returned (.int .i64 ((1 + a % m : Nat) : Int)) ∧ w = w' := by
  have h0 : ¬ ((m : Int) = 0) := by omega
  have h1 : IntKind.i64.wrap (a : Int) = (a : Int) := i64_id (by omega) (by omega)
  have hlt : a % m < 1000 := Nat.lt_of_lt_of_le (Nat.mod_lt a (by omega)) hm.2
  obtain ⟨q, hq⟩ : ∃ q, a % m = q := ⟨_, rfl⟩
  have h4 : (a : Int).tmod (m : Int) = (q : Int) := by rw [← hq]; rfl
  rw [hq] at hlt ⊢
  have h2 : IntKind.i64.wrap (q : Int) = (q : Int) := i64_id (by omega) (by omega)
  have h3 : IntKind.i64.wrap (1 + (q : Int)) = ((1 + q : Nat) : Int) := by rw [i64_id (by omega) (by omega)]; simp
  go_enter Try.func23, Try.ntmps23
  go_wp2
  go_ret
  exact ⟨rfl, rfl⟩

/-- a sampling port that sends -/
def ls (s : Int) : Prm := ⟨0, 1, 1, s, 0, 0, 0, 0, 0, 0, .func (.func 39) #[] #[], .func (.func 40) #[] #[]⟩
theorem new_last (s : Int) (w : World) (hs : 1 ≤ s ∧ s ≤ 32) : Calls Try.prog 10 #[.agg #[.int .i64 0, .int .i64 1, .int .i64 1, .int .i64 s, .int .i64 0, .int .i64 0]] w fun e' w' => (∃ b, e' = .returned (.tuple #[.pointer (some ⟨b, 0, none⟩), .int .i64 0]) ∧ BoxW w' w.heap.size b (ls s) (.slice none 0 0) [] false) ∧ Below w.heap.size w w' := by
  refine (new_at 0 1 1 s 0 0 0 0 0 0 (.func (.func 39) #[] #[]) (.func (.func 40) #[] #[]) _ true w rfl (by simp [Value.oneCell']) rfl rfl true (by simp [hs])).mono ?_
  rintro e' w' ⟨⟨h1, _⟩, h2⟩
  obtain ⟨b, h3, h4, h5⟩ := h1 rfl
  exact ⟨⟨b, h3, BoxW.new h4 h5⟩, h2⟩

def laV (g n k u : Nat) (S : Value) (P : Addr) (j : Nat) : Value :=
  match j with
  | 0 | 1 => .slice (some ⟨g, 0, none⟩) n n
  | 2 => .int .i64 n
  | 3 => .int .i64 ((n : Int) - 1)
  | 4 | 8 => S
  | 5 | 9 => .int .i64 k
  | 6 | 10 => .pointer (some P)
  | 7 | 11 => .int .u8 u
  | 12 => .pointer (some ⟨g, 0, none⟩)
  | 14 => .pointer (some ⟨g, n - 1, none⟩)
  | _ => undef
def laF (g n k u : Nat) (S : Value) (P : Addr) (j : Nat) (vals : Nat → Value) (W : World) : Prop := (j = 13 ∨ 15 ≤ j) ∨ vals j = laV g n k u S P j
def laM (j : Nat) : List Nat := if 16 ≤ j then [] else [j]
theorem laF_sup {g n k u : Nat} {S : Value} {P : Addr} : ∀ j vals vals' W, (∀ i ∈ laM j, vals i = vals' i) → laF g n k u S P j vals W → laF g n k u S P j vals' W := by
  intro j vals vals' W h hF
  rcases hF with hF | hF
  · exact .inl hF
  · by_cases h1 : 16 ≤ j
    · exact .inl (.inr (by omega))
    · unfold laM at h
      rw [if_neg h1] at h
      exact .inr (by rw [← h j (by simp)]; exact hF)

set_option maxRecDepth 100000 in
set_option maxHeartbeats 2000000 in
theorem last_any (a : Nat) (l : List Nat) (N : Nat) (A : Option Addr) (cap : Nat) (w : World) (ha : a < 256) (hN : l.length = N) (hcap : N ≤ cap) (hmax : cap ≤ maxLen) (hB : Bytes w A l) :
    Calls Try.prog 9 #[.int .u8 a, .slice A N cap] w fun e w' => e = .returned (.bool true) ∧ Below w.heap.size w w' := by
  unfold maxLen at hmax
  have HL := hide hB
  have HN := hide hN
  clear hB hN
  go_enter Try.func9, Try.ntmps9
  go_wp2_with fail
  refine (alive_any w).mono ?_
  rintro e w1 ⟨rfl, hb1⟩
  have B1 := hide hb1
  have hz1 := hb1.size
  clear hb1
  by_cases hlen : 500 < N
  · go_wp2
    go_ret
    exact ⟨rfl, B1.out⟩
  go_wp2_with fail
  refine (most_at a 32 w1 ha (by omega)).mono ?_
  rintro e w' ⟨rfl, rfl⟩
  obtain ⟨n, hn⟩ : ∃ n, 1 + a % 32 = n := ⟨_, rfl⟩
  have hn1 : 1 ≤ n := by omega
  have hn32 : n ≤ 32 := by omega
  rw [hn]
  go_wp2_with (first
    | (refine wpList_built rfl 23 _ rfl #[.int .i64 0, .int .i64 1, .int .i64 1, .int .i64 n, .int .i64 0, .int .i64 0] (by kernel_rfl) ?_))
  refine (new_last n w1 (by omega)).mono ?_
  rintro e w2 ⟨⟨b, rfl, x0⟩, hb2⟩
  have B2 := hide (B1.out.trans (hb2.mono hz1))
  have hz2 := hb2.size
  have X0 := hide x0
  clear hb2 x0
  go_wp2_with fail
  refine (take_last_none X0.out rfl rfl).mono ?_
  rintro e w3 ⟨rfl, hb3⟩
  have B3 := hide (B2.out.trans (hb3.mono (by omega)))
  have X3 := hide (X0.out.later hb3)
  have hz3 := hb3.size
  have hb0 : w1.heap.size ≤ w2.heap.size := hz2
  clear hb3 X0
  go_wp2_with fail
  refine (len_at X3.out).mono ?_
  rintro e w' ⟨rfl, rfl⟩
  go_wp2_with fail
  go_loopw [11] (fun i wr => ∃ (k : Nat) (ms : List Msg) (h : Value), k ≤ N ∧ i = .int .i64 k ∧ BoxW wr w1.heap.size b (ls n) h ms false ∧ Below w.heap.size w wr) (fun i _ => N - (intOf i).toNat)
  case atStart => exact ⟨0, [], _, by omega, rfl, X3.out, B3.out⟩
  case round =>
    obtain ⟨k, ms, h, hk, rfl, x, hbr⟩ := hrel
    have X := hide x; have BR := hide hbr
    have hzr := hbr.size
    clear x hbr X3
    by_cases hlt : k < N
    · have hkN : k < N := hlt
      have HB := hide (HL.out.of_below BR.out (Nat.le_refl _))
      obtain ⟨bA, off, rfl, hbA, hcl⟩ := HB.out.at (k := k) (by rw [HN.out]; exact hlt)
      obtain ⟨u, hu0⟩ : ∃ u, l.getD k 0 = u := ⟨_, rfl⟩
      have hu : u < 256 := by rw [← hu0]; exact HL.out.byte k
      have HC := hide (show wr.cell? ⟨bA, off + k, none⟩ = some (.int .u8 u) by rw [← hu0]; exact hcl k (by rw [HN.out]; exact hlt))
      have hmk := make_bytes n (by omega)
      have HO := hide (OwnS.of_row (w := wr.alloc (.cells (zrow n) 5)) (base := wr.heap.size) (heap_alloc_new wr _) (by simp [zrow, madeCells, Value.cells]) (Row.made wr n 5) (by simp) (Nat.le_refl _) (Nat.le_refl _) (by unfold maxLen; omega))
      have HBW := hide (bal wr (.cells (zrow n) 5))
      clear hcl hu0
      go_wp2_with fail
      refine wp_region_factsW (fun W => (∃ l', OwnS W wr.heap.size wr.heap.size n n l') ∧ Below wr.heap.size wr W) (laF wr.heap.size n k u (.slice (some ⟨bA, off, none⟩) N cap) ⟨bA, off + k, none⟩) (fun _ => 100) laM ?m0 ?mb laF_sup (by kernel_rfl) (by kernel_rfl) ⟨⟨_, HO.out.drew⟩, below_drewN HBW.out 1⟩ ?ini ?steps ?fin
      case m0 =>
        intro j hj
        have hj' : 16 ≤ j := hj
        unfold laM; rw [if_pos hj']
      case mb =>
        intro j i hi hij
        unfold laM at hi
        split at hi
        · cases hi
        · exact absurd (List.mem_singleton.1 hi) hij
      case ini =>
        intro j hj
        have hj' : 16 ≤ j := hj
        exact .inl (.inr (by omega))
      case steps =>
        refine AllFrom.cons (step_isW (by kernel_rfl) ?s0) (AllFrom.cons (i := 1) (step_isW (by kernel_rfl) ?s1) (AllFrom.cons (i := 2) (step_isW (by kernel_rfl) ?s2) (AllFrom.cons (i := 3) (step_isW (by kernel_rfl) ?s3) (AllFrom.cons (i := 4) (step_isW (by kernel_rfl) ?s4) (AllFrom.cons (i := 5) (step_isW (by kernel_rfl) ?s5) (AllFrom.cons (i := 6) (step_isW (by kernel_rfl) ?s6) (AllFrom.cons (i := 7) (step_isW (by kernel_rfl) ?s7) (AllFrom.cons (i := 8) (step_isW (by kernel_rfl) ?s8) (AllFrom.cons (i := 9) (step_isW (by kernel_rfl) ?s9) (AllFrom.cons (i := 10) (step_isW (by kernel_rfl) ?s10) (AllFrom.cons (i := 11) (step_isW (by kernel_rfl) ?s11) (AllFrom.cons (i := 12) (step_isW (by kernel_rfl) ?s12) (AllFrom.cons (i := 13) (step_runW (by kernel_rfl) ?s13) (AllFrom.cons (i := 14) (step_isW (by kernel_rfl) ?s14) (AllFrom.cons (i := 15) (step_runW (by kernel_rfl) ?s15) (trivial))))))))))))))))
        case s0 =>
          intro L vals W ρ hI hi hdep hnew hold hc
          have e0 : ρ (.tmp 12) = .slice (some ⟨wr.heap.size, 0, none⟩) n n := (hold 12 (by kernel_rfl)).trans (by kernel_rfl)
          refine ⟨.slice (some ⟨wr.heap.size, 0, none⟩) n n, ?_, .inr (by simp [laV, upd])⟩
          simp [execOp, e0, go_sem]
        case s1 =>
          intro L vals W ρ hI hi hdep hnew hold hc
          have e0 : ρ (.tmp 12) = .slice (some ⟨wr.heap.size, 0, none⟩) n n := (hold 12 (by kernel_rfl)).trans (by kernel_rfl)
          refine ⟨.slice (some ⟨wr.heap.size, 0, none⟩) n n, ?_, .inr (by simp [laV, upd])⟩
          simp [execOp, e0, go_sem]
        case s2 =>
          intro L vals W ρ hI hi hdep hnew hold hc
          have e0 : ρ (.tmp 6) = .int .i64 n := (hold 6 (by kernel_rfl)).trans (by kernel_rfl)
          refine ⟨.int .i64 n, ?_, .inr (by simp [laV, upd])⟩
          simp [execOp, e0, go_sem]
        case s3 =>
          intro L vals W ρ hI hi hdep hnew hold hc
          have e0 : ρ (.tmp 57) = .int .i64 n := (hnew 2 57 (dep hdep 2 (by kernel_rfl)) (by kernel_rfl) (of_decide_eq_true (by kernel_rfl)) (of_decide_eq_true (by kernel_rfl))).trans ((hI.fact 2 (.inr (dep hdep 2 (by kernel_rfl))) (neverW hI (of_decide_eq_true (by kernel_rfl)))).resolve_left (by omega))
          refine ⟨.int .i64 ((n : Int) - 1), ?_, .inr (by simp [laV, upd])⟩
          simp [execOp, e0, go_sem, hc, sub_i64 n hn1 hn32]
        case s4 =>
          intro L vals W ρ hI hi hdep hnew hold hc
          have e0 : ρ (.tmp 1) = (.slice (some ⟨bA, off, none⟩) N cap) := (hold 1 (by kernel_rfl)).trans (by kernel_rfl)
          refine ⟨(.slice (some ⟨bA, off, none⟩) N cap), ?_, .inr (by simp [laV, upd])⟩
          simp [execOp, e0, go_sem]
        case s5 =>
          intro L vals W ρ hI hi hdep hnew hold hc
          have e0 : ρ (.tmp 11) = .int .i64 k := (hold 11 (by kernel_rfl)).trans (by kernel_rfl)
          refine ⟨.int .i64 k, ?_, .inr (by simp [laV, upd])⟩
          simp [execOp, e0, go_sem]
        case s6 =>
          intro L vals W ρ hI hi hdep hnew hold hc
          have e0 : ρ (.tmp 59) = (.slice (some ⟨bA, off, none⟩) N cap) := (hnew 4 59 (dep hdep 4 (by kernel_rfl)) (by kernel_rfl) (of_decide_eq_true (by kernel_rfl)) (of_decide_eq_true (by kernel_rfl))).trans ((hI.fact 4 (.inr (dep hdep 4 (by kernel_rfl))) (neverW hI (of_decide_eq_true (by kernel_rfl)))).resolve_left (by omega))
          have e1 : ρ (.tmp 60) = .int .i64 k := (hnew 5 60 (dep hdep 5 (by kernel_rfl)) (by kernel_rfl) (of_decide_eq_true (by kernel_rfl)) (of_decide_eq_true (by kernel_rfl))).trans ((hI.fact 5 (.inr (dep hdep 5 (by kernel_rfl))) (neverW hI (of_decide_eq_true (by kernel_rfl)))).resolve_left (by omega))
          refine ⟨.pointer (some ⟨bA, off + k, none⟩), ?_, .inr (by simp [laV, upd])⟩
          simp [execOp, e0, e1, go_sem, hkN, Int.toNat_natCast]
        case s7 =>
          intro L vals W ρ hI hi hdep hnew hold hc
          have e0 : ρ (.tmp 61) = .pointer (some ⟨bA, off + k, none⟩) := (hnew 6 61 (dep hdep 6 (by kernel_rfl)) (by kernel_rfl) (of_decide_eq_true (by kernel_rfl)) (of_decide_eq_true (by kernel_rfl))).trans ((hI.fact 6 (.inr (dep hdep 6 (by kernel_rfl))) (neverW hI (of_decide_eq_true (by kernel_rfl)))).resolve_left (by omega))
          have c : W.cell? ⟨bA, off + k, none⟩ = some (.int .u8 u) := (hI.com.2.cell (p := ⟨bA, off + k, none⟩) hbA).trans HC.out
          refine ⟨.int .u8 u, ?_, .inr (by simp [laV, upd])⟩
          simp [execOp, e0, go_sem, c]
        case s8 =>
          intro L vals W ρ hI hi hdep hnew hold hc
          have e0 : ρ (.tmp 1) = (.slice (some ⟨bA, off, none⟩) N cap) := (hold 1 (by kernel_rfl)).trans (by kernel_rfl)
          refine ⟨(.slice (some ⟨bA, off, none⟩) N cap), ?_, .inr (by simp [laV, upd])⟩
          simp [execOp, e0, go_sem]
        case s9 =>
          intro L vals W ρ hI hi hdep hnew hold hc
          have e0 : ρ (.tmp 11) = .int .i64 k := (hold 11 (by kernel_rfl)).trans (by kernel_rfl)
          refine ⟨.int .i64 k, ?_, .inr (by simp [laV, upd])⟩
          simp [execOp, e0, go_sem]
        case s10 =>
          intro L vals W ρ hI hi hdep hnew hold hc
          have e0 : ρ (.tmp 63) = (.slice (some ⟨bA, off, none⟩) N cap) := (hnew 8 63 (dep hdep 8 (by kernel_rfl)) (by kernel_rfl) (of_decide_eq_true (by kernel_rfl)) (of_decide_eq_true (by kernel_rfl))).trans ((hI.fact 8 (.inr (dep hdep 8 (by kernel_rfl))) (neverW hI (of_decide_eq_true (by kernel_rfl)))).resolve_left (by omega))
          have e1 : ρ (.tmp 64) = .int .i64 k := (hnew 9 64 (dep hdep 9 (by kernel_rfl)) (by kernel_rfl) (of_decide_eq_true (by kernel_rfl)) (of_decide_eq_true (by kernel_rfl))).trans ((hI.fact 9 (.inr (dep hdep 9 (by kernel_rfl))) (neverW hI (of_decide_eq_true (by kernel_rfl)))).resolve_left (by omega))
          refine ⟨.pointer (some ⟨bA, off + k, none⟩), ?_, .inr (by simp [laV, upd])⟩
          simp [execOp, e0, e1, go_sem, hkN, Int.toNat_natCast]
        case s11 =>
          intro L vals W ρ hI hi hdep hnew hold hc
          have e0 : ρ (.tmp 65) = .pointer (some ⟨bA, off + k, none⟩) := (hnew 10 65 (dep hdep 10 (by kernel_rfl)) (by kernel_rfl) (of_decide_eq_true (by kernel_rfl)) (of_decide_eq_true (by kernel_rfl))).trans ((hI.fact 10 (.inr (dep hdep 10 (by kernel_rfl))) (neverW hI (of_decide_eq_true (by kernel_rfl)))).resolve_left (by omega))
          have c : W.cell? ⟨bA, off + k, none⟩ = some (.int .u8 u) := (hI.com.2.cell (p := ⟨bA, off + k, none⟩) hbA).trans HC.out
          refine ⟨.int .u8 u, ?_, .inr (by simp [laV, upd])⟩
          simp [execOp, e0, go_sem, c]
        case s12 =>
          intro L vals W ρ hI hi hdep hnew hold hc
          have e0 : ρ (.tmp 55) = .slice (some ⟨wr.heap.size, 0, none⟩) n n := (hnew 0 55 (dep hdep 0 (by kernel_rfl)) (by kernel_rfl) (of_decide_eq_true (by kernel_rfl)) (of_decide_eq_true (by kernel_rfl))).trans ((hI.fact 0 (.inr (dep hdep 0 (by kernel_rfl))) (neverW hI (of_decide_eq_true (by kernel_rfl)))).resolve_left (by omega))
          have hi1 : 0 < n := by omega
          refine ⟨.pointer (some ⟨wr.heap.size, 0, none⟩), ?_, .inr (by simp [laV, upd])⟩
          simp [execOp, e0, go_sem, hc, hi1]
        case s13 =>
          intro L vals W ρ hI hi hdep hnew hold hc
          have e0 : ρ (.tmp 67) = .pointer (some ⟨wr.heap.size, 0, none⟩) := (hnew 12 67 (dep hdep 12 (by kernel_rfl)) (by kernel_rfl) (of_decide_eq_true (by kernel_rfl)) (of_decide_eq_true (by kernel_rfl))).trans ((hI.fact 12 (.inr (dep hdep 12 (by kernel_rfl))) (neverW hI (of_decide_eq_true (by kernel_rfl)))).resolve_left (by omega))
          have e1 : ρ (.tmp 62) = .int .u8 u := (hnew 7 62 (dep hdep 7 (by kernel_rfl)) (by kernel_rfl) (of_decide_eq_true (by kernel_rfl)) (of_decide_eq_true (by kernel_rfl))).trans ((hI.fact 7 (.inr (dep hdep 7 (by kernel_rfl))) (neverW hI (of_decide_eq_true (by kernel_rfl)))).resolve_left (by omega))
          obtain ⟨⟨l', ho⟩, hb'⟩ := hI.com
          obtain ⟨c, f⟩ := ho.cell 0 (by omega)
          refine ⟨undef, W.setCell ⟨wr.heap.size, 0, none⟩ (.int .u8 u), .inr ⟨rfl, ?_⟩, ⟨⟨_, ho.store 0 u hu (by omega)⟩, hb'.setCell (p := ⟨wr.heap.size, 0, none⟩) ho.base _⟩, .inl (by omega), fun j _ _ hj hT => hI.fact j hj hT⟩
          simp [execOp, e0, e1, go_sem, c, f]
        case s14 =>
          intro L vals W ρ hI hi hdep hnew hold hc
          have e0 : ρ (.tmp 56) = .slice (some ⟨wr.heap.size, 0, none⟩) n n := (hnew 1 56 (dep hdep 1 (by kernel_rfl)) (by kernel_rfl) (of_decide_eq_true (by kernel_rfl)) (of_decide_eq_true (by kernel_rfl))).trans ((hI.fact 1 (.inr (dep hdep 1 (by kernel_rfl))) (neverW hI (of_decide_eq_true (by kernel_rfl)))).resolve_left (by omega))
          have e1 : ρ (.tmp 58) = .int .i64 ((n : Int) - 1) := (hnew 3 58 (dep hdep 3 (by kernel_rfl)) (by kernel_rfl) (of_decide_eq_true (by kernel_rfl)) (of_decide_eq_true (by kernel_rfl))).trans ((hI.fact 3 (.inr (dep hdep 3 (by kernel_rfl))) (neverW hI (of_decide_eq_true (by kernel_rfl)))).resolve_left (by omega))
          have hi1 : ((n : Int) - 1).toNat = n - 1 := by omega
          refine ⟨.pointer (some ⟨wr.heap.size, n - 1, none⟩), ?_, .inr (by simp [laV, upd])⟩
          simp [execOp, e0, e1, go_sem, hi1]
          intro hx; exact absurd (hx (by omega)) (by omega)
        case s15 =>
          intro L vals W ρ hI hi hdep hnew hold hc
          have e0 : ρ (.tmp 68) = .pointer (some ⟨wr.heap.size, n - 1, none⟩) := (hnew 14 68 (dep hdep 14 (by kernel_rfl)) (by kernel_rfl) (of_decide_eq_true (by kernel_rfl)) (of_decide_eq_true (by kernel_rfl))).trans ((hI.fact 14 (.inr (dep hdep 14 (by kernel_rfl))) (neverW hI (of_decide_eq_true (by kernel_rfl)))).resolve_left (by omega))
          have e1 : ρ (.tmp 66) = .int .u8 u := (hnew 11 66 (dep hdep 11 (by kernel_rfl)) (by kernel_rfl) (of_decide_eq_true (by kernel_rfl)) (of_decide_eq_true (by kernel_rfl))).trans ((hI.fact 11 (.inr (dep hdep 11 (by kernel_rfl))) (neverW hI (of_decide_eq_true (by kernel_rfl)))).resolve_left (by omega))
          obtain ⟨⟨l', ho⟩, hb'⟩ := hI.com
          obtain ⟨c, f⟩ := ho.cell (n - 1) (by omega)
          refine ⟨undef, W.setCell ⟨wr.heap.size, (n - 1), none⟩ (.int .u8 u), .inr ⟨rfl, ?_⟩, ⟨⟨_, ho.store (n - 1) u hu (by omega)⟩, hb'.setCell (p := ⟨wr.heap.size, (n - 1), none⟩) ho.base _⟩, .inl (by omega), fun j _ _ hj hT => hI.fact j hj hT⟩
          simp [execOp, e0, e1, go_sem, c, f]
      case fin =>
        intro vals W hC hF
        simp [canon, dstOf, Act.put]
        obtain ⟨⟨m0, ho⟩, hbw⟩ := hC
        clear hF HC hmk HO HBW
        have hzw := hbw.size
        have hxl := X.out.lt
        have hxo : ∀ k', h.ownBlock = some k' → k' < wr.heap.size := fun k' hk' => (X.out.own_lt hk').1
        have X5 := hide (X.out.later hbw)
        have BW := hide (BR.out.trans (hbw.mono hzr))
        have HO := hide ho
        clear hbw ho
        go_wp2_with fail
        refine (send_last X5.out rfl rfl m0 n ⟨wr.heap.size, 0, none⟩ n HO.out.len (by omega) rfl HO.out.bytes).mono ?_
        rintro e w6 ⟨rfl, h', m, hm1, hm2, x6, k6⟩
        have ho6 := HO.out.kept (k6.blk _ HO.out.blk (by omega) (fun e => by have := hxo _ e.symm; omega))
        have B6 := hide (BW.out.trans (k6.bel.mono hz1))
        have hz6 := k6.siz
        have X6 := hide x6; have HO6 := hide ho6
        have hmt : m.txt.length ≤ 1000000 := by rw [hm1, HO.out.len]; omega
        clear x6 k6 ho6 X5 HO hxo
        go_wp2_with fail
        refine (len_at X6.out).mono ?_
        rintro e w' ⟨rfl, rfl⟩
        go_wp2_with fail
        refine (take_last X6.out rfl rfl hmt).mono ?_
        rintro e w7 ⟨g1, c1, rfl, h7, b7⟩
        have X7 := hide (X6.out.later b7)
        have H7 := hide h7; have B7 := hide b7
        have hz7 := b7.size
        clear h7 b7
        go_wp2_with fail
        refine (take_last X7.out rfl rfl hmt).mono ?_
        rintro e w8 ⟨g2, c2, rfl, h8, b8⟩
        have st1 := str_of w8 (some ⟨g1, 0, none⟩) m.txt.length c1 m.txt (H7.out.later b8 H7.out.blk).bytes rfl
        have st2 := str_of w8 (some ⟨g2, 0, none⟩) m.txt.length c2 m.txt h8.bytes rfl
        have st0 := str_of w8 (some ⟨wr.heap.size, 0, none⟩) n n m0 ((HO6.out.later B7.out HO6.out.blk).later b8 (Nat.lt_of_lt_of_le HO6.out.blk hz7)).bytes HO6.out.len
        rw [hm1] at st1 st2
        have X8 := hide (X7.out.later b8)
        have B8 := hide ((B6.out.trans (B7.out.mono (by omega))).trans (b8.mono (by omega)))
        clear h8 b8 H7 B7 HO6 X7 X6
        go_wp2
        go_roundw
        case rel => exact ⟨k + 1, [m], h', by omega, by go_num, X8.out, B8.out⟩
        case measure => simp [intOf]; omega
    · obtain rfl : k = N := by omega
      go_wp2
      go_ret
      exact ⟨rfl, BR.out⟩
end Go.Proofs.Ytiljfhhlofaegaa
