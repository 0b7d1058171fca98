/-
  The chapter's first examples.
-/
import Derived.Test.YtelhbkjmaeglaaaSource
namespace Go.Proofs.Ytelhbkjmaeglaaa
open Go.RowKit Go.Shelf
set_option linter.unusedVariables false

theorem i64_id {z : Int} (h0 : 0 ≤ z) (h1 : z < 4294967296) : IntKind.i64.wrap z = z := by
  rw [IntKind.wrap_i64]
  omega
def zport : Array Value := #[.int .i64 0, .int .i64 0, .int .i64 0, .int .i64 0, .int .i64 0, .int .i64 0]
theorem info_port : (Try.prog.info? 23).map (fun i => (i.zero, i.size)) = some (some (.agg zport), 6) := by kernel_rfl
theorem port_info {cs : Array Value} (h : cs.size = 6) : (Try.prog.info? 23).map (·.size) = some cs.size := by rw [h]; exact (zero_of_info info_port).2
theorem results_port {fn : Func} {p : Tmp} (h : fn.results = #[.cell p 23]) (tmps : Array Value) (w : World) (g : Nat) (t : TypeId) (cs : Array Value) (fr : Nat × Nat)
    (hp : tmps.getD p undef = .pointer (some ⟨g, 0, none⟩)) (hg : w.heap[g]? = some (.cells cs t fr)) (hs : cs.size = 6) : (results fn tmps).run Try.prog w = .ok (.agg cs) w := by
  have hp' : tmps[p]?.getD undef = .pointer (some ⟨g, 0, none⟩) := by simpa using hp
  simp [results, h, hp', asAddr, run_loadVar_row w g t _ cs fr _ hg Try.underlying23 rfl (port_info hs)]

set_option maxRecDepth 100000 in
set_option maxHeartbeats 1000000 in
theorem queue_port (d s e : Int) (w : World) : Calls Try.prog 15 #[.int .i64 d, .int .i64 s, .int .i64 e] w fun e' w' => e' = .returned (.agg #[.int .i64 0, .int .i64 2, .int .i64 d, .int .i64 s, .int .i64 e, .int .i64 0]) ∧ Below w.heap.size w w' := by
  have hz := (zero_of_info info_port).1
  have hn := hide (heap_alloc_new w (.cells zport 23))
  go_enter Try.func15, Try.ntmps15
  go_wp2_with (first
    | (refine wpList_built rfl 23 _ rfl #[.int .i64 0, .int .i64 2, .int .i64 d, .int .i64 s, .int .i64 e, .int .i64 0] (by kernel_rfl) ?_)
    | (refine wpList_store_row rfl 23 (.tmp 6) (.tmp 10) rfl w.heap.size #[.int .i64 0, .int .i64 2, .int .i64 d, .int .i64 s, .int .i64 e, .int .i64 0] rfl rfl 23 _ hn.out (port_info rfl) rfl (by simp [Value.oneCell']) ?_))
  refine bodyPost_ret (results_port (fn := Try.f15) rfl _ _ w.heap.size 23 _ (0, 0) rfl (setRow_heap _ _ _ _ _ _ hn.out) rfl) rfl ⟨rfl, below_setRow (bal w _) (Nat.le_refl _) _⟩

/-- a queuing port that sends -/
def qs (s e : Int) : Prm := ⟨0, 2, 1, s, e, 0, 1, 8, 0, 0, .func (.func 42) #[] #[], .func (.func 43) #[] #[]⟩
theorem BoxW.new {W : World} {base b : Nat} {P : Prm} (hb : base ≤ b) (h : W.heap[b]? = some (.cells (bcs b P.pt P.k P.d P.s P.e P.f P.dl P.dm P.fl P.fm P.p P.g (.slice none 0 0) false) 63 (0, 0))) : BoxW W base b P (.slice none 0 0) [] false :=
  ⟨hb, h, ⟨rfl, .inl ⟨rfl, rfl⟩⟩, by simp⟩
theorem new_queue (s e : Int) (w : World) (hs : 1 ≤ s ∧ s ≤ 32) (he : 1 ≤ e ∧ e ≤ 8) : Calls Try.prog 10 #[.agg #[.int .i64 0, .int .i64 2, .int .i64 1, .int .i64 s, .int .i64 e, .int .i64 0]] w fun e' w' => (∃ b, e' = .returned (.tuple #[.pointer (some ⟨b, 0, none⟩), .int .i64 0]) ∧ BoxW w' w.heap.size b (qs s e) (.slice none 0 0) [] false) ∧ Below w.heap.size w w' := by
  refine (new_at 0 2 1 s e 0 1 8 0 0 (.func (.func 42) #[] #[]) (.func (.func 43) #[] #[]) _ true w rfl (by simp [Value.oneCell']) rfl rfl true (by simp [hs, he])).mono ?_
  rintro e' w' ⟨⟨h1, _⟩, h2⟩
  obtain ⟨b, h3, h4, h5⟩ := h1 rfl
  exact ⟨⟨b, h3, BoxW.new h4 h5⟩, h2⟩

set_option maxRecDepth 100000 in
set_option maxHeartbeats 2000000 in
theorem alive_any (w : World) : Calls Try.prog 22 #[] w fun e w' => e = .returned (.bool true) ∧ Below w.heap.size w w' := by
  go_enter Try.func22, Try.ntmps22
  go_wp2_with fail
  refine (queue_port 1 1 2 w).mono ?_
  rintro e w1 ⟨rfl, hb1⟩
  have hz1 := hb1.size
  go_wp2_with fail
  refine (new_queue 1 2 w1 (by omega) (by omega)).mono ?_
  rintro e w2 ⟨⟨b, rfl, x0⟩, hb2⟩
  have B2 := hide (hb1.trans (hb2.mono hz1))
  have hz2 := hb2.size
  have X0 := hide x0
  clear hb1 hb2 x0
  go_wp2_with fail
  refine (send_queue (X0.out.later (bal w2 (.cells #[.int .u8 5] 5))) rfl rfl [5] 1 ⟨w2.heap.size, 0, none⟩ 1 rfl (by omega) rfl (OwnS.made (base := 0) [5] (by simp) (by simp [maxLen]) (Nat.zero_le _)).bytes (by simp) (by decide)).mono ?_
  rintro e w3 (⟨_, rfl, h1, m1, t1, s1, _, x1, k1⟩ | ⟨h, _⟩)
  · have B3 := hide ((B2.out.alloc (by omega) (.cells #[.int .u8 5] 5)).trans (k1.bel.mono (by omega)))
    have hz3 := k1.siz
    have X1 := hide x1; have T1 := hide t1
    simp only [World.size_alloc] at hz3
    clear x1 k1 t1 s1
    go_wp2_with fail
    refine (send_queue (X1.out.later (bal w3 (.cells #[.int .u8 6] 5))) rfl rfl [6] 1 ⟨w3.heap.size, 0, none⟩ 1 rfl (by omega) rfl (OwnS.made (base := 0) [6] (by simp) (by simp [maxLen]) (Nat.zero_le _)).bytes (by simp) (by decide)).mono ?_
    rintro e w4 (⟨_, rfl, h2, m2, t2, s2, _, x2, k2⟩ | ⟨h, _⟩)
    · have B4 := hide ((B3.out.alloc (by omega) (.cells #[.int .u8 6] 5)).trans (k2.bel.mono (by omega)))
      have hz4 := k2.siz
      have X2 := hide x2
      simp only [World.size_alloc] at hz4
      clear x2 k2 t2 s2
      go_wp2_with fail
      refine (send_queue (X2.out.later (bal w4 (.cells #[.int .u8 7] 5))) rfl rfl [7] 1 ⟨w4.heap.size, 0, none⟩ 1 rfl (by omega) rfl (OwnS.made (base := 0) [7] (by simp) (by simp [maxLen]) (Nat.zero_le _)).bytes (by simp) (by decide)).mono ?_
      rintro e w5 (⟨h, _⟩ | ⟨_, rfl, x3, k3⟩)
      · exact absurd h (by simp [qs])
      · have B5 := hide ((B4.out.alloc (by omega) (.cells #[.int .u8 7] 5)).trans (k3.bel.mono (by omega)))
        have hz5 := k3.siz
        have X3 := hide x3
        simp only [World.size_alloc] at hz5
        clear x3 k3
        go_wp2_with fail
        refine (take_queue (m := m1) (ms := [m2]) X3.out rfl rfl (by rw [T1.out]; simp)).mono ?_
        rintro e w6 ⟨g', c', h', rfl, ho, x4, k4⟩
        have st := str_of w6 (some ⟨g', 0, none⟩) m1.txt.length c' m1.txt ho.bytes rfl
        have hstr : str [5] = ({ data := #[5] } : ByteArray) := by decide
        have hl1 : m1.txt.length = 1 := by rw [T1.out]; rfl
        have B6 := hide (B5.out.trans (k4.bel.mono (by omega)))
        have X4 := hide x4
        rw [hl1, T1.out, hstr] at st
        rw [hl1]
        clear x4 k4 ho
        go_wp2_with fail
        refine (len_at X4.out).mono ?_
        rintro e w7 ⟨rfl, rfl⟩
        go_wp2
        go_ret
        exact ⟨rfl, B6.out⟩
    · exact absurd h (by simp [qs])
  · exact absurd h (by simp [qs])
end Go.Proofs.Ytelhbkjmaeglaaa
