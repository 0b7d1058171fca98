/-
  The chapter's first examples.
-/
import Derived.Test.YtdimllmbalponaaSource
namespace Go.Proofs.Ytdimllmbalponaa
open Go.RowKit Go.Shelf
set_option linter.unusedVariables false

theorem i64_id {z : Int} (h0 : 0 ≤ z) (h1 : z < 4294967296) : IntKind.i64.wrap z = z := by
  rw [IntKind.wrap_i64]
  omega
def zport : Array Value := #[.int .i64 0, .int .i64 0, .int .i64 0, .int .i64 0, .int .i64 0, .int .i64 0]
theorem info_port : (Try.prog.info? 23).map (fun i => (i.zero, i.size)) = some (some (.agg zport), 6) := by kernel_rfl
theorem port_info {cs : Array Value} (h : cs.size = 6) : (Try.prog.info? 23).map (·.size) = some cs.size := by rw [h]; exact (zero_of_info info_port).2
theorem results_port {fn : Func} {p : Tmp} (h : fn.results = #[.cell p 23]) (tmps : Array Value) (w : World) (g : Nat) (t : TypeId) (cs : Array Value) (fr : Nat × Nat)
    (hp : tmps.getD p undef = .pointer (some ⟨g, 0, none⟩)) (hg : w.heap[g]? = some (.cells cs t fr)) (hs : cs.size = 6) : (results fn tmps).run Try.prog w = .ok (.agg cs) w := by
  have hp' : tmps[p]?.getD undef = .pointer (some ⟨g, 0, none⟩) := by simpa using hp
  simp [results, h, hp', asAddr, run_loadVar_row w g t _ cs fr _ hg Try.underlying23 rfl (port_info hs)]

/-- a queuing port that sends -/
def qs (s e : Int) : Prm := ⟨0, 2, 1, s, e, 0, 1, 8, 0, 0, .func (.func 28) #[] #[], .func (.func 29) #[] #[]⟩
theorem BoxW.new {W : World} {base b : Nat} {P : Prm} (hb : base ≤ b) (h : W.heap[b]? = some (.cells (bcs b P.pt P.k P.d P.s P.e P.f P.dl P.dm P.fl P.fm P.p P.g (.slice none 0 0) false) 60 (0, 0))) : BoxW W base b P (.slice none 0 0) [] false :=
  ⟨hb, h, ⟨rfl, .inl ⟨rfl, rfl⟩⟩, by simp⟩
theorem new_queue (s e : Int) (w : World) (hs : 1 ≤ s ∧ s ≤ 32) (he : 1 ≤ e ∧ e ≤ 8) : Calls Try.prog 4 #[.agg #[.int .i64 0, .int .i64 2, .int .i64 1, .int .i64 s, .int .i64 e, .int .i64 0]] w fun e' w' => (∃ b, e' = .returned (.tuple #[.pointer (some ⟨b, 0, none⟩), .int .i64 0]) ∧ BoxW w' w.heap.size b (qs s e) (.slice none 0 0) [] false) ∧ Below w.heap.size w w' := by
  refine (new_at 0 2 1 s e 0 1 8 0 0 (.func (.func 28) #[] #[]) (.func (.func 29) #[] #[]) _ true w rfl (by simp [Value.oneCell']) rfl rfl true (by simp [hs, he])).mono ?_
  rintro e' w' ⟨⟨h1, _⟩, h2⟩
  obtain ⟨b, h3, h4, h5⟩ := h1 rfl
  exact ⟨⟨b, h3, BoxW.new h4 h5⟩, h2⟩

end Go.Proofs.Ytdimllmbalponaa
