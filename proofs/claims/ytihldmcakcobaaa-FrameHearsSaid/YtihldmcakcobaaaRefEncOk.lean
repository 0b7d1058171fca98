/-
  The document's own Encode, of what may be sent.
-/
import Derived.Test.YtihldmcakcobaaaFacts
import Derived.Test.YtihldmcakcobaaaEncode
import Derived.Test.YtihldmcakcobaaaRefEncNo
namespace Go.Proofs.Ytihldmcakcobaaa
open Go.RowKit Go.Shelf
set_option linter.unusedVariables false

section
variable {md : Region.Mode} {ops : Array Oper} {Q : Exit → Act → World → Prop}
theorem ev_get {l : Array Bool} {vals : Nat → Value} {a : Act} (hd : apartB ops = true) (j k : Nat) (hj : l.getD j false = true) (hk : dstOf ops j = some k) (hs : k < a.tmps.size) (hn : j < ops.size) : (canon ops l vals a ops.size).eval (.tmp k) = vals j := by
  have h := canon_get hd (vals := vals) hj hk hs ops.size hn (Nat.le_refl _)
  simpa [Act.eval, Array.getD_eq_getD_getElem?] using h
theorem ev_old {l : Array Bool} {vals : Nat → Value} {a : Act} (k : Nat) (h : ((List.range ops.size).all fun j => !(decide (dstOf ops j = some k))) = true) : (canon ops l vals a ops.size).eval (.tmp k) = a.eval (.tmp k) := by
  have h := canon_old (vals := vals) (a := a) (l := l) ops.size h
  simpa [Act.eval, Array.getD_eq_getD_getElem?] using h
theorem AllFrom.cons {p : Nat → Oper → Prop} {i : Nat} {o : Oper} {r : List Oper} (h : p i o) (hr : AllFrom p (i + 1) r) : AllFrom p i (o :: r) := ⟨h, hr⟩
/-- an operation whose run is known: its slots by what was made here, or stood before -/
theorem step_run {i : Nat} {o : Oper} {a : Act} {C : World → Prop} {F : Nat → Value → World → Prop} {T : Nat → Nat} (hd : apartB ops = true)
    (h : ∀ l vals W (ρ : Operand → Value), Inv .any ops C F T l vals W → l.getD i false = false → (∀ e ∈ o.after, Region.binds .any e = true → l.getD e.on false = true) →
      (∀ j k, l.getD j false = true → dstOf ops j = some k → k < a.tmps.size → j < ops.size → ρ (.tmp k) = vals j) → (∀ k, ((List.range ops.size).all fun j => !(decide (dstOf ops j = some k))) = true → ρ (.tmp k) = a.eval (.tmp k)) → (∀ c, ρ (.const c) = c) →
      ∃ v W', (execOp ρ o).run Try.prog W = .ok (.value v) W' ∧ C W' ∧ F i v W' ∧ ∀ j, j ≠ i → T j ≠ i → l.getD j false = true → l.getD (T j) false = false → F j (vals j) W') : Step Try.prog .any ops Q a C F T i o := by
  intro l vals W hI hi hdep
  obtain ⟨v, W', hv, hC, hF, hr⟩ := h l vals W (canon ops l vals a ops.size).eval hI hi hdep (fun j k h1 h2 h3 h4 => ev_get hd j k h1 h2 h3 h4) (fun k h => ev_old k h) (fun c => rfl)
  unfold Oper.wp
  rw [hv]
  exact ⟨v, rfl, hC, hF, hr⟩
theorem step_skip {i : Nat} {o : Oper} {a : Act} {C : World → Prop} {F : Nat → Value → World → Prop} {T : Nat → Nat} (hd : apartB ops = true)
    (h : ∀ l vals W (ρ : Operand → Value), Inv .any ops C F T l vals W → l.getD i false = false → (∀ e ∈ o.after, Region.binds .any e = true → l.getD e.on false = true) →
      (∀ j k, l.getD j false = true → dstOf ops j = some k → k < a.tmps.size → j < ops.size → ρ (.tmp k) = vals j) → (∀ k, ((List.range ops.size).all fun j => !(decide (dstOf ops j = some k))) = true → ρ (.tmp k) = a.eval (.tmp k)) → (∀ c, ρ (.const c) = c) →
      ∃ W', (execOp ρ o).run Try.prog W = .ok .skip W' ∧ C W' ∧ F i undef W' ∧ ∀ j, j ≠ i → T j ≠ i → l.getD j false = true → l.getD (T j) false = false → F j (vals j) W') : Step Try.prog .any ops Q a C F T i o := by
  intro l vals W hI hi hdep
  obtain ⟨W', hv, hC, hF, hr⟩ := h l vals W (canon ops l vals a ops.size).eval hI hi hdep (fun j k h1 h2 h3 h4 => ev_get hd j k h1 h2 h3 h4) (fun k h => ev_old k h) (fun c => rfl)
  unfold Oper.wp
  rw [hv]
  exact ⟨undef, rfl, hC, hF, hr⟩
theorem step_is {i : Nat} {o : Oper} {a : Act} {C : World → Prop} {F : Nat → Value → World → Prop} {T : Nat → Nat} (hd : apartB ops = true)
    (h : ∀ l vals W (ρ : Operand → Value), Inv .any ops C F T l vals W → l.getD i false = false → (∀ e ∈ o.after, Region.binds .any e = true → l.getD e.on false = true) →
      (∀ j k, l.getD j false = true → dstOf ops j = some k → k < a.tmps.size → j < ops.size → ρ (.tmp k) = vals j) → (∀ k, ((List.range ops.size).all fun j => !(decide (dstOf ops j = some k))) = true → ρ (.tmp k) = a.eval (.tmp k)) → (∀ c, ρ (.const c) = c) →
      ∃ v, (execOp ρ o).run Try.prog W = .ok (.value v) W ∧ F i v W) : Step Try.prog .any ops Q a C F T i o :=
  step_run hd fun l vals W ρ hI hi hdep h1 h2 h3 => by
    obtain ⟨v, hv, hF⟩ := h l vals W ρ hI hi hdep h1 h2 h3
    exact ⟨v, W, hv, hI.com, hF, fun j _ _ hj hT => hI.fact j hj hT⟩
/-- a call of a function of one argument -/
theorem step_fn {i : Nat} {o : Oper} {a : Act} {C : World → Prop} {F : Nat → Value → World → Prop} {T : Nat → Nat} (f k : Nat) (ts : Array TypeId) (ho : o.op = .call { callee := .value (.func f), args := #[.tmp k], argTypes := ts })
    (eg : ∀ args w, (callFunc f args).run Try.prog w = .ok (.enter f args) w)
    (h : ∀ l vals W, Inv .any ops C F T l vals W → l.getD i false = false → (∀ e ∈ o.after, Region.binds .any e = true → l.getD e.on false = true) → ∃ v, (canon ops l vals a ops.size).eval (.tmp k) = v ∧ Calls Try.prog f #[v] W fun e W' => ∃ r, e = .returned r ∧ C W' ∧ F i r W' ∧ ∀ j, j ≠ i → T j ≠ i → l.getD j false = true → l.getD (T j) false = false → F j (vals j) W') : Step Try.prog .any ops Q a C F T i o := by
  intro l vals W hI hi hdep
  obtain ⟨v, hv, hcall⟩ := h l vals W hI hi hdep
  have hf : (canon ops l vals a ops.size).eval (.func f) = .func (.func f) #[] #[] := rfl
  unfold Oper.wp
  generalize hact : canon ops l vals a ops.size = A at hv hf hcall ⊢
  have hx : (execOp A.eval o).run Try.prog W = .ok (.enter f #[v]) W := by
    generalize A.eval = ρ at hv hf ⊢
    simp [execOp, ho, resolve, invoke, eg, hv, hf, go_sem]
  rw [hx]
  refine hcall.mono fun e W' hr => ?_
  obtain ⟨r, rfl, hk⟩ := hr
  exact ⟨r, rfl, hk⟩
end

/-- what each operation of the region has made -/
def encF (B : Nat) (o : Nat) (s m : Int) : Nat → Value → World → Prop
  | 0, v, _ => v = .pointer (some ⟨B, 1, none⟩)
  | 1, v, _ => v = .agg #[.int .i64 s, .int .u16 m]
  | 2, v, W => ∃ g, v = .slice (some ⟨g, 0, none⟩) 6 6 ∧ OwnS W (B + 1) g 6 6 (st s m)
  | 3, v, _ => v = .pointer (some ⟨B, 0, none⟩)
  | 4, v, _ => v = .int .i64 o
  | 5, v, _ => v = .int .u8 o
  | 6, v, W => ∃ g, v = .slice (some ⟨g, 0, none⟩) 1 1 ∧ OwnS W (B + 1) g 1 1 [o]
  | 7, v, W => ∃ g c, v = .slice (some ⟨g, 0, none⟩) 7 c ∧ OwnS W (B + 1) g 7 c (st s m ++ [o])
  | 8, v, W => ∃ g c, v = .slice (some ⟨g, 0, none⟩) 7 c ∧ OwnS W (B + 1) g 7 c (st s m ++ [o])
  | _, _, _ => True
def encT : Nat → Nat
  | 0 => 1 | 1 => 2 | 2 => 7 | 3 => 4 | 4 => 5 | 5 => 6 | 6 => 7 | 7 => 8 | _ => 9
structure encC (w : World) (F : Array Value) (W : World) : Prop where
  row : W.heap[w.heap.size]? = some (.cells F 27 (0, 0))
  bel : Below w.heap.size w W
  siz : w.heap.size + 1 ≤ W.heap.size
theorem encC.later {w : World} {F : Array Value} {W W' : World} (h : encC w F W) (hb : Below (w.heap.size + 1) W W') : encC w F W' :=
  ⟨(hb.block _ (by omega)).trans h.row, h.bel.trans (hb.mono (by omega)), by have := hb.size; have := h.siz; omega⟩
theorem encF.later {B o : Nat} {s m : Int} {W W' : World} (hb : ∀ k, k < W.heap.size → W'.heap[k]? = W.heap[k]?) : ∀ j v, encF B o s m j v W → encF B o s m j v W'
  | 0, _, h | 1, _, h | 3, _, h | 4, _, h | 5, _, h => h
  | 2, _, ⟨g, h1, h2⟩ => ⟨g, h1, h2.kept (hb g h2.blk)⟩
  | 6, _, ⟨g, h1, h2⟩ => ⟨g, h1, h2.kept (hb g h2.blk)⟩
  | 7, _, ⟨g, c, h1, h2⟩ => ⟨g, c, h1, h2.kept (hb g h2.blk)⟩
  | 8, _, ⟨g, c, h1, h2⟩ => ⟨g, c, h1, h2.kept (hb g h2.blk)⟩
  | _ + 9, _, _ => trivial

set_option maxRecDepth 100000 in
set_option maxHeartbeats 2000000 in
theorem renc_ok (o : Nat) (s m : Int) (p : List Nat) (w : World) (hp : p.length = 64) (hpl : ∀ c ∈ p, c < 256) (ho : o < 16) (hs0 : 0 ≤ s) (hs1 : s ≤ 2147483647) (hm : (Lit.int .u16 m).wf = true) :
    Calls Try.prog 12 #[.agg (frv (o : Int) s m p)] w fun e w' => ∃ g c, e = .returned (.tuple #[.slice (some ⟨g, 0, none⟩) 75 c, .int .i64 0]) ∧ OwnS w' w.heap.size g 75 c (enc (o : Int) s m p) ∧ Below w.heap.size w w' := by
  have hs : (Lit.int .i64 s).wf = true := WalkArith.wf_i64 (by omega)
  have hbx : (w.alloc (.cells (frv (o : Int) s m p) 27)).heap[w.heap.size]? = some (.cells (frv (o : Int) s m p) 27 (0, 0)) := heap_alloc_new w _
  have a0 : (w.alloc (.cells (frv (o : Int) s m p) 27)).cell? ⟨w.heap.size, 0, none⟩ = some (.int .i64 o) := by rw [cell_of_row _ _ _ _ _ _ hbx]; exact frv_0 _ _ _ _
  have a1 : (w.alloc (.cells (frv (o : Int) s m p) 27)).cell? ⟨w.heap.size, 1, none⟩ = some (.int .i64 s) := by rw [cell_of_row _ _ _ _ _ _ hbx]; exact frv_1 _ _ _ _
  have a2 : (w.alloc (.cells (frv (o : Int) s m p) 27)).cell? ⟨w.heap.size, 2, none⟩ = some (.int .u16 m) := by rw [cell_of_row _ _ _ _ _ _ hbx]; exact frv_2 _ _ _ _
  have hb := bal w (.cells (frv (o : Int) s m p) 27)
  obtain ⟨F, hF⟩ : ∃ F, frv (o : Int) s m p = F := ⟨_, rfl⟩
  rw [hF] at hbx a0 a1 a2 hb ⊢
  obtain ⟨w1, hw1⟩ : ∃ w1, w.alloc (.cells F 27) = w1 := ⟨_, rfl⟩
  rw [hw1] at hbx a0 a1 a2 hb
  have HF := hide hF; have HBX := hide hbx
  clear hF hbx
  go_enter Try.func12, Try.ntmps12
  go_wp2_with fail
  refine wp_region_facts (encC w F) (encF w.heap.size o s m) encT (by kernel_rfl) (by kernel_rfl) ⟨HBX.out, below_drewN hb 1, by show _ ≤ w1.heap.size; rw [← hw1]; simp⟩ ?_ ?_
  · refine AllFrom.cons (step_is (by kernel_rfl) ?s0) (AllFrom.cons (i := 1) (step_is (by kernel_rfl) ?s1) (AllFrom.cons (i := 2) (step_fn 22 27 _ rfl (enters_of Try.func22 (by kernel_rfl) rfl) ?s2) (AllFrom.cons (i := 3) (step_is (by kernel_rfl) ?s3) (AllFrom.cons (i := 4) (step_is (by kernel_rfl) ?s4)
      (AllFrom.cons (i := 5) (step_is (by kernel_rfl) ?s5) (AllFrom.cons (i := 6) (step_run (by kernel_rfl) ?s6) (AllFrom.cons (i := 7) ?s7 (AllFrom.cons (i := 8) (step_is (by kernel_rfl) ?s8) trivial))))))))
    case s0 =>
      intro l vals W ρ hI hi hdep hnew hold hc
      have e := hold 1 (by kernel_rfl)
      refine ⟨.pointer (some ⟨w.heap.size, 1, none⟩), ?_, rfl⟩
      have e2 : ρ (.tmp 1) = .pointer (some ⟨w.heap.size, 0, none⟩) := e.trans (by kernel_rfl)
      simp [execOp, e2, go_sem]
    case s1 =>
      intro l vals W ρ hI hi hdep hnew hold hc
      have f : vals 0 = .pointer (some ⟨w.heap.size, 1, none⟩) := hI.fact 0 (dep hdep 0 (by kernel_rfl)) hi
      have e : ρ (.tmp 26) = .pointer (some ⟨w.heap.size, 1, none⟩) := (hnew 0 26 (dep hdep 0 (by kernel_rfl)) (by kernel_rfl) (by simp) (by simp)).trans f
      refine ⟨.agg #[.int .i64 s, .int .u16 m], ?_, rfl⟩
      have c1 : W.cell? ⟨w.heap.size, 1, none⟩ = some (.int .i64 s) := by rw [cell_of_row _ _ _ _ _ _ hI.com.row, ← HF.out]; exact frv_1 _ _ _ _
      have c2 : W.cell? ⟨w.heap.size, 2, none⟩ = some (.int .u16 m) := by rw [cell_of_row _ _ _ _ _ _ hI.com.row, ← HF.out]; exact frv_2 _ _ _ _
      simp [execOp, e, go_sem, c1, c2]
    case s2 =>
      intro l vals W hI hi hdep
      have f : vals 1 = .agg #[.int .i64 s, .int .u16 m] := hI.fact 1 (dep hdep 1 (by kernel_rfl)) hi
      refine ⟨_, (ev_get (by kernel_rfl) 1 27 (dep hdep 1 (by kernel_rfl)) (by kernel_rfl) (by simp) (by simp)).trans f, (rstate_any s m W hs hm).mono ?_⟩
      rintro e W' ⟨g, rfl, hg, hgs, hb'⟩
      refine ⟨_, rfl, hI.com.later (hb'.mono hI.com.siz), ⟨g, rfl, ?_⟩, fun j _ _ hj hT => encF.later (fun k hk => hb'.block k hk) j _ (hI.fact j hj hT)⟩
      exact ⟨rfl, st_lt s m (bounds_u16 hm).1 (bounds_u16 hm).2, by have := hI.com.siz; omega, Nat.le_refl _, by simp [maxLen], bys (st s m), hg, rfl, rfl⟩
    case s3 =>
      intro l vals W ρ hI hi hdep hnew hold hc
      have e2 : ρ (.tmp 1) = .pointer (some ⟨w.heap.size, 0, none⟩) := (hold 1 (by kernel_rfl)).trans (by kernel_rfl)
      refine ⟨.pointer (some ⟨w.heap.size, 0, none⟩), ?_, rfl⟩
      simp [execOp, e2, go_sem]
    case s4 =>
      intro l vals W ρ hI hi hdep hnew hold hc
      have f : vals 3 = .pointer (some ⟨w.heap.size, 0, none⟩) := hI.fact 3 (dep hdep 3 (by kernel_rfl)) hi
      have e : ρ (.tmp 29) = .pointer (some ⟨w.heap.size, 0, none⟩) := (hnew 3 29 (dep hdep 3 (by kernel_rfl)) (by kernel_rfl) (by simp) (by simp)).trans f
      refine ⟨.int .i64 o, ?_, rfl⟩
      have c0 : W.cell? ⟨w.heap.size, 0, none⟩ = some (.int .i64 o) := by rw [cell_of_row _ _ _ _ _ _ hI.com.row, ← HF.out]; exact frv_0 _ _ _ _
      simp [execOp, e, go_sem, c0]
    case s5 =>
      intro l vals W ρ hI hi hdep hnew hold hc
      have f : vals 4 = .int .i64 o := hI.fact 4 (dep hdep 4 (by kernel_rfl)) hi
      have e : ρ (.tmp 30) = .int .i64 o := (hnew 4 30 (dep hdep 4 (by kernel_rfl)) (by kernel_rfl) (by simp) (by simp)).trans f
      refine ⟨.int .u8 o, ?_, rfl⟩
      have hw : IntKind.u8.wrap (o : Int) = o := by show (o : Int) % 256 = o; omega
      simp [execOp, e, go_sem, hw]
    case s6 =>
      intro l vals W ρ hI hi hdep hnew hold hc
      have f : vals 5 = .int .u8 o := hI.fact 5 (dep hdep 5 (by kernel_rfl)) hi
      have e : ρ (.tmp 31) = .int .u8 o := (hnew 5 31 (dep hdep 5 (by kernel_rfl)) (by kernel_rfl) (by simp) (by simp)).trans f
      refine ⟨.slice (some ⟨W.heap.size, 0, none⟩) 1 1, W.alloc (.cells (bys [o]) 5), ?_, hI.com.later ((bal W _).mono hI.com.siz), ⟨W.heap.size, rfl, OwnS.made [o] (by simp; omega) (by simp [maxLen]) hI.com.siz⟩, fun j _ _ hj hT => encF.later (fun k hk => (bal W _).block k hk) j _ (hI.fact j hj hT)⟩
      simp [execOp, e, go_sem, bys]
    case s7 =>
      intro l vals W hI hi hdep
      obtain ⟨g, f2, h2⟩ : encF w.heap.size o s m 2 (vals 2) W := hI.fact 2 (dep hdep 2 (by kernel_rfl)) hi
      obtain ⟨g', f6, h6⟩ : encF w.heap.size o s m 6 (vals 6) W := hI.fact 6 (dep hdep 6 (by kernel_rfl)) hi
      have hsz := hI.com.siz
      refine wp_ontoS (.tmp 28) (.tmp 32) rfl (w.heap.size + 1) g 6 6 (st s m) ((ev_get (by kernel_rfl) 2 28 (dep hdep 2 (by kernel_rfl)) (by kernel_rfl) (by simp) (by simp)).trans f2) h2 (some ⟨g', 0, none⟩) 1 1 [o] ((ev_get (by kernel_rfl) 6 32 (dep hdep 6 (by kernel_rfl)) (by kernel_rfl) (by simp) (by simp)).trans f6) rfl h6.bytes (by omega) hsz ?_
      intro g2 c2 W' h7 hb7
      refine ⟨_, rfl, hI.com.later (grown_below hb7 h2.base hsz), ⟨g2, c2, rfl, h7⟩, fun j hj7 hT7 hj hT => ?_⟩
      have hf := hI.fact j hj hT
      match j, hf, hT7, hj7, hj with
      | 0, hf, _, _, _ | 1, hf, _, _, _ | 3, hf, _, _, _ | 4, hf, _, _, _ | 5, hf, _, _, _ => exact hf
      | 2, _, h, _, _ | 6, _, h, _, _ => exact absurd rfl h
      | 7, _, _, h, _ => exact absurd rfl h
      | 8, _, _, _, hj => exact absurd hj (by rw [hI.ahead hi 8 (by kernel_rfl)]; simp)
      | j + 9, _, _, _, _ => trivial
    case s8 =>
      intro l vals W ρ hI hi hdep hnew hold hc
      obtain ⟨g, c, f7, h7⟩ : encF w.heap.size o s m 7 (vals 7) W := hI.fact 7 (dep hdep 7 (by kernel_rfl)) hi
      have e : ρ (.tmp 33) = .slice (some ⟨g, 0, none⟩) 7 c := (hnew 7 33 (dep hdep 7 (by kernel_rfl)) (by kernel_rfl) (by simp) (by simp)).trans f7
      refine ⟨_, ?_, ⟨g, c, rfl, h7⟩⟩
      simp [execOp, e, go_sem]
  intro vals W hC hF
  obtain ⟨g, c, f8, h8⟩ : encF w.heap.size o s m 8 (vals 8) W := hF 8 (by simp) (by simp [encT])
  simp [canon, dstOf, Act.put, f8]
  have hbp : Bytes W (some ⟨w.heap.size, 3, none⟩) p := ⟨hpl, .inr ⟨w.heap.size, 3, rfl, by have := hC.siz; omega, fun i hi => by
    rw [cell_of_row _ _ _ _ _ _ hC.row, ← HF.out]; exact frv_pay _ _ _ _ i hi⟩⟩
  have HC := hide hC
  clear hF hC
  have el : ((st s m ++ [o]) ++ p).length = 71 := by simp [st_len, hp]
  have e0 : (st s m ++ [o]) ++ p = enc0 (o : Int) s m p := rfl
  have hN := SumMath.more_lt 0 (enc0 (o : Int) s m p)
  obtain ⟨E, hE⟩ : ∃ E, enc0 (o : Int) s m p = E := ⟨_, rfl⟩
  have he : enc (o : Int) s m p = E ++ SumMath.four (SumMath.more 0 E) := by rw [← hE]; rfl
  rw [hE] at e0 hN
  rw [e0] at el
  obtain ⟨N, hNN⟩ : ∃ N, SumMath.more 0 E = N := ⟨_, rfl⟩
  have hsum := fun A c W h => rsum_at E 71 A c W el h (by omega)
  rw [hNN] at hN
  simp only [hNN] at hsum
  rw [hNN] at he
  have HENC := hide he
  have HE0 := hide e0; have HSUM := hide hsum
  clear e0 hsum he hE hNN
  have q1 : (N : Int) / 256 % 256 % 256 = N / 256 % 256 := by omega
  have q2 : (N : Int) / 65536 % 256 % 256 = N / 65536 % 256 := by omega
  have q3 : (N : Int) / 16777216 % 256 = N / 16777216 := by omega
  go_wp2_with (
    at_builtin
    refine wpList_ontoS rfl (.tmp 34) (.tmp 36) rfl (w.heap.size + 1) g 7 c (st s m ++ [o]) rfl h8 (some ⟨w.heap.size, 3, none⟩) 64 64 p rfl hp hbp (by omega) HC.out.siz ?_
    intro g1 c1 w3 h3 hb3
    rw [show 7 + 64 = 71 from rfl] at h3 ⊢
    rw [HE0.out] at h3)
  have HC3 := hide (HC.out.later (grown_below hb3 h8.base HC.out.siz))
  clear hb3 h8 hbp HC
  refine (HSUM.out _ _ w3 h3.bytes).mono ?_
  rintro e w' ⟨rfl, rfl⟩
  go_wp2_with (
    at_builtin
    refine wpList_ontoS rfl (.tmp 40) (.tmp 55) rfl (w.heap.size + 1) g1 71 c1 E rfl (h3.kept ((bal w3 _).block g1 h3.blk)) (some ⟨w3.heap.size, 0, none⟩) 4 4 (SumMath.four N) rfl rfl ?by4 (by omega) (by have := HC3.out.siz; simp; omega) ?_
    case by4 => simpa [bys, SumMath.four] using (OwnS.made (w := w3) (base := 0) (SumMath.four N) (SumMath.four_lt hN) (by simp [SumMath.four, maxLen]) (Nat.zero_le _)).bytes
    intro g2 c2 w4 h4 hb4
    rw [show 71 + 4 = 75 from rfl] at h4 ⊢)
  go_ret2
  have HC4 := (HC3.out.later ((bal w3 _).mono HC3.out.siz)).later (grown_below hb4 h3.base (by have := HC3.out.siz; simp; omega))
  exact ⟨g2, c2, rfl, by rw [HENC.out]; exact h4.from (by have := h4.base; omega), HC4.bel⟩
end Go.Proofs.Ytihldmcakcobaaa
