/- A range over a function whose iterator tells, at each round, what its element is in memory (E). -/
import Derived.Test.YtjdbgojnpnlblaaGreatVof
namespace Go.Proofs.YtjdbgojnpnlblaaGreat
open Go.RowKit

theorem fr_putObj (w : World) (r : Nat) (o : Obj) : Fr (fun k => k = r) w (w.putObj r o) :=
  ⟨rfl, rfl, rfl, by simp, fun i _ hi => World.putObj_heap_other hi⟩
theorem range_told {α : Type} {F : Fence} {n : Nat} {P : Program} {g : Operand} {ps : Array Tmp} {assign body : Code} {Q : Exit → Act → World → Prop} {a : Act} {w : World}
    (hro : F.round = none) (h1 : 1 ≤ n) {gf : Nat} {lb : Array Value} (hg : a.eval g = .func (.func gf) #[] lb) (hFg : F.fn gf) (eg : ∀ args w, (callFunc gf args).run P w = .ok (.enter gf args) w)
    {encs : α → Array Value} (hps : ∀ x, (encs x).size = ps.size) (I : List α → World → Prop) (E : List α → α → World → Prop) (S : List α → Prop) (G : Nat → Prop) (hGD : ¬ G w.heap.size) (hGL : ¬ G (w.heap.size + 1)) (act : α → Act)
    (hI : ∀ s A B, I s A → Fr (fun k => k = w.heap.size + 1) A B → I s B) (hE : ∀ pre x A B, E pre x A → Fr (fun k => k = w.heap.size + 1) A B → E pre x B) (h0 : I [] w)
    (hseq : ∀ (J : List α → World → Prop) (W : World), Fr (fun _ => False) w W → w.heap.size + 2 ≤ W.heap.size → (∀ s A B, J s A → Fr (fun _ => False) A B → J s B) →
      (∀ pre x W1, J pre W1 → E pre x W1 → YieldAt F (n - 1 - 1) P (w.heap.size + 1) (encs x) W1 fun e W' => e = .returned (.bool true) ∧ J (pre ++ [x]) W' ∧ Fr (fun k => G k ∨ k = w.heap.size + 1) W1 W') → J [] W →
      CallsIn F (n - 1) P gf (#[.func (.yield (w.heap.size + 1)) #[] #[]] ++ lb) W fun e W' => (∃ v, e = .returned v) ∧ ∃ xs, S xs ∧ J xs W')
    (hassign : ∀ x W K, (K : Act → World → Prop) (act x) W → assign.wpIn (F.inRound (w.heap.size + 1)) (n - 1 - 1) P (Exit.then K (fun _ _ _ => False)) { tmps := (ps.zip (encs x)).foldl (fun t (p, v) => t.setIfInBounds p v) a.tmps, defers := [] } W)
    (hbody : ∀ pre x W, I pre W → E pre x W → w.heap.size + 1 < W.heap.size → body.wpIn (F.inRound (w.heap.size + 1)) (n - 1 - 1) P (fun e _ W' => e = .normal ∧ Fr G W W' ∧ I (pre ++ [x]) W') (act x) W)
    (hdone : ∀ xs W, S xs → I xs W → w.heap.size + 1 < W.heap.size → W.heap[w.heap.size]? = some (.deferred (some [])) → Q .normal { a with defers := { target := .collected w.heap.size, args := #[] } :: a.defers } W) :
    (Code.rangeFunc g ps assign body).wpIn F n P Q a w := by
  refine wpIn_rangeFunc fun fn hfn => ?_
  rw [hro]
  obtain ⟨rec, hrec⟩ : ∃ rec : LoopState → Option Code → Loop, rec = fun st pe => { state := st, pending := pe, fn, tmps := a.tmps, params := ps, assign, body, defers := w.heap.size } := ⟨_, rfl⟩
  obtain ⟨X, hX⟩ : ∃ X, X = (w.alloc (.deferred (some []))).alloc (.loop (rec .ready none)) := ⟨_, rfl⟩
  have hfX : Fr (fun _ => False) w X := hX ▸ ((Fr.refl _ w).alloc _).alloc _
  have hDX : X.heap[w.heap.size]? = some (.deferred (some [])) := by
    rw [hX]
    have h := World.alloc_heap_new w (.deferred (some []))
    have f := (Fr.refl (fun _ => False) (w.alloc (.deferred (some [])))).alloc (.loop (rec .ready none))
    exact (f.block w.heap.size (by simp) (fun q => q)).trans h
  have hLX : X.heap[w.heap.size + 1]? = some (.loop (rec .ready none)) := by
    rw [hX]
    have h := World.alloc_heap_new (w.alloc (.deferred (some []))) (.loop (rec .ready none))
    simpa using h
  have hno : ∀ {s A B}, I s A → Fr (fun _ => False) A B → I s B := fun h f => hI _ _ _ h (f.mono (fun _ _ q => q.elim))
  obtain ⟨J, hJ⟩ : ∃ J : List α → World → Prop, J = fun s W => I s W ∧ W.heap[w.heap.size]? = some (.deferred (some [])) ∧ W.heap[w.heap.size + 1]? = some (.loop (rec .ready none)) := ⟨_, rfl⟩
  have hlt : ∀ {W : World} {k : Nat} {o : Obj}, W.heap[k]? = some o → k < W.heap.size := fun h => (Array.getElem?_eq_some_iff.1 h).1
  have hseq' := hseq J X hfX (by rw [hX]; simp) (fun s A B hs f => by
    rw [hJ] at hs ⊢
    exact ⟨hno hs.1 f, (f.block _ (hlt hs.2.1) (fun q => q)).trans hs.2.1, (f.block _ (hlt hs.2.2) (fun q => q)).trans hs.2.2⟩) ?_ (by rw [hJ]; exact ⟨hno h0 hfX, hDX, hLX⟩)
  · refine ⟨w.heap.size + 1, [{ target := .collected w.heap.size, args := #[] }], X, { target := .fn (.func gf) lb, args := #[.func (.yield (w.heap.size + 1)) #[] #[]] }, X, gf, #[.func (.yield (w.heap.size + 1)) #[] #[]] ++ lb, X, ?_, ?_, ?_, ?_, fun _ => h1, ?_⟩
    · rw [hX, hrec]
      exact run_enterLoop_outer _ _ _ _ _
    · simp only [resolve, hg]
      simp [go_sem]
    · intro f' hf'
      simp [Target.leads] at hf'
      exact hf' ▸ hFg
    · simp [invoke, go_sem, eg]
    · refine hseq'.mono ?_
      rintro e W2 ⟨⟨v, rfl⟩, xs, hS, hj⟩
      rw [hJ] at hj
      obtain ⟨hi, hd, hl⟩ := hj
      have hend := run_endLoop (P := P) hl (by rw [hrec]; simp)
      refine ⟨none, _, by rw [hrec] at hend; exact hend, ?_⟩
      exact hdone xs _ hS (hI _ _ _ hi (fr_putObj _ _ _)) (by simpa using hlt hl) ((World.putObj_heap_other (by omega)).trans hd)
  · intro pre x W1 hj he
    rw [hJ] at hj
    obtain ⟨hi, hd, hl⟩ := hj
    have hy := run_yield (P := P) (args := encs x) hl (by rw [hrec]; exact hps x)
    rw [hrec] at hy
    refine ⟨fn, _, assign, body, hy, roundIn_of_wpIn hfn (hassign x W1 _ ?_)⟩
    have hbr := run_beginRound (P := P) hl (by rw [hrec])
    refine ⟨_, hbr, ?_⟩
    have f1 := fr_putObj W1 (w.heap.size + 1) (.loop { rec .ready none with state := .busy })
    have hl1 : (W1.putObj (w.heap.size + 1) (.loop { rec .ready none with state := .busy })).heap[w.heap.size + 1]? = some (.loop { rec .ready none with state := .busy }) := World.putObj_heap_same (hlt hl)
    have hd1 : (W1.putObj (w.heap.size + 1) (.loop { rec .ready none with state := .busy })).heap[w.heap.size]? = some (.deferred (some [])) := (World.putObj_heap_other (by omega)).trans hd
    refine wpIn_mono (hbody pre x _ (hI _ _ _ hi f1) (hE _ _ _ _ he f1) (hlt hl1)) ?_
    rintro e a3 W3 ⟨rfl, f3, hi3⟩
    have hl3 := (f3.block _ (hlt hl1) hGL).trans hl1
    have hd3 := (f3.block _ (hlt hd1) hGD).trans hd1
    have her := run_endRound (P := P) none hl3
    refine ⟨_, _, her, rfl, ?_, ?_⟩
    · rw [hJ]
      refine ⟨hI _ _ _ hi3 (fr_putObj _ _ _), (World.putObj_heap_other (by omega)).trans hd3, ?_⟩
      rw [World.putObj_heap_same (hlt hl3), hrec]
      rfl
    · exact ((f1.mono (fun _ _ q => .inr q)).trans f3 (fun _ _ q => .inl q)).trans (fr_putObj _ _ _) (fun _ _ q => .inr q)
/-- The same, where the round begins with plain assignments. -/
theorem range_told_f {α : Type} {F : Fence} {n : Nat} {P : Program} {g : Operand} {ps : Array Tmp} {assign body : Code} {Q : Exit → Act → World → Prop} {T : Array Value} {ds : List Deferred} {w : World}
    (hro : F.round = none) (h1 : 1 ≤ n) {gf : Nat} {lb : Array Value} (hg : Act.eval { tmps := T, defers := ds } g = .func (.func gf) #[] lb) (hFg : F.fn gf) (eg : ∀ args w, (callFunc gf args).run P w = .ok (.enter gf args) w)
    {encs : α → Array Value} (hps : ∀ x, (encs x).size = ps.size) (I : List α → World → Prop) (E : List α → α → World → Prop) (S : List α → Prop) (G : Nat → Prop) (hGD : ¬ G w.heap.size) (hGL : ¬ G (w.heap.size + 1)) (f : α → Array Value → Array Value)
    (hI : ∀ s A B, I s A → Fr (fun k => k = w.heap.size + 1) A B → I s B) (hE : ∀ pre x A B, E pre x A → Fr (fun k => k = w.heap.size + 1) A B → E pre x B) (h0 : I [] w)
    (hseq : ∀ (J : List α → World → Prop) (W : World), Fr (fun _ => False) w W → w.heap.size + 2 ≤ W.heap.size → (∀ s A B, J s A → Fr (fun _ => False) A B → J s B) →
      (∀ pre x W1, J pre W1 → E pre x W1 → YieldAt F (n - 1 - 1) P (w.heap.size + 1) (encs x) W1 fun e W' => e = .returned (.bool true) ∧ J (pre ++ [x]) W' ∧ Fr (fun k => G k ∨ k = w.heap.size + 1) W1 W') → J [] W →
      CallsIn F (n - 1) P gf (#[.func (.yield (w.heap.size + 1)) #[] #[]] ++ lb) W fun e W' => (∃ v, e = .returned v) ∧ ∃ xs, S xs ∧ J xs W')
    (hassign : ∀ x W K, (K : Act → World → Prop) { tmps := f x T, defers := [] } W → assign.wpIn (F.inRound (w.heap.size + 1)) (n - 1 - 1) P (Exit.then K (fun _ _ _ => False)) { tmps := (ps.zip (encs x)).foldl (fun t (p, v) => t.setIfInBounds p v) T, defers := [] } W)
    (hbody : ∀ pre x W, I pre W → E pre x W → w.heap.size + 1 < W.heap.size → body.wpIn (F.inRound (w.heap.size + 1)) (n - 1 - 1) P (fun e _ W' => e = .normal ∧ Fr G W W' ∧ I (pre ++ [x]) W') { tmps := f x T, defers := [] } W)
    (hdone : ∀ xs W, S xs → I xs W → w.heap.size + 1 < W.heap.size → W.heap[w.heap.size]? = some (.deferred (some [])) → Q .normal { tmps := T, defers := { target := .collected w.heap.size, args := #[] } :: ds } W) :
    (Code.rangeFunc g ps assign body).wpIn F n P Q { tmps := T, defers := ds } w :=
  range_told hro h1 hg hFg eg hps I E S G hGD hGL (fun x => { tmps := f x T, defers := [] }) hI hE h0 hseq hassign hbody hdone
end Go.Proofs.YtjdbgojnpnlblaaGreat
