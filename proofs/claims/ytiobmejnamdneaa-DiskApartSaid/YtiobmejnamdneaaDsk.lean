/- The program's disk, in memory: what is read, the versions of the open sectors, the fuse. New; the plain methods. -/
import Derived.Test.YtiobmejnamdneaaLft
import Derived.Maps.OwnSet
import Derived.Maps.Ext
import Derived.Carry
namespace Go.Proofs.Ytiobmejnamdneaa
open Go.RowKit

/-- How the map of versions reads: an element is held as it is. A sector's number as a key. -/
abbrev HV : Value → Option (DataW Value × List MemPlace) := fun v => some (.held v, [])
abbrev ky (i : Nat) : Lit := .int .i64 (i : Int)
theorem kyT : Maps.Keyed Try.prog 3 := Maps.int_keyed Try.underlying3
theorem ky_of {i : Nat} (h : i ≤ 8192) : keyOf Try.prog 3 (.int .i64 (i : Int)) = some (ky i) := Maps.keyOf_int_mk Try.underlying3 (WalkArith.wf_i64 (by omega))
theorem ky_inj {i j : Nat} (h : i ≠ j) : ky i ≠ ky j := fun e => by
  simp only [ky, Lit.int.injEq, true_and] at e
  omega
theorem ky_lit (i : Nat) (h : i ≤ 8192) : WideAt.IsKeyLit (ky i) := kyT.key (ky_of h)
theorem map_keep {G : Nat → Prop} {w w' : World} {M k : Nat} {D : DataW Value} (h : w.ownsMap Try.prog 3 HV M k D) (f : Fr G w w') (hM : ¬ G M) : w'.ownsMap Try.prog 3 HV M k D := by
  have hlt := h.lt
  obtain ⟨es, clock, hb, r⟩ := h
  exact ⟨es, clock, (f.block M hlt hM).trans hb, r⟩
theorem map_tight {w : World} {M k : Nat} {D : DataW Value} (h : w.ownsMap Try.prog 3 HV M k D) : w.ownsMap Try.prog 3 HV M (Maps.size D) D := by
  obtain ⟨es, clock, hb, F, hs, rfl⟩ := h
  exact ⟨es, clock, hb, F, Nat.le_of_eq (length_read es).symm, rfl⟩

/-- A disk: what is read of each sector; an open one's versions; has it a fuse, how many steps are left, is it dead? And of the row of what is read: its capacity, the bytes behind its last sector. -/
structure DS where
  rd : List (List UInt8)
  vs : Nat → List (List UInt8)
  fu : Bool
  lf : Int
  dd : Bool
  cp : Nat
  sp : List UInt8
/-- It stands in memory: the struct in block g, what is read in R, the map in M; all its blocks lie in F. -/
structure DiskW (w : World) (F : Nat → Prop) (g R M : Nat) (D : DataW Value) (val : Nat → Value) (d : DS) : Prop where
  fg : F g
  fR : F R
  fM : F M
  gR : g ≠ R
  gM : g ≠ M
  rM : R ≠ M
  n0 : 0 < d.rd.length
  n1 : d.rd.length ≤ 8192
  hl : ∀ s ∈ d.rd, s.length = 128
  l0 : 0 ≤ d.lf
  l1 : d.lf ≤ 9223372036854775807
  blk : Blk w g 63 (dskC (some ⟨R, 0, none⟩) d.rd.length d.cp (.map (some M)) d.fu d.lf d.dd)
  red : Blk w R 31 (cellsB (d.rd.flatten ++ d.sp)).toArray
  map : w.ownsMap Try.prog 3 HV M (Maps.size D) D
  keys : ∀ k, Maps.has D k = true → ∃ i, k = ky i ∧ i < d.rd.length
  opn : ∀ i, i < d.rd.length → (Maps.has D (ky i) = true ↔ d.vs i ≠ [])
  at_ : ∀ i, i < d.rd.length → d.vs i ≠ [] → ∀ z, D.atKey (ky i) z = .held (val i)
  row : ∀ i, i < d.rd.length → d.vs i ≠ [] → w.ownsRow 0 31 128 (val i) (d.vs i).length (cellsB (d.vs i).flatten)
  all : ∀ i, i < d.rd.length → ∀ s ∈ d.vs i, s.length = 128
  own : ∀ i b, i < d.rd.length → d.vs i ≠ [] → (val i).ownBlock = some b → F b ∧ b ≠ g ∧ b ≠ R ∧ b ≠ M
  sep : ∀ i j b, i < d.rd.length → j < d.rd.length → d.vs i ≠ [] → d.vs j ≠ [] → i ≠ j → (val i).ownBlock = some b → (val j).ownBlock ≠ some b

section
variable {w w' : World} {F G : Nat → Prop} {g R M : Nat} {D : DataW Value} {val : Nat → Value} {d : DS}
/-- It stays while other blocks are written. -/
theorem DiskW.keep (h : DiskW w F g R M D val d) (f : Fr G w w') (hG : ∀ i, F i → ¬ G i) : DiskW w' F g R M D val d :=
  { h with
    blk := h.blk.keep f (hG _ h.fg)
    red := h.red.keep f (hG _ h.fR)
    map := map_keep h.map f (hG _ h.fM)
    row := fun i hi hv => own_keep (h.row i hi hv) f (fun b hb => hG _ (h.own i b hi hv hb).1) }
theorem DiskW.mono (h : DiskW w F g R M D val d) (hFG : ∀ i, F i → G i) : DiskW w G g R M D val d :=
  { h with fg := hFG _ h.fg, fR := hFG _ h.fR, fM := hFG _ h.fM, own := fun i b hi hv hb => ⟨hFG _ (h.own i b hi hv hb).1, (h.own i b hi hv hb).2⟩ }
/-- Its struct alone is written: the fuse. -/
theorem DiskW.fuse (h : DiskW w F g R M D val d) {fu dd : Bool} {lf : Int} (f : Fr (fun i => i = g) w w') (hb : Blk w' g 63 (dskC (some ⟨R, 0, none⟩) d.rd.length d.cp (.map (some M)) fu lf dd)) (h0 : 0 ≤ lf) (h1 : lf ≤ 9223372036854775807) :
    DiskW w' F g R M D val { d with fu := fu, lf := lf, dd := dd } :=
  { h with
    l0 := h0
    l1 := h1
    blk := hb
    red := h.red.keep f (fun e => h.gR e.symm)
    map := map_keep h.map f (fun e => h.gM e.symm)
    row := fun i hi hv => own_keep (h.row i hi hv) f (fun b hb e => (h.own i b hi hv hb).2.1 e) }
/-- A step taken off the fuse. -/
def DS.step (d : DS) : DS := { d with lf := leftS d.fu d.lf d.dd, dd := deadS d.fu d.lf d.dd }
theorem dstep_any (h : DiskW w F g R M D val d) : Calls Try.prog 35 #[.pointer (some ⟨g, 0, none⟩)] w fun e w' =>
    e = .returned (.int .i64 (if deadS d.fu d.lf d.dd then 10 else 0)) ∧ DiskW w' F g R M D val d.step ∧ Fr (fun i => i = g) w w' := by
  refine (step_any h.blk h.l0 h.l1).mono ?_
  rintro e w1 ⟨rfl, hb, hf⟩
  refine ⟨rfl, h.fuse hf hb ?_ ?_, hf⟩
  · have h0 := h.l0
    unfold leftS deadS
    cases d.fu <;> cases d.dd <;> simp <;> (try omega)
  · have h0 := h.l1
    unfold leftS deadS
    cases d.fu <;> cases d.dd <;> simp <;> (try omega)
theorem dfuse_any (h : DiskW w F g R M D val d) (k : Int) (h0 : ¬ k < 0) (h1 : k ≤ 9223372036854775807) : Calls Try.prog 25 #[.pointer (some ⟨g, 0, none⟩), .int .i64 k] w fun e w' =>
    e = .returned (.int .i64 0) ∧ DiskW w' F g R M D val { d with fu := true, lf := k } ∧ Fr (fun i => i = g) w w' := by
  refine (fuse_any h.blk h.n0 k h0).mono ?_
  rintro e w1 ⟨rfl, hb, hf⟩
  exact ⟨rfl, h.fuse hf hb (by omega) h1, hf⟩
theorem flat_secs {w : World} {b : Nat} : ∀ {ss : List (List UInt8)} {off : Nat}, (∀ s ∈ ss, s.length = 128) → w.rangeAt b off (cellsB ss.flatten) → SecsAt w b off ss
  | [], off, _, _ => fun i s hi => by simp at hi
  | s :: ss, off, h, hr => fun i x hi => by
    have hl := h s (by simp)
    rw [List.flatten_cons, cellsB_app] at hr
    cases i with
    | zero =>
      simp only [List.getElem?_cons_zero, Option.some.injEq] at hi
      subst hi
      refine ⟨hl, fun j v hv => ?_⟩
      rw [Nat.zero_mul, Nat.add_zero]
      have hj : j < (cellsB s).length := (List.getElem?_eq_some_iff.1 hv).1
      exact hr j v (by rw [List.getElem?_append_left hj]; exact hv)
    | succ i =>
      rw [List.getElem?_cons_succ] at hi
      have ih := flat_secs (w := w) (b := b) (ss := ss) (off := off + 128) (fun y hy => h y (by simp [hy])) (fun j v hv => by
        have := hr (128 + j) v (by rw [List.getElem?_append_right (by rw [cellsB_len, hl]; omega), cellsB_len, hl]; rw [Nat.add_sub_cancel_left]; exact hv)
        have e : off + 128 + j = off + (128 + j) := by omega
        rw [e]
        exact this)
      have := ih i x hi
      have e : off + (i + 1) * 128 = off + 128 + i * 128 := by omega
      rw [e]
      exact this
theorem DiskW.secs (h : DiskW w F g R M D val d) : SecsAt w R 0 d.rd := by
  refine flat_secs h.hl ?_
  have := h.red.range 0 d.rd.flatten.length
  rwa [List.drop_zero, List.take_left' rfl] at this
theorem dread_any (h : DiskW w F g R M D val d) {k : Nat} {s : List UInt8} (hk : d.rd[k]? = some s) : Calls Try.prog 19 #[.pointer (some ⟨g, 0, none⟩), .int .i64 k] w fun e w' => e = .returned (.tuple #[av s, .int .i64 0]) ∧ Fr (fun _ => False) w w' := by
  obtain ⟨hl, hr⟩ := h.secs k s hk
  rw [Nat.zero_add] at hr
  exact read_any h.blk hl hr (List.getElem?_eq_some_iff.1 hk).1
theorem dread_bad (h : DiskW w F g R M D val d) {i : Int} (hi : i < 0 ∨ (d.rd.length : Int) ≤ i) : Calls Try.prog 19 #[.pointer (some ⟨g, 0, none⟩), .int .i64 i] w fun e w' => e = .returned (.tuple #[av (nought 128), .int .i64 2]) ∧ Fr (fun _ => False) w w' := by
  refine read_err (by omega) fun w1 hf => ?_
  have := has_any (h.blk.keep hf (fun q => q)) i
  have he : hasE d.rd.length i = 2 := by unfold hasE; rw [if_neg (by have := h.n0; omega), if_pos hi]
  rw [he] at this
  exact this
end
end Go.Proofs.Ytiobmejnamdneaa
