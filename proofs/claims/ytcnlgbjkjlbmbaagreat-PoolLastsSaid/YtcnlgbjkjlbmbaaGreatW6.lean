/- W6: laid together out of Dsk New Wrp Wri. -/
import Derived.Maps.OwnSet
import Derived.Maps.Ext
import Derived.Carry
import Derived.Great.BuildSlice
import Derived.Maps.OwnOps
import Derived.Test.YtcnlgbjkjlbmbaaGreatW5
namespace Go.Proofs.YtcnlgbjkjlbmbaaGreat
open Go.RowKit

abbrev HV : Value → Option (DataW Value × List MemPlace) := fun v => some (.held v, [])
abbrev ky (i : Nat) : Lit := .int .i64 (i : Int)
set_option maxRecDepth 100000 in
theorem kyT : Maps.Keyed Tryz.prog 3 := Maps.int_keyed Tryz.underlying3
set_option maxRecDepth 100000 in
theorem ky_of {i : Nat} (h : i ≤ 8192) : keyOf Tryz.prog 3 (.int .i64 (i : Int)) = some (ky i) := Maps.keyOf_int_mk Tryz.underlying3 (WalkArith.wf_i64 (by omega))
set_option maxRecDepth 100000 in
theorem ky_inj {i j : Nat} (h : i ≠ j) : ky i ≠ ky j := fun e => by
 simp only [ky, Lit.int.injEq, true_and] at e
 omega
set_option maxRecDepth 100000 in
theorem ky_lit (i : Nat) (h : i ≤ 8192) : WideAt.IsKeyLit (ky i) := kyT.key (ky_of h)
set_option maxRecDepth 100000 in
theorem map_keep {G : Nat → Prop} {w w' : World} {M k : Nat} {D : DataW Value} (h : w.ownsMap Tryz.prog 3 HV M k D) (f : Fr G w w') (hM : ¬ G M) : w'.ownsMap Tryz.prog 3 HV M k D := by
 have hlt := h.lt
 obtain ⟨es, clock, hb, r⟩ := h
 exact ⟨es, clock, (f.block M hlt hM).trans hb, r⟩
set_option maxRecDepth 100000 in
theorem map_tight {w : World} {M k : Nat} {D : DataW Value} (h : w.ownsMap Tryz.prog 3 HV M k D) : w.ownsMap Tryz.prog 3 HV M (Maps.size D) D := by
 obtain ⟨es, clock, hb, F, hs, rfl⟩ := h
 exact ⟨es, clock, hb, F, Nat.le_of_eq (length_read es).symm, rfl⟩

structure DS where
 rd : List (List UInt8)
 vs : Nat → List (List UInt8)
 fu : Bool
 lf : Int
 dd : Bool
 cp : Nat
 sp : List UInt8
structure DiskW (w : World) (F : Nat → Prop) (g R M : Nat) (D : DataW Value) (val : Nat → Value) (d : DS) : Prop where
 fg : F g
 fR : F R
 fM : F M
 gR : g ≠ R
 gM : g ≠ M
 rM : R ≠ M
 n0 : 0 < d.rd.length
 n1 : d.rd.length ≤ 8192
 hl : ∀ s ∈ d.rd, s.length = 128
 l0 : 0 ≤ d.lf
 l1 : d.lf ≤ 9223372036854775807
 blk : Blk w g 74 (dskC (some ⟨R, 0, none⟩) d.rd.length d.cp (.map (some M)) d.fu d.lf d.dd)
 red : Blk w R 83 (cellsB (d.rd.flatten ++ d.sp)).toArray
 map : w.ownsMap Tryz.prog 3 HV M (Maps.size D) D
 keys : ∀ k, Maps.has D k = true → ∃ i, k = ky i ∧ i < d.rd.length
 opn : ∀ i, i < d.rd.length → (Maps.has D (ky i) = true ↔ d.vs i ≠ [])
 at_ : ∀ i, i < d.rd.length → d.vs i ≠ [] → ∀ z, D.atKey (ky i) z = .held (val i)
 row : ∀ i, i < d.rd.length → d.vs i ≠ [] → w.ownsRow 0 83 128 (val i) (d.vs i).length (cellsB (d.vs i).flatten)
 all : ∀ i, i < d.rd.length → ∀ s ∈ d.vs i, s.length = 128
 own : ∀ i b, i < d.rd.length → d.vs i ≠ [] → (val i).ownBlock = some b → F b ∧ b ≠ g ∧ b ≠ R ∧ b ≠ M
 sep : ∀ i j b, i < d.rd.length → j < d.rd.length → d.vs i ≠ [] → d.vs j ≠ [] → i ≠ j → (val i).ownBlock = some b → (val j).ownBlock ≠ some b

section
variable {w w' : World} {F G : Nat → Prop} {g R M : Nat} {D : DataW Value} {val : Nat → Value} {d : DS}
set_option maxRecDepth 100000 in
theorem DiskW.keep (h : DiskW w F g R M D val d) (f : Fr G w w') (hG : ∀ i, F i → ¬ G i) : DiskW w' F g R M D val d :=
 { h with
  blk := h.blk.keep f (hG _ h.fg)
  red := h.red.keep f (hG _ h.fR)
  map := map_keep h.map f (hG _ h.fM)
  row := fun i hi hv => own_keep (h.row i hi hv) f (fun b hb => hG _ (h.own i b hi hv hb).1) }
set_option maxRecDepth 100000 in
theorem DiskW.mono (h : DiskW w F g R M D val d) (hFG : ∀ i, F i → G i) : DiskW w G g R M D val d :=
 { h with fg := hFG _ h.fg, fR := hFG _ h.fR, fM := hFG _ h.fM, own := fun i b hi hv hb => ⟨hFG _ (h.own i b hi hv hb).1, (h.own i b hi hv hb).2⟩ }
set_option maxRecDepth 100000 in
theorem DiskW.fuse (h : DiskW w F g R M D val d) {fu dd : Bool} {lf : Int} (f : Fr (fun i => i = g) w w') (hb : Blk w' g 74 (dskC (some ⟨R, 0, none⟩) d.rd.length d.cp (.map (some M)) fu lf dd)) (h0 : 0 ≤ lf) (h1 : lf ≤ 9223372036854775807) :
 DiskW w' F g R M D val { d with fu := fu, lf := lf, dd := dd } :=
 { h with
  l0 := h0
  l1 := h1
  blk := hb
  red := h.red.keep f (fun e => h.gR e.symm)
  map := map_keep h.map f (fun e => h.gM e.symm)
  row := fun i hi hv => own_keep (h.row i hi hv) f (fun b hb e => (h.own i b hi hv hb).2.1 e) }
def DS.step (d : DS) : DS := { d with lf := leftS d.fu d.lf d.dd, dd := deadS d.fu d.lf d.dd }
set_option maxRecDepth 100000 in
theorem dstep_any (h : DiskW w F g R M D val d) : Calls Tryz.prog 115 #[.pointer (some ⟨g, 0, none⟩)] w fun e w' =>
 e = .returned (.int .i64 (if deadS d.fu d.lf d.dd then 10 else 0)) ∧ DiskW w' F g R M D val d.step ∧ Fr (fun i => i = g) w w' := by
 refine (step_any h.blk h.l0 h.l1).mono ?_
 rintro e w1 ⟨rfl, hb, hf⟩
 refine ⟨rfl, h.fuse hf hb ?_ ?_, hf⟩
 · have h0 := h.l0
   unfold leftS deadS
   cases d.fu <;> cases d.dd <;> simp <;> (try omega)
 · have h0 := h.l1
   unfold leftS deadS
   cases d.fu <;> cases d.dd <;> simp <;> (try omega)
set_option maxRecDepth 100000 in
theorem dfuse_any (h : DiskW w F g R M D val d) (k : Int) (h0 : ¬ k < 0) (h1 : k ≤ 9223372036854775807) : Calls Tryz.prog 11 #[.pointer (some ⟨g, 0, none⟩), .int .i64 k] w fun e w' =>
 e = .returned (.int .i64 0) ∧ DiskW w' F g R M D val { d with fu := true, lf := k } ∧ Fr (fun i => i = g) w w' := by
 refine (fuse_any h.blk h.n0 k h0).mono ?_
 rintro e w1 ⟨rfl, hb, hf⟩
 exact ⟨rfl, h.fuse hf hb (by omega) h1, hf⟩
set_option maxRecDepth 100000 in
theorem flat_secs {w : World} {b : Nat} : ∀ {ss : List (List UInt8)} {off : Nat}, (∀ s ∈ ss, s.length = 128) → w.rangeAt b off (cellsB ss.flatten) → SecsAt w b off ss
 | [], off, _, _ => fun i s hi => by simp at hi
 | s :: ss, off, h, hr => fun i x hi => by
   have hl := h s (by simp)
   rw [List.flatten_cons, cellsB_app] at hr
   cases i with
   | zero =>
     simp only [List.getElem?_cons_zero, Option.some.injEq] at hi
     subst hi
     refine ⟨hl, fun j v hv => ?_⟩
     rw [Nat.zero_mul, Nat.add_zero]
     have hj : j < (cellsB s).length := (List.getElem?_eq_some_iff.1 hv).1
     exact hr j v (by rw [List.getElem?_append_left hj]; exact hv)
   | succ i =>
     rw [List.getElem?_cons_succ] at hi
     have ih := flat_secs (w := w) (b := b) (ss := ss) (off := off + 128) (fun y hy => h y (by simp [hy])) (fun j v hv => by
      have := hr (128 + j) v (by rw [List.getElem?_append_right (by rw [cellsB_len, hl]; omega), cellsB_len, hl]; rw [Nat.add_sub_cancel_left]; exact hv)
      have e : off + 128 + j = off + (128 + j) := by omega
      rw [e]
      exact this)
     have := ih i x hi
     have e : off + (i + 1) * 128 = off + 128 + i * 128 := by omega
     rw [e]
     exact this
set_option maxRecDepth 100000 in
theorem DiskW.secs (h : DiskW w F g R M D val d) : SecsAt w R 0 d.rd := by
 refine flat_secs h.hl ?_
 have := h.red.range 0 d.rd.flatten.length
 rwa [List.drop_zero, List.take_left' rfl] at this
set_option maxRecDepth 100000 in
theorem dread_any (h : DiskW w F g R M D val d) {k : Nat} {s : List UInt8} (hk : d.rd[k]? = some s) : Calls Tryz.prog 116 #[.pointer (some ⟨g, 0, none⟩), .int .i64 k] w fun e w' => e = .returned (.tuple #[av s, .int .i64 0]) ∧ Fr (fun _ => False) w w' := by
 obtain ⟨hl, hr⟩ := h.secs k s hk
 rw [Nat.zero_add] at hr
 exact read_any h.blk hl hr (List.getElem?_eq_some_iff.1 hk).1
end
end Go.Proofs.YtcnlgbjkjlbmbaaGreat

namespace Go.Proofs.YtcnlgbjkjlbmbaaGreat
open Go.RowKit

set_option maxRecDepth 100000 in
theorem flat_nought : ∀ n : Nat, (List.replicate n (nought 128)).flatten = nought (n * 128)
 | 0 => rfl
 | n + 1 => by
   rw [List.replicate_succ, List.flatten_cons, flat_nought n]
   unfold nought
   rw [List.replicate_append_replicate]
   congr 1
   omega
def newD (n : Nat) : DS := ⟨List.replicate n (nought 128), fun _ => [], false, 0, false, n, []⟩
set_option maxRecDepth 100000 in
theorem new_disk (w : World) {n : Nat} (h0 : 0 < n) (h1 : n ≤ 8192) : DiskW (((w.alloc (.cells (cellsB (nought (n * 128))).toArray 83)).alloc (.map #[] 0)).alloc (.cells (dskC (some ⟨w.heap.size, 0, none⟩) n n (.map (some (w.heap.size + 1))) false 0 false) 74))
 (fun i => w.heap.size ≤ i) (w.heap.size + 1 + 1) w.heap.size (w.heap.size + 1) (.map []) (fun _ => undef) (newD n) where
 fg := by show w.heap.size ≤ w.heap.size + 1 + 1; omega
 fR := Nat.le_refl _
 fM := Nat.le_succ _
 gR := by omega
 gM := by omega
 rM := by omega
 n0 := by simpa [newD] using h0
 n1 := by simpa [newD] using h1
 hl := fun s hs => by
  simp only [newD, List.mem_replicate] at hs
  rw [hs.2, nought_len]
 l0 := by simp [newD]
 l1 := by simp [newD]
 blk := by
  have := Blk.new ((w.alloc (.cells (cellsB (nought (n * 128))).toArray 83)).alloc (.map #[] 0)) 74 (dskC (some ⟨w.heap.size, 0, none⟩) n n (.map (some (w.heap.size + 1))) false 0 false)
  simpa [newD] using this
 red := by
  have := ((Blk.new w 83 (cellsB (nought (n * 128))).toArray).keep (F := fun _ => False) ((Fr.refl _ _).alloc (.map #[] 0)) (fun q => q)).keep (F := fun _ => False) ((Fr.refl _ _).alloc (.cells (dskC (some ⟨w.heap.size, 0, none⟩) n n (.map (some (w.heap.size + 1))) false 0 false) 74)) (fun q => q)
  have e : (newD n).rd.flatten ++ (newD n).sp = nought (n * 128) := (List.append_nil _).trans (flat_nought n)
  rw [e]
  exact this
 map := by
  have h := World.ownsMap_made (w.alloc (.cells (cellsB (nought (n * 128))).toArray 83)) Tryz.prog 3 HV
  have e : (w.alloc (.cells (cellsB (nought (n * 128))).toArray 83)).heap.size = w.heap.size + 1 := by simp
  rw [e] at h
  exact h.alloc _
 keys := fun k hk => by cases hk
 opn := fun i _ => ⟨fun hk => (by cases hk), fun hv => absurd rfl hv⟩
 at_ := fun i _ hv => absurd rfl hv
 row := fun i _ hv => absurd rfl hv
 all := fun i _ s hs => by cases hs
 own := fun i b _ hv => absurd rfl hv
 sep := fun i j b _ _ hv => absurd rfl hv
set_option maxRecDepth 100000 in
theorem new_any (w : World) {n : Nat} (h0 : 0 < n) (h1 : n ≤ 8192) : Calls Tryz.prog 30 #[.int .i64 n] w fun e w' =>
 e = .returned (.tuple #[.pointer (some ⟨w.heap.size + 1 + 1, 0, none⟩), .int .i64 0]) ∧ DiskW w' (fun i => w.heap.size ≤ i) (w.heap.size + 1 + 1) w.heap.size (w.heap.size + 1) (.map []) (fun _ => undef) (newD n) ∧ Fr (fun _ => False) w w' := by
 have hmk := make_sectors w n (by omega)
 have hmm := @run_makeMap Tryz.prog
 have hn1 : ¬ ((n : Int) < 1) := by omega
 have hn2 : ¬ ((8192 : Int) < (n : Int)) := by omega
 have HN := Lib.hid (And.intro h0 h1)
 clear h0 h1
 go_enter Tryz.func30, Tryz.ntmps30
 go_wp2_with fail
 go_ret2
 exact ⟨rfl, new_disk w HN.out.1 HN.out.2, (((Fr.refl _ w).alloc _).alloc _).alloc _⟩
end Go.Proofs.YtcnlgbjkjlbmbaaGreat

namespace Go.Proofs.YtcnlgbjkjlbmbaaGreat
open Go.RowKit

set_option maxRecDepth 100000 in
theorem dflat_len : ∀ {ss : List (List UInt8)}, (∀ s ∈ ss, s.length = 128) → ss.flatten.length = ss.length * 128
 | [], _ => rfl
 | s :: ss, h => by
   rw [List.flatten_cons, List.length_append, dflat_len (fun x hx => h x (by simp [hx])), h s (by simp), List.length_cons]
   omega
set_option maxRecDepth 100000 in
theorem flat_set : ∀ {ss : List (List UInt8)} {i : Nat} {s : List UInt8}, (∀ x ∈ ss, x.length = 128) → s.length = 128 → i < ss.length → patch ss.flatten (i * 128) s = (ss.set i s).flatten
 | [], i, s, _, _, hi => by simp at hi
 | x :: ss, 0, s, h, hs, _ => by
   have hx := h x (by simp)
   simp [patch, hs, hx]
 | x :: ss, i + 1, s, h, hs, hi => by
   have hx := h x (by simp)
   have ih := flat_set (ss := ss) (i := i) (s := s) (fun y hy => h y (by simp [hy])) hs (by simpa using hi)
   rw [List.set_cons_succ, List.flatten_cons, List.flatten_cons, ← ih]
   unfold patch
   have e1 : (i + 1) * 128 = x.length + i * 128 := by omega
   have e2 : (i + 1) * 128 + s.length = x.length + (i * 128 + s.length) := by omega
   rw [e2, e1, List.take_length_add_append, List.drop_length_add_append]
   simp

set_option maxRecDepth 100000 in
theorem dpatch_app {a b m : List UInt8} {o : Nat} (h : o + m.length ≤ a.length) : patch (a ++ b) o m = patch a o m ++ b := by
 unfold patch
 rw [List.take_append_of_le_length (by omega), List.drop_append_of_le_length h]
 simp

def DS.put (d : DS) (i : Nat) (u : List (List UInt8)) (s : List UInt8) : DS := { d with rd := d.rd.set i s, vs := fun j => if j = i then u ++ [s] else d.vs j }
section
variable {w w7 w8 w9 : World} {F : Nat → Prop} {g R M : Nat} {D : DataW Value} {val : Nat → Value} {d : DS}
set_option maxRecDepth 100000 in
theorem DiskW.put (h : DiskW w F g R M D val d) {i B : Nat} (hi : i < d.rd.length) {v v' : Value} {u : List (List UInt8)} {s : List UInt8} (hs : s.length = 128) (hu : ∀ x ∈ u, x.length = 128)
 (hB : B ≤ w.heap.size) (hrow : w7.ownsRow 0 83 128 v' (u.length + 1) (cellsB (u ++ [s]).flatten)) (f1 : Fr (fun b => v.ownBlock = some b) w w7)
 (hvb : ∀ b, v.ownBlock = some b → (F b ∨ B ≤ b) ∧ b ≠ g ∧ b ≠ R ∧ b ≠ M ∧ ∀ j, j < d.rd.length → d.vs j ≠ [] → j ≠ i → (val j).ownBlock ≠ some b)
 (hvb' : v'.ownBlock = v.ownBlock ∨ v'.ownBlock = some w.heap.size) {k : Nat}
 (hm : w8.ownsMap Tryz.prog 3 HV M k (D.put (ky i) (.held v'))) (f2 : Fr (fun b => b = M) w7 w8)
 (hR : Blk w9 R 83 (cellsB ((d.rd.set i s).flatten ++ d.sp)).toArray) (f3 : Fr (fun b => b = R) w8 w9) :
 DiskW w9 (fun b => F b ∨ B ≤ b) g R M (D.put (ky i) (.held v')) (fun j => if j = i then v' else val j) (d.put i u s) := by
 have hMI := h.map.isMap
 have hlen : (d.put i u s).rd.length = d.rd.length := by simp [DS.put]
 have hgl := h.blk.lt
 have hRl := h.red.lt
 have hMl := h.map.lt
 have f12 : Fr (fun b => v.ownBlock = some b ∨ b = M ∨ b = R) w w9 := ((f1.mono (fun _ _ q => .inl q)).trans f2 (fun _ _ q => .inr (.inl q))).trans f3 (fun _ _ q => .inr (.inr q))
 have hn8 := h.n1
 have hlit : ∀ j, j < d.rd.length → WideAt.IsKeyLit (ky j) := fun j hj => ky_lit j (by omega)
 have hown : ∀ j b, j < d.rd.length → d.vs j ≠ [] → j ≠ i → (val j).ownBlock = some b → ¬ (v.ownBlock = some b ∨ b = M ∨ b = R) := fun j b hj hv hne hb q => by
  obtain ⟨_, _, h2, h3⟩ := h.own j b hj hv hb
  rcases q with q | q | q
  · exact (hvb b q).2.2.2.2 j hj hv hne hb
  · exact h3 q
  · exact h2 q
 have hnew : ∀ b, v'.ownBlock = some b → (F b ∨ B ≤ b) ∧ b ≠ g ∧ b ≠ R ∧ b ≠ M ∧ ∀ j, j < d.rd.length → d.vs j ≠ [] → j ≠ i → (val j).ownBlock ≠ some b := fun b hb => by
  rcases hvb' with e | e
  · exact hvb b (by rw [← e]; exact hb)
  · rw [e] at hb
    injection hb with hb
    subst hb
    refine ⟨.inr hB, by omega, by omega, by omega, fun j hj hv hne hb => ?_⟩
    have hr := h.row j hj hv
    rcases hr.2 with ⟨q, _⟩ | ⟨b', cap, cur, q, _, hbb, _⟩
    · rw [q] at hb; simp [Value.ownBlock] at hb
    · rw [q] at hb
      have hb2 : b' = w.heap.size := by simpa [Value.ownBlock] using hb
      have := (Array.getElem?_eq_some_iff.1 hbb).1
      omega
 constructor
 case fg => exact .inl h.fg
 case fR => exact .inl h.fR
 case fM => exact .inl h.fM
 case gR => exact h.gR
 case gM => exact h.gM
 case rM => exact h.rM
 case n0 => rw [hlen]; exact h.n0
 case n1 => rw [hlen]; exact h.n1
 case hl =>
  intro x hx
  rcases List.mem_or_eq_of_mem_set hx with hx | rfl
  · exact h.hl x hx
  · exact hs
 case l0 => exact h.l0
 case l1 => exact h.l1
 case blk =>
  rw [hlen]
  exact h.blk.keep f12 (fun q => by
   rcases q with q | q | q
   · exact (hvb g q).2.1 rfl
   · exact h.gM q
   · exact h.gR q)
 case red => exact hR
 case map => exact map_tight (map_keep hm f3 (fun e => h.rM e.symm))
 case keys =>
  intro k hk
  rw [hlen]
  by_cases e : k = ky i
  · exact ⟨i, e, hi⟩
  · rw [Maps.has_put_other e] at hk
    exact h.keys k hk
 case opn =>
  intro j hj
  rw [hlen] at hj
  by_cases e : j = i
  · subst e
    rw [Maps.has_put_same hMI (hlit j hj)]
    simp [DS.put]
  · rw [Maps.has_put_other (ky_inj e)]
    simpa [DS.put, e] using h.opn j hj
 case at_ =>
  intro j hj hv z
  rw [hlen] at hj
  by_cases e : j = i
  · subst e
    rw [Maps.atKey_put_same hMI (hlit j hj)]
    simp
  · rw [Maps.atKey_put_other (ky_inj e)]
    simp only [DS.put, e, if_false] at hv
    simpa [e] using h.at_ j hj hv z
 case row =>
  intro j hj hv
  rw [hlen] at hj
  by_cases e : j = i
  · subst e
    have := own_keep hrow (f2.mono (G := fun b => b = M ∨ b = R) (fun _ _ q => .inl q) |>.trans f3 (fun _ _ q => .inr q)) (fun b hb q => by
     obtain ⟨_, _, q2, q3, _⟩ := hnew b hb
     rcases q with q | q
     · exact q3 q
     · exact q2 q)
    simpa [DS.put] using this
  · simp only [DS.put, e, if_false] at hv ⊢
    exact own_keep (h.row j hj hv) f12 (fun b hb => hown j b hj hv e hb)
 case all =>
  intro j hj x hx
  rw [hlen] at hj
  by_cases e : j = i
  · subst e
    simp only [DS.put, if_true, List.mem_append, List.mem_singleton] at hx
    rcases hx with hx | rfl
    · exact hu x hx
    · exact hs
  · simp only [DS.put, e, if_false] at hx
    exact h.all j hj x hx
 case own =>
  intro j b hj hv hb
  rw [hlen] at hj
  by_cases e : j = i
  · subst e
    simp only [if_true] at hb
    obtain ⟨q1, q2, q3, q4, _⟩ := hnew b hb
    exact ⟨q1, q2, q3, q4⟩
  · simp only [DS.put, e, if_false] at hv hb
    obtain ⟨q1, q2⟩ := h.own j b hj hv hb
    exact ⟨.inl q1, q2⟩
 case sep =>
  intro j l b hj hl hvj hvl hne hb
  rw [hlen] at hj hl
  by_cases ej : j = i
  · subst ej
    have el : l ≠ j := fun q => hne q.symm
    simp only [if_true] at hb
    simp only [DS.put, el, if_false] at hvl ⊢
    exact (hnew b hb).2.2.2.2 l hl hvl el
  · simp only [DS.put, ej, if_false] at hvj hb
    by_cases el : l = i
    · subst el
      simp only [if_true]
      exact fun q => (hnew b q).2.2.2.2 j hj hvj ej hb
    · simp only [DS.put, el, if_false] at hvl ⊢
      exact h.sep j l b hj hl hvj hvl hne hb
end
end Go.Proofs.YtcnlgbjkjlbmbaaGreat

namespace Go.Proofs.YtcnlgbjkjlbmbaaGreat
open Go.RowKit Go.Maps

section
variable {o : Oper} {a : Act} {w : World}
set_option maxRecDepth 100000 in
theorem run_build_op (x : Operand) (hop : o.op = .buildSlice 71 1 #[(0, x)]) {l : List UInt8} (hl : l.length = 128) (hx : a.eval x = av l) :
 (execOp a.eval o).run Tryz.prog w = .ok (.value (.slice (some ⟨w.heap.size, 0, none⟩) 1 1)) (w.alloc (.cells (cellsB l).toArray 83)) := by
 have hr := slice_of_one hl w
 unfold execOp
 simp only [hop, Array.map, hx]
 simp [hr, hx, Result.andThen]
set_option maxRecDepth 100000 in
theorem run_append_op (s x : Operand) (hop : o.op = Op.call { callee := Callee.builtin Builtin.append, args := #[s, x], argTypes := #[71, 71] }) {v y v' : Value} {w' : World} (hs : a.eval s = v) (hx : a.eval x = y)
 (hrun : (Builtin.append_ #[71, 71] o.type #[v, y]).run Tryz.prog w = .ok v' w') : (execOp a.eval o).run Tryz.prog w = .ok (.value v') w' := by
 simp [execOp, hop, resolve, invoke, builtin, hs, hx, hrun, Result.andThen]
set_option maxRecDepth 100000 in
theorem run_update_op (m x y : Operand) (t : TypeId) (hop : o.op = Op.mapUpdate t m x y) {vm vx vy : Value} {w' : World} (hm : a.eval m = vm) (hx : a.eval x = vx) (hy : a.eval y = vy)
 (hrun : (Instr.mapUpdate t vm vx vy).run Tryz.prog w = .ok () w') : (execOp a.eval o).run Tryz.prog w = .ok .skip w' := by
 simp [execOp, hop, hm, hx, hy, hrun, Result.andThen]
end
set_option maxRecDepth 100000 in
theorem zeroSl (w : World) : (zeroValue 71).run Tryz.prog w = .ok (.slice none 0 0) w := by kernel_rfl
set_option maxRecDepth 100000 in
theorem append_one {w : World} {v : Value} {u : List (List UInt8)} {s : List UInt8} (hown : w.ownsRow 0 83 128 v u.length (cellsB u.flatten)) {b : Nat} (hb : Blk w b 83 (cellsB s).toArray) (hs : s.length = 128) (hN : u.length ≤ 100000) (ty : TypeId) :
 ∃ v' w', (Builtin.append_ #[71, 71] ty #[v, .slice (some ⟨b, 0, none⟩) 1 1]).run Tryz.prog w = .ok v' w' ∧ w'.ownsRow 0 83 128 v' (u.length + 1) (cellsB (u ++ [s]).flatten) ∧ w.grownBy w' v.ownBlock ∧ (v'.ownBlock = v.ownBlock ∨ v'.ownBlock = some w.heap.size) := by
 obtain ⟨i0, hi, hz0, hz1, hz2⟩ := info_parts infoSec
 obtain ⟨v', w', hrun, h2, h3, _, h5⟩ := run_append_own_at (P := Tryz.prog) w 0 71 ty 83 i0 (av (nought 128)) 128 128 Tryz.underlying71 hi hz0 hz1 hz2 (by simp [Value.cells, cellsB_len, nought_len]) (by omega) v u.length (cellsB u.flatten) hown ⟨b, 0, none⟩ 1 1 (cellsB s)
  (by rw [cellsB_len, hs]) (fun j z hj => by
    rw [Addr.add_mid]
    exact (sec_range hs hb) j z hj) (cellsB_one _) (by simp only [maxLen]; omega) (by omega) (Nat.zero_le _)
 rw [← cellsB_app] at h2
 refine ⟨v', w', hrun, ?_, h3, h5⟩
 have e : (u ++ [s]).flatten = u.flatten ++ s := by simp
 rw [e]
 exact h2
set_option maxRecDepth 100000 in
theorem own_one {w : World} {b : Nat} {s : List UInt8} (hb : Blk w b 83 (cellsB s).toArray) (hs : s.length = 128) : w.ownsRow 0 83 128 (.slice (some ⟨b, 0, none⟩) 1 1) 1 (cellsB s) :=
 ⟨by rw [cellsB_len, hs], .inr ⟨b, 1, (cellsB s).toArray, rfl, Nat.zero_le _, hb, Nat.le_refl _, by simp [maxLen], by simp [cellsB_len, hs], by simp [List.take_of_length_le, cellsB_len, hs]⟩⟩

set_option maxRecDepth 100000 in
theorem write_err {w : World} {p : Value} {i x : Int} {s : List UInt8} (hx : x ≠ 0) (hh : ∀ w', Fr (fun _ => False) w w' → Calls Tryz.prog 114 #[p, .int .i64 i] w' fun e w'' => e = .returned (.int .i64 x) ∧ w' = w'') :
 Calls Tryz.prog 89 #[p, .int .i64 i, av s] w fun e w' => e = .returned (.int .i64 x) ∧ Fr (fun _ => False) w w' := by
 have hf := (Fr.refl (fun _ => False) w).alloc (.cells (cellsB s).toArray 83)
 have HH := hh _ hf
 have hxb : (x == 0) = false := by simp [hx]
 have HF := Lib.hid hf
 clear hh hf
 go_enter Tryz.func89, Tryz.ntmps89
 go_wp2_with (first
  | (refine wpList_put rfl 83 _ rfl _ rfl ?_)
  | (go_at_call 114; refine HH.mono ?_; rintro e w' ⟨rfl, rfl⟩))
 go_ret
 exact ⟨rfl, HF.out⟩
section
variable {ops : Array Oper} {o : Oper} {a : Act} {Q : Exit → Act → World → Prop}
set_option maxRecDepth 100000 in
theorem wpList_build_sec {rest : List Oper} {w : World} (hg : o.guard = none) (x : Operand) (hop : o.op = .buildSlice 71 1 #[(0, x)]) {l : List UInt8} (hl : l.length = 128) (hx : a.eval x = av l)
 (hK : wpList Tryz.prog ops Q rest (a.put o.dst (.slice (some ⟨w.heap.size, 0, none⟩) 1 1)) (w.alloc (.cells (cellsB l).toArray 83))) : wpList Tryz.prog ops Q (o :: rest) a w := by
 refine wpList_plain hg fun K hK' => ?_
 have hr := slice_of_one hl w
 unfold Oper.wp execOp
 simp only [hop, Array.map, hx]
 simp [hr, hx, Result.andThen]
 exact hK' _ _ hK
end

set_option maxRecDepth 100000 in
theorem len_le {l : List Nat} {n : Nat} (hd : l.Nodup) (h : ∀ x ∈ l, x < n) : l.length ≤ n := by
 have hp : l.Perm ((List.range n).filter (fun x => decide (x ∈ l))) := by
  refine (List.perm_ext_iff_of_nodup hd (List.nodup_range.filter _)).2 fun x => ?_
  simp only [List.mem_filter, List.mem_range, decide_eq_true_eq]
  exact ⟨fun hx => ⟨h x hx, hx⟩, fun hx => hx.2⟩
 rw [hp.length_eq]
 exact Nat.le_trans (List.length_filter_le _ _) (by simp)
set_option maxRecDepth 100000 in
theorem size_le {D : DataW Value} {n : Nat} (ht : Maps.Canon D) (hk : ∀ k, Maps.has D k = true → ∃ i, k = ky i ∧ i < n) : Maps.size D ≤ n := by
 obtain ⟨es, rfl, hp0, hlit⟩ := ht
 have hp := Maps.apart_of_rising hp0
 have hm : ∀ p ∈ es, ∃ i, p.1 = ky i ∧ i < n := fun p hpm => by
  refine hk p.1 ?_
  rw [Maps.has_eq, List.any_eq_true]
  exact ⟨p, hpm, WideAt.sameKey_self (hlit p hpm)⟩
 let f : Lit × DataW Value → Nat := fun p => match p.1 with | .int _ z => z.toNat | _ => 0
 have hf : ∀ p ∈ es, p.1 = ky (f p) := fun p hpm => by
  obtain ⟨i, hi, _⟩ := hm p hpm
  have : f p = i := by simp [f, hi]
  rw [this, hi]
 have := len_le (l := es.map f) (n := n) ?_ ?_
 · simpa [Maps.size] using this
 · rw [List.Nodup, List.pairwise_map]
   refine hp.imp_of_mem fun {p q} hp1 hq1 hne e => hne ?_
   rw [hf p hp1, hf q hq1, e]
 · intro x hx
   obtain ⟨p, hpm, rfl⟩ := List.mem_map.1 hx
   obtain ⟨i, hi, hlt⟩ := hm p hpm
   have : f p = i := by simp [f, hi]
   omega
section
variable {w : World} {F : Nat → Prop} {g R M : Nat} {D : DataW Value} {val : Nat → Value} {d : DS}
set_option maxRecDepth 100000 in
theorem DiskW.size_le (h : DiskW w F g R M D val d) : Maps.size D ≤ d.rd.length := Proofs.YtcnlgbjkjlbmbaaGreat.size_le (h.map.canon kyT) h.keys
set_option maxRecDepth 100000 in
theorem DiskW.own_lt (h : DiskW w F g R M D val d) {j b : Nat} (hj : j < d.rd.length) (hv : d.vs j ≠ []) (hb : (val j).ownBlock = some b) : b < w.heap.size := by
 rcases (h.row j hj hv).2 with ⟨q, _⟩ | ⟨b', cap, cur, q, _, hbb, _⟩
 · rw [q] at hb; simp [Value.ownBlock] at hb
 · rw [q] at hb
   have hb2 : b' = b := by simpa [Value.ownBlock] using hb
   rw [← hb2]
   exact (Array.getElem?_eq_some_iff.1 hbb).1
set_option maxRecDepth 100000 in
theorem DiskW.lt (h : DiskW w F g R M D val d) : g < w.heap.size ∧ R < w.heap.size ∧ M < w.heap.size := ⟨h.blk.lt, h.red.lt, h.map.lt⟩
set_option maxRecDepth 100000 in
theorem has_in (h : DiskW w F g R M D val d) {i : Nat} (hi : i < d.rd.length) : Calls Tryz.prog 114 #[.pointer (some ⟨g, 0, none⟩), .int .i64 i] w fun e w' => e = .returned (.int .i64 0) ∧ w = w' := by
 have := has_any h.blk (i : Int)
 have he : hasE d.rd.length (i : Int) = 0 := by unfold hasE; rw [if_neg (by omega), if_neg (by omega)]
 rwa [he] at this
set_option maxRecDepth 100000 in
theorem dwrite_dead (h : DiskW w F g R M D val d) {i : Nat} (hi : i < d.rd.length) {s : List UInt8} (hd : deadS d.fu d.lf d.dd = true) :
 Calls Tryz.prog 89 #[.pointer (some ⟨g, 0, none⟩), .int .i64 i, av s] w fun e w' => e = .returned (.int .i64 10) ∧ DiskW w' F g R M D val d.step ∧ Fr F w w' := by
 have hf := (Fr.refl (fun _ => False) w).alloc (.cells (cellsB s).toArray 83)
 have h0 := h.keep hf (fun _ _ q => q)
 have HH := has_in h0 hi
 have HS := dstep_any h0
 rw [hd] at HS
 simp only [↓reduceIte] at HS
 have HF := Lib.hid (And.intro hf h.fg)
 clear hf h0 hd h
 go_enter Tryz.func89, Tryz.ntmps89
 go_wp2_with (first
  | (refine wpList_put rfl 83 _ rfl _ rfl ?_)
  | (go_at_call 114; refine HH.mono ?_; rintro e w' ⟨rfl, rfl⟩)
  | (go_at_call 115; refine HS.mono ?_; rintro e w' ⟨rfl, h1, f1⟩))
 go_ret
 exact ⟨rfl, h1, (HF.out.1.mono (G := F) (fun _ _ q => q.elim)).trans f1 (fun j _ e => by have e' : j = g := e; rw [e']; exact HF.out.2)⟩

set_option maxRecDepth 100000 in
set_option maxHeartbeats 4000000 in
theorem dwrite_any (h : DiskW w F g R M D val d) {i : Nat} (hi : i < d.rd.length) {s x : List UInt8} (hs : s.length = 128) (hx : d.rd[i]? = some x) (hN : (d.vs i).length ≤ 10000) (hd : deadS d.fu d.lf d.dd = false) :
 Calls Tryz.prog 89 #[.pointer (some ⟨g, 0, none⟩), .int .i64 i, av s] w fun e w' => e = .returned (.int .i64 0) ∧ (∃ D' val', DiskW w' (fun b => F b ∨ w.heap.size ≤ b) g R M D' val' (d.step.put i (if d.vs i = [] then [x] else d.vs i) s)) ∧ Fr F w w' := by
 have hf := (Fr.refl (fun _ => False) w).alloc (.cells (cellsB s).toArray 83)
 have h0 := h.keep hf (fun _ _ q => q)
 have HH := has_in h0 hi
 have HS := dstep_any h0
 rw [hd] at HS
 simp only [Bool.false_eq_true, ↓reduceIte] at HS
 have hb0 := Blk.new w 83 (cellsB s).toArray
 have HP := Lib.hid (And.intro hf (And.intro h (And.intro hb0 hi)))
 have HL := Lib.hid hs
 have HKY := Lib.hid (ky_of (i := i) (by have := h.n1; omega))
 have hlt := h.lt
 clear hf h0 hd h hb0 hs
 by_cases hv0 : d.vs i = []
 · rw [if_pos hv0]
   obtain ⟨u, hu0⟩ : ∃ u, u = [x] := ⟨_, rfl⟩
   rw [← hu0]
   go_enter Tryz.func89, Tryz.ntmps89
   go_wp2_with (first
    | (refine wpList_put rfl 83 _ rfl _ rfl ?_)
    | (go_at_call 114; refine HH.mono ?_; rintro e w' ⟨rfl, rfl⟩))
   refine HS.mono ?_
   rintro e w5 ⟨rfl, h1, f1⟩
   have h5 := Lib.hid h1
   obtain ⟨c0, c1, c2, c3, c4⟩ := dsk_cells h1.blk
   have hhas : Maps.has D (ky i) = false := by
    cases hb : Maps.has D (ky i) with
    | false => rfl
    | true => exact absurd hv0 ((h1.opn i hi).1 hb)
   have hmap := h1.map
   have hsx := h1.secs i x hx
   rw [Nat.zero_add] at hsx
   have HX5 := Lib.hid hsx
   have hi0' : (0 : Int) ≤ (i : Int) := by omega
   have hi1' : (i : Int) < (d.step.rd.length : Int) := by have e : d.step.rd.length = d.rd.length := rfl; omega
   clear h1 hsx hx
   go_upto_region 10 with (first
    | (at_lookup; refine wpList_lookup_own_ok _ rfl _ _ 72 rfl 3 71 kyT Tryz.underlying72 HV (zeroSl _) (.held (.slice none 0 0)) [] rfl M _ D rfl hmap _ _ rfl HKY.out ?_; intro v0 ps hv; rw [hhas])
    | (refine wpList_load_mid rfl 83 _ rfl R (i * 128) rfl (cellsB x) _ HX5.out.2 Tryz.underlying83 rfl (by rw [infoSector, cellsB_len, HX5.out.1]) ?_)
    | (refine wpList_build_sec rfl _ rfl HX5.out.1 rfl ?_))
   have fa : Fr (fun _ => False) w5 (w5.alloc (.cells (cellsB x).toArray 83)) := (Fr.refl _ _).alloc _
   have h6 := Lib.hid (h5.out.keep fa (fun _ _ q => q))
   have hbn := Blk.new w5 83 (cellsB x).toArray
   have hs5 : w.heap.size + 1 ≤ w5.heap.size := by
    have := f1.size
    have e : (w.alloc (.cells (cellsB s).toArray 83)).heap.size = w.heap.size + 1 := by
     show (w.heap.push _).size = w.heap.size + 1
     simp
    omega
   have hnb : ¬ w.heap.size = g := by omega
   have HB6 : Hid ((w5.alloc (.cells (cellsB x).toArray 83)).rangeAt w.heap.size 0 (cellsB s)) := Lib.hid (sec_range HL.out ((HP.out.2.2.1.keep f1 hnb).keep fa (fun q => q)))
   have HF6 : Hid (Fr F w (w5.alloc (.cells (cellsB x).toArray 83))) := Lib.hid (((HP.out.1.mono (G := F) (fun _ _ q => q.elim)).trans f1 (fun j _ q => by have q' : j = g := q; rw [q']; exact h6.out.fg)).trans fa (fun _ _ q => q.elim))
   have hrow := own_one hbn HX5.out.1
   generalize w5.alloc (.cells (cellsB x).toArray 83) = w6 at *
   obtain ⟨v, hvv⟩ : ∃ v, v = Value.slice (some ⟨w5.heap.size, 0, none⟩) 1 1 := ⟨_, rfl⟩
   rw [← hvv] at hrow ⊢
   have HT : Hid (w6.ownsRow 0 83 128 v u.length (cellsB u.flatten) ∧ (∀ b, v.ownBlock = some b → (F b ∨ w.heap.size ≤ b) ∧ b ≠ g ∧ b ≠ R ∧ b ≠ M ∧ b ≠ w.heap.size ∧ ∀ j, j < d.step.rd.length → d.step.vs j ≠ [] → j ≠ i → (val j).ownBlock ≠ some b) ∧ u.length ≤ 10000 ∧ ∀ y ∈ u, y.length = 128) := Lib.hid (by
    rw [hu0]
    refine ⟨by simpa using hrow, fun b hb => ?_, by simp, fun y hy => by rw [List.mem_singleton.1 hy]; exact HX5.out.1⟩
    rw [hvv] at hb
    have hb2 : w5.heap.size = b := by simpa [Value.ownBlock] using hb
    refine ⟨.inr (by omega), by omega, by omega, by omega, by omega, fun j hj hvj _ hbj => ?_⟩
    have := HP.out.2.1.own_lt (j := j) hj hvj hbj
    omega)
   clear hv hvv hhas hmap hu0 f1 fa hbn hs5 hrow hi0' hi1' c0 c1 c2 c3 c4 hnb hN HH HS h5 HX5
   have hsz : (Tryz.prog.info? 83).map (·.size) = some (cellsB s).length := by rw [infoSector, cellsB_len, HL.out]
   have hcl : (cellsB s).length = 128 := by rw [cellsB_len, HL.out]
   have hone := cellsB_one s
   have hu := Tryz.underlying83
   have hlt6 := h6.out.lt
   have HX : Hid (w6.rangeAt w.heap.size 0 (cellsB s) ∧ ¬ (w.heap.size = M ∨ v.ownBlock = some w.heap.size)) := Lib.hid ⟨HB6.out, fun q => by
    rcases q with q | q
    · omega
    · exact (HT.out.2.1 _ q).2.2.2.2.1 rfl⟩
   have HG : Hid (g < w6.heap.size ∧ ¬ (g = M ∨ v.ownBlock = some g) ∧ w6.cell? ⟨g, 1, none⟩ = some (.map (some M))) := Lib.hid ⟨hlt6.1, (fun q => by
    rcases q with q | q
    · exact h6.out.gM q
    · exact (HT.out.2.1 _ q).2.1 rfl), (dsk_cells h6.out.blk).2.1⟩
   have HV6 : Hid (w6.ownsRow 0 83 128 v u.length (cellsB u.flatten) ∧ True ∧ u.length ≤ 100000) := Lib.hid ⟨HT.out.1, trivial, by have := HT.out.2.2.1; omega⟩
   have HM : Hid (w6.ownsMap Tryz.prog 3 HV M (Maps.size D) D ∧ ¬ (v.ownBlock = some M) ∧ Maps.size D < maxLen) := Lib.hid ⟨h6.out.map, (fun q => (HT.out.2.1 _ q).2.2.2.1 rfl), by
    have h1 := h6.out.size_le
    have h2 := h6.out.n1
    simp only [maxLen]
    omega⟩
   refine wp_region_held_drew (S := fun w' => Fr (fun b => b = M ∨ v.ownBlock = some b) w6 w') (by kernel_rfl) ((Fr.refl _ _).drew) (fun hS0 => ?_)
   refine anyH_tk 0 41 (.pointer (some ⟨g, 0, none⟩)) rfl rfl (.inl ⟨by rfl, fun w'' hS => by go_simp⟩) hS0 ?_
   (simp only [sA, sB, sC])
   refine anyH_tk 1 42 (.pointer (some ⟨g, 0, none⟩)) rfl rfl (.inl ⟨by rfl, fun w'' hS => by go_simp⟩) hS0 ?_
   (simp only [sA, sB, sC])
   refine anyH_tk 2 43 (.pointer (some ⟨g, 1, none⟩)) rfl rfl (.inl ⟨by rfl, fun w'' hS => by go_simp⟩) hS0 ?_
   (simp only [sA, sB, sC])
   refine anyH_tk 3 44 (.map (some M)) rfl rfl (.inl ⟨by rfl, fun w'' hS => by have q0 := (hS.cell (p := ⟨g, 1, none⟩) HG.out.1 HG.out.2.1).trans HG.out.2.2; go_simp⟩) hS0 ?_
   (simp only [sA, sB, sC])
   refine anyH_tk 4 45 (.int .i64 (i : Nat)) rfl rfl (.inl ⟨by rfl, fun w'' hS => by go_simp⟩) hS0 ?_
   (simp only [sA, sB, sC])
   refine anyH_tk 5 46 v rfl rfl (.inl ⟨by rfl, fun w'' hS => by go_simp⟩) hS0 ?_
   (simp only [sA, sB, sC])
   refine anyH_tk 6 47 (.agg (cellsB s).toArray) rfl rfl (yieldsIf_load_mid (by rfl) _ _ rfl _ _ rfl _ _ (fun w' hS => (fun j v' hv' => (hS.cell (World.block_lt_of_cell? w6 _ (HX.out.1 j v' hv')) HX.out.2).trans (HX.out.1 j v' hv'))) hu rfl hsz) hS0 ?_
   (simp only [sA, sB, sC])
   refine anyH_value 7 48 (.slice (some ⟨w6.heap.size, 0, none⟩) 1 1) (w6.drew.alloc (.cells (cellsB s).toArray 83)) (by kernel_rfl) rfl rfl (by rfl) (run_build_op _ rfl HL.out rfl) (hS0.alloc _) ?_
   (simp only [sA, sB, sC])
   have hown7 := own_keep (F := fun _ => False) HV6.out.1 (((Fr.refl _ w6).drew).alloc (.cells (cellsB s).toArray 83)) (fun _ _ q => q)
   have hb7 := Blk.new w6.drew 83 (cellsB s).toArray
   obtain ⟨v', w7, hrun7, hrow7, hg7, hvb7⟩ := append_one hown7 hb7 HL.out HV6.out.2.2 71
   have fr7 : Fr (fun b => v.ownBlock = some b) w6 w7 := ((((Fr.refl (fun b => v.ownBlock = some b) w6).drew).alloc (.cells (cellsB s).toArray 83))).grown hg7 (fun k hk => .inl hk)
   have hsz7 : (w6.drew.alloc (.cells (cellsB s).toArray 83)).heap.size = w6.heap.size + 1 := by
    show (w6.heap.push _).size = w6.heap.size + 1
    simp
   refine anyH_value 8 49 v' w7 (by kernel_rfl) rfl rfl (by rfl) (run_append_op (.tmp 46) (.tmp 48) rfl rfl rfl hrun7) (fr7.mono (fun _ _ q => .inr q)) ?_
   (simp only [sA, sB, sC])
   have hm7 := map_keep HM.out.1 fr7 HM.out.2.1
   obtain ⟨w8, hrun8, hm8, hg8⟩ := hm7.update kyT Tryz.underlying72 HM.out.2.2 (key := .int .i64 (i : Nat)) (val := v') HKY.out (d := .held v') (ps := []) rfl
   have fr8 : Fr (fun b => b = M) w7 w8 := (Fr.refl _ w7).grown hg8 (fun k hk => .inl (by injection hk with hk; exact hk.symm))
   refine anyH_skip 9 w8 (by kernel_rfl) rfl rfl (by rfl) (run_update_op (.tmp 44) (.tmp 45) (.tmp 49) 72 rfl rfl rfl rfl hrun8) ((fr7.mono (fun _ _ q => .inr q)).trans fr8 (fun _ _ q => .inl q)) ?_
   refine wpAnyH_done (by kernel_rfl) ?_ _
   have HW8 : Hid (DiskW (w6.drew.alloc (.cells (cellsB s).toArray 83)) F g R M D val d.step) := Lib.hid (h6.out.keep (((Fr.refl (fun _ => False) w6).drew).alloc _) (fun _ _ q => q))
   have hfa : Fr (fun b => v.ownBlock = some b) (w6.drew.alloc (.cells (cellsB s).toArray 83)) w7 := (Fr.refl _ _).grown hg7 (fun k hk => .inl hk)
   rw [hsz7] at hvb7
   have HZ7 := Lib.hid hsz7
   have f68 : Fr (fun b => b = M ∨ v.ownBlock = some b) w6 w8 := (fr7.mono (fun _ _ q => .inr q)).trans fr8 (fun _ _ q => .inl q)
   have HX8 : Hid (w8.rangeAt w.heap.size 0 (cellsB s) ∧ ¬ (w.heap.size = R)) := Lib.hid ⟨fun j z hz => (f68.cell (World.block_lt_of_cell? w6 _ (HX.out.1 j z hz)) HX.out.2).trans (HX.out.1 j z hz), by omega⟩
   have HG8 : Hid (g < w8.heap.size ∧ ¬ (g = R) ∧ w8.cell? ⟨g, 0, none⟩ = some (.slice (some ⟨R, 0, none⟩) d.step.rd.length d.step.cp)) := Lib.hid ⟨Nat.lt_of_lt_of_le hlt6.1 f68.size, h6.out.gR, (f68.cell (p := ⟨g, 0, none⟩) HG.out.1 HG.out.2.1).trans (dsk_cells h6.out.blk).1⟩
   have HR8 : Hid (Blk w8 R 83 (cellsB (d.step.rd.flatten ++ d.step.sp)).toArray) := Lib.hid (h6.out.red.keep f68 (fun q => by
    rcases q with q | q
    · exact h6.out.rM q
    · exact (HT.out.2.1 _ q).2.2.1 rfl))
   have H8 := Lib.hid (And.intro hrow7 (And.intro hfa (And.intro hvb7 (And.intro hm8 (And.intro fr8 f68)))))
   have hi0 : (0 : Int) ≤ (i : Int) := by omega
   have hi1 : (i : Int) < (d.step.rd.length : Int) := by have := HP.out.2.2.2; have e : d.step.rd.length = d.rd.length := rfl; omega
   clear hrow7 hfa hvb7 hm8 fr8 f68 hg7 hrun7 hrun8 hg8 hm7 fr7 hown7 hb7 hsz7
   go_wp2_with fail
   refine wp_region_held_drew (S := fun w' => Fr (fun b => b = R) w8 w') (by kernel_rfl) ((Fr.refl _ _).drew) (fun hS0 => ?_)
   refine anyH_tk 0 50 (.pointer (some ⟨g, 0, none⟩)) rfl rfl (.inl ⟨by rfl, fun w'' hS => by go_simp⟩) hS0 ?_
   (simp only [sA, sB, sC])
   refine anyH_tk 1 51 (.pointer (some ⟨g, 0, none⟩)) rfl rfl (.inl ⟨by rfl, fun w'' hS => by go_simp⟩) hS0 ?_
   (simp only [sA, sB, sC])
   refine anyH_tk 2 52 (.pointer (some ⟨g, 0, none⟩)) rfl rfl (.inl ⟨by rfl, fun w'' hS => by go_simp⟩) hS0 ?_
   (simp only [sA, sB, sC])
   refine anyH_tk 3 53 (.slice (some ⟨R, 0, none⟩) d.step.rd.length d.step.cp) rfl rfl (.inl ⟨by rfl, fun w'' hS => by have q0 := (hS.cell (p := ⟨g, 0, none⟩) HG8.out.1 HG8.out.2.1).trans HG8.out.2.2; go_simp⟩) hS0 ?_
   (simp only [sA, sB, sC])
   refine anyH_tk 4 54 (.int .i64 (i : Nat)) rfl rfl (.inl ⟨by rfl, fun w'' hS => by go_simp⟩) hS0 ?_
   (simp only [sA, sB, sC])
   refine anyH_tk 5 55 (.agg (cellsB s).toArray) rfl rfl (yieldsIf_load_mid (by rfl) _ _ rfl _ _ rfl _ _ (fun w' hS => (fun j v' hv' => (hS.cell (World.block_lt_of_cell? w8 _ (HX8.out.1 j v' hv')) HX8.out.2).trans (HX8.out.1 j v' hv'))) hu rfl hsz) hS0 ?_
   (simp only [sA, sB, sC])
   refine anyH_tk 6 56 (.pointer (some ⟨R, i * 128, none⟩)) rfl rfl (.inl ⟨by rfl, fun w'' hS => by go_simp⟩) hS0 ?_
   (simp only [sA, sB, sC])
   refine anyH_skip 7 (w8.drew.setCells R (i * 128) (cellsB s)) (by kernel_rfl) rfl rfl (by rfl) (run_store_mid 83 _ _ rfl R (i * 128) (cellsB s).toArray rfl rfl (Blk.there (w := w8.drew) HR8.out (by simp [cellsB_len, HL.out, dflat_len h6.out.hl]; have := HP.out.2.2.2; have e : d.step.rd.length = d.rd.length := rfl; omega)) (by rw [infoSector]; simp [cellsB_len, HL.out]) (all_oneCell_toArray (cellsB_one _))) (Fr.setCells (F := fun b => b = R) (.inl rfl) hS0) ?_
   refine wpAnyH_done (by kernel_rfl) ?_ _
   have hb9 := Blk.over (w := w8.drew) (o := i * 128) (m := s) HR8.out (by rw [HL.out, List.length_append, dflat_len h6.out.hl]; have := HP.out.2.2.2; have e : d.step.rd.length = d.rd.length := rfl; omega)
   rw [dpatch_app (by rw [HL.out, dflat_len h6.out.hl]; have := HP.out.2.2.2; have e : d.step.rd.length = d.rd.length := rfl; omega), flat_set h6.out.hl HL.out (i := i) HP.out.2.2.2] at hb9
   have f89 : Fr (fun b => b = R) w8 (w8.drew.setCells R (i * 128) (cellsB s)) := Fr.setCells (F := fun b => b = R) (.inl rfl) ((Fr.refl (fun b => b = R) w8).drew)
   have HE := Lib.hid (HW8.out.put (B := w.heap.size) (i := i) HP.out.2.2.2 (v := v) HL.out HT.out.2.2.2 (by rw [HZ7.out]; have := HF6.out.size; omega) H8.out.1 H8.out.2.1 (fun b hb => by
    obtain ⟨q1, q2, q3, q4, _, q6⟩ := HT.out.2.1 b hb
    exact ⟨q1, q2, q3, q4, q6⟩) (by rw [HZ7.out]; exact H8.out.2.2.1) H8.out.2.2.2.1 H8.out.2.2.2.2.1 hb9 f89)
   have HE2 : Hid (Fr F w (w8.drew.setCells R (i * 128) (cellsB s))) := Lib.hid ((HF6.out.trans H8.out.2.2.2.2.2 (fun j hj q => by
    rcases q with q | q
    · rw [q]; exact h6.out.fM
    · rcases (HT.out.2.1 _ q).1 with q | q
      · exact q
      · omega)).trans f89 (fun j _ q => by
    have q' : j = R := q
    rw [q']
    exact h6.out.fR))
   generalize w8.drew.setCells R (i * 128) (cellsB s) = w9 at *
   clear hb9 f89
   go_wp2_with fail
   go_ret
   exact ⟨rfl, ⟨_, _, HE.out⟩, HE2.out⟩
 · rw [if_neg hv0]
   obtain ⟨u, hu0⟩ : ∃ u, u = d.vs i := ⟨_, rfl⟩
   rw [← hu0]
   go_enter Tryz.func89, Tryz.ntmps89
   go_wp2_with (first
    | (refine wpList_put rfl 83 _ rfl _ rfl ?_)
    | (go_at_call 114; refine HH.mono ?_; rintro e w' ⟨rfl, rfl⟩))
   refine HS.mono ?_
   rintro e w6 ⟨rfl, h1, f1⟩
   have h6 := Lib.hid h1
   obtain ⟨c0, c1, c2, c3, c4⟩ := dsk_cells h1.blk
   have hhas : Maps.has D (ky i) = true := (h1.opn i hi).2 hv0
   have hat := h1.at_ i hi hv0 (.held (.slice none 0 0))
   have hmap := h1.map
   clear h1
   go_upto_region 10 with (first
    | (at_lookup; refine wpList_lookup_own_ok _ rfl _ _ 72 rfl 3 71 kyT Tryz.underlying72 HV (zeroSl _) (.held (.slice none 0 0)) [] rfl M _ D rfl hmap _ _ rfl HKY.out ?_; intro v ps hv; rw [hhas]))
   have hvv : v = val i := by
    rw [hat] at hv
    simp only [Option.some.injEq, Prod.mk.injEq, DataW.held.injEq] at hv
    exact hv.1
   have hnb : ¬ w.heap.size = g := by omega
   have HB6 : Hid (w6.rangeAt w.heap.size 0 (cellsB s)) := Lib.hid (sec_range HL.out (HP.out.2.2.1.keep f1 hnb))
   have HF6 : Hid (Fr F w w6) := Lib.hid ((HP.out.1.mono (G := F) (fun _ _ q => q.elim)).trans f1 (fun j _ q => by have q' : j = g := q; rw [q']; exact h6.out.fg))
   have HT : Hid (w6.ownsRow 0 83 128 v u.length (cellsB u.flatten) ∧ (∀ b, v.ownBlock = some b → (F b ∨ w.heap.size ≤ b) ∧ b ≠ g ∧ b ≠ R ∧ b ≠ M ∧ b ≠ w.heap.size ∧ ∀ j, j < d.step.rd.length → d.step.vs j ≠ [] → j ≠ i → (val j).ownBlock ≠ some b) ∧ u.length ≤ 10000 ∧ ∀ y ∈ u, y.length = 128) := Lib.hid (by
    rw [hvv, hu0]
    refine ⟨h6.out.row i hi hv0, fun b hb => ?_, hN, h6.out.all i hi⟩
    obtain ⟨q1, q2, q3, q4⟩ := h6.out.own i b hi hv0 hb
    have q5 := HP.out.2.1.own_lt hi hv0 hb
    exact ⟨.inl q1, q2, q3, q4, by omega, fun j hj hvj hne hbj => h6.out.sep i j b hi hj hv0 hvj (fun e => hne e.symm) hb hbj⟩)
   clear hv hvv hat hhas hmap hu0 f1 c0 c1 c2 c3 c4 hnb hN hx HH HS
   have hsz : (Tryz.prog.info? 83).map (·.size) = some (cellsB s).length := by rw [infoSector, cellsB_len, HL.out]
   have hcl : (cellsB s).length = 128 := by rw [cellsB_len, HL.out]
   have hone := cellsB_one s
   have hu := Tryz.underlying83
   have hlt6 := h6.out.lt
   have HX : Hid (w6.rangeAt w.heap.size 0 (cellsB s) ∧ ¬ (w.heap.size = M ∨ v.ownBlock = some w.heap.size)) := Lib.hid ⟨HB6.out, fun q => by
    rcases q with q | q
    · omega
    · exact (HT.out.2.1 _ q).2.2.2.2.1 rfl⟩
   have HG : Hid (g < w6.heap.size ∧ ¬ (g = M ∨ v.ownBlock = some g) ∧ w6.cell? ⟨g, 1, none⟩ = some (.map (some M))) := Lib.hid ⟨hlt6.1, (fun q => by
    rcases q with q | q
    · exact h6.out.gM q
    · exact (HT.out.2.1 _ q).2.1 rfl), (dsk_cells h6.out.blk).2.1⟩
   have HV6 : Hid (w6.ownsRow 0 83 128 v u.length (cellsB u.flatten) ∧ True ∧ u.length ≤ 100000) := Lib.hid ⟨HT.out.1, trivial, by have := HT.out.2.2.1; omega⟩
   have HM : Hid (w6.ownsMap Tryz.prog 3 HV M (Maps.size D) D ∧ ¬ (v.ownBlock = some M) ∧ Maps.size D < maxLen) := Lib.hid ⟨h6.out.map, (fun q => (HT.out.2.1 _ q).2.2.2.1 rfl), by
    have h1 := h6.out.size_le
    have h2 := h6.out.n1
    simp only [maxLen]
    omega⟩
   refine wp_region_held_drew (S := fun w' => Fr (fun b => b = M ∨ v.ownBlock = some b) w6 w') (by kernel_rfl) ((Fr.refl _ _).drew) (fun hS0 => ?_)
   refine anyH_tk 0 41 (.pointer (some ⟨g, 0, none⟩)) rfl rfl (.inl ⟨by rfl, fun w'' hS => by go_simp⟩) hS0 ?_
   (simp only [sA, sB, sC])
   refine anyH_tk 1 42 (.pointer (some ⟨g, 0, none⟩)) rfl rfl (.inl ⟨by rfl, fun w'' hS => by go_simp⟩) hS0 ?_
   (simp only [sA, sB, sC])
   refine anyH_tk 2 43 (.pointer (some ⟨g, 1, none⟩)) rfl rfl (.inl ⟨by rfl, fun w'' hS => by go_simp⟩) hS0 ?_
   (simp only [sA, sB, sC])
   refine anyH_tk 3 44 (.map (some M)) rfl rfl (.inl ⟨by rfl, fun w'' hS => by have q0 := (hS.cell (p := ⟨g, 1, none⟩) HG.out.1 HG.out.2.1).trans HG.out.2.2; go_simp⟩) hS0 ?_
   (simp only [sA, sB, sC])
   refine anyH_tk 4 45 (.int .i64 (i : Nat)) rfl rfl (.inl ⟨by rfl, fun w'' hS => by go_simp⟩) hS0 ?_
   (simp only [sA, sB, sC])
   refine anyH_tk 5 46 v rfl rfl (.inl ⟨by rfl, fun w'' hS => by go_simp⟩) hS0 ?_
   (simp only [sA, sB, sC])
   refine anyH_tk 6 47 (.agg (cellsB s).toArray) rfl rfl (yieldsIf_load_mid (by rfl) _ _ rfl _ _ rfl _ _ (fun w' hS => (fun j v' hv' => (hS.cell (World.block_lt_of_cell? w6 _ (HX.out.1 j v' hv')) HX.out.2).trans (HX.out.1 j v' hv'))) hu rfl hsz) hS0 ?_
   (simp only [sA, sB, sC])
   refine anyH_value 7 48 (.slice (some ⟨w6.heap.size, 0, none⟩) 1 1) (w6.drew.alloc (.cells (cellsB s).toArray 83)) (by kernel_rfl) rfl rfl (by rfl) (run_build_op _ rfl HL.out rfl) (hS0.alloc _) ?_
   (simp only [sA, sB, sC])
   have hown7 := own_keep (F := fun _ => False) HV6.out.1 (((Fr.refl _ w6).drew).alloc (.cells (cellsB s).toArray 83)) (fun _ _ q => q)
   have hb7 := Blk.new w6.drew 83 (cellsB s).toArray
   obtain ⟨v', w7, hrun7, hrow7, hg7, hvb7⟩ := append_one hown7 hb7 HL.out HV6.out.2.2 71
   have fr7 : Fr (fun b => v.ownBlock = some b) w6 w7 := ((((Fr.refl (fun b => v.ownBlock = some b) w6).drew).alloc (.cells (cellsB s).toArray 83))).grown hg7 (fun k hk => .inl hk)
   have hsz7 : (w6.drew.alloc (.cells (cellsB s).toArray 83)).heap.size = w6.heap.size + 1 := by
    show (w6.heap.push _).size = w6.heap.size + 1
    simp
   refine anyH_value 8 49 v' w7 (by kernel_rfl) rfl rfl (by rfl) (run_append_op (.tmp 46) (.tmp 48) rfl rfl rfl hrun7) (fr7.mono (fun _ _ q => .inr q)) ?_
   (simp only [sA, sB, sC])
   have hm7 := map_keep HM.out.1 fr7 HM.out.2.1
   obtain ⟨w8, hrun8, hm8, hg8⟩ := hm7.update kyT Tryz.underlying72 HM.out.2.2 (key := .int .i64 (i : Nat)) (val := v') HKY.out (d := .held v') (ps := []) rfl
   have fr8 : Fr (fun b => b = M) w7 w8 := (Fr.refl _ w7).grown hg8 (fun k hk => .inl (by injection hk with hk; exact hk.symm))
   refine anyH_skip 9 w8 (by kernel_rfl) rfl rfl (by rfl) (run_update_op (.tmp 44) (.tmp 45) (.tmp 49) 72 rfl rfl rfl rfl hrun8) ((fr7.mono (fun _ _ q => .inr q)).trans fr8 (fun _ _ q => .inl q)) ?_
   refine wpAnyH_done (by kernel_rfl) ?_ _
   have HW8 : Hid (DiskW (w6.drew.alloc (.cells (cellsB s).toArray 83)) F g R M D val d.step) := Lib.hid (h6.out.keep (((Fr.refl (fun _ => False) w6).drew).alloc _) (fun _ _ q => q))
   have hfa : Fr (fun b => v.ownBlock = some b) (w6.drew.alloc (.cells (cellsB s).toArray 83)) w7 := (Fr.refl _ _).grown hg7 (fun k hk => .inl hk)
   rw [hsz7] at hvb7
   have HZ7 := Lib.hid hsz7
   have f68 : Fr (fun b => b = M ∨ v.ownBlock = some b) w6 w8 := (fr7.mono (fun _ _ q => .inr q)).trans fr8 (fun _ _ q => .inl q)
   have HX8 : Hid (w8.rangeAt w.heap.size 0 (cellsB s) ∧ ¬ (w.heap.size = R)) := Lib.hid ⟨fun j z hz => (f68.cell (World.block_lt_of_cell? w6 _ (HX.out.1 j z hz)) HX.out.2).trans (HX.out.1 j z hz), by omega⟩
   have HG8 : Hid (g < w8.heap.size ∧ ¬ (g = R) ∧ w8.cell? ⟨g, 0, none⟩ = some (.slice (some ⟨R, 0, none⟩) d.step.rd.length d.step.cp)) := Lib.hid ⟨Nat.lt_of_lt_of_le hlt6.1 f68.size, h6.out.gR, (f68.cell (p := ⟨g, 0, none⟩) HG.out.1 HG.out.2.1).trans (dsk_cells h6.out.blk).1⟩
   have HR8 : Hid (Blk w8 R 83 (cellsB (d.step.rd.flatten ++ d.step.sp)).toArray) := Lib.hid (h6.out.red.keep f68 (fun q => by
    rcases q with q | q
    · exact h6.out.rM q
    · exact (HT.out.2.1 _ q).2.2.1 rfl))
   have H8 := Lib.hid (And.intro hrow7 (And.intro hfa (And.intro hvb7 (And.intro hm8 (And.intro fr8 f68)))))
   have hi0 : (0 : Int) ≤ (i : Int) := by omega
   have hi1 : (i : Int) < (d.step.rd.length : Int) := by have := HP.out.2.2.2; have e : d.step.rd.length = d.rd.length := rfl; omega
   clear hrow7 hfa hvb7 hm8 fr8 f68 hg7 hrun7 hrun8 hg8 hm7 fr7 hown7 hb7 hsz7
   go_wp2_with fail
   refine wp_region_held_drew (S := fun w' => Fr (fun b => b = R) w8 w') (by kernel_rfl) ((Fr.refl _ _).drew) (fun hS0 => ?_)
   refine anyH_tk 0 50 (.pointer (some ⟨g, 0, none⟩)) rfl rfl (.inl ⟨by rfl, fun w'' hS => by go_simp⟩) hS0 ?_
   (simp only [sA, sB, sC])
   refine anyH_tk 1 51 (.pointer (some ⟨g, 0, none⟩)) rfl rfl (.inl ⟨by rfl, fun w'' hS => by go_simp⟩) hS0 ?_
   (simp only [sA, sB, sC])
   refine anyH_tk 2 52 (.pointer (some ⟨g, 0, none⟩)) rfl rfl (.inl ⟨by rfl, fun w'' hS => by go_simp⟩) hS0 ?_
   (simp only [sA, sB, sC])
   refine anyH_tk 3 53 (.slice (some ⟨R, 0, none⟩) d.step.rd.length d.step.cp) rfl rfl (.inl ⟨by rfl, fun w'' hS => by have q0 := (hS.cell (p := ⟨g, 0, none⟩) HG8.out.1 HG8.out.2.1).trans HG8.out.2.2; go_simp⟩) hS0 ?_
   (simp only [sA, sB, sC])
   refine anyH_tk 4 54 (.int .i64 (i : Nat)) rfl rfl (.inl ⟨by rfl, fun w'' hS => by go_simp⟩) hS0 ?_
   (simp only [sA, sB, sC])
   refine anyH_tk 5 55 (.agg (cellsB s).toArray) rfl rfl (yieldsIf_load_mid (by rfl) _ _ rfl _ _ rfl _ _ (fun w' hS => (fun j v' hv' => (hS.cell (World.block_lt_of_cell? w8 _ (HX8.out.1 j v' hv')) HX8.out.2).trans (HX8.out.1 j v' hv'))) hu rfl hsz) hS0 ?_
   (simp only [sA, sB, sC])
   refine anyH_tk 6 56 (.pointer (some ⟨R, i * 128, none⟩)) rfl rfl (.inl ⟨by rfl, fun w'' hS => by go_simp⟩) hS0 ?_
   (simp only [sA, sB, sC])
   refine anyH_skip 7 (w8.drew.setCells R (i * 128) (cellsB s)) (by kernel_rfl) rfl rfl (by rfl) (run_store_mid 83 _ _ rfl R (i * 128) (cellsB s).toArray rfl rfl (Blk.there (w := w8.drew) HR8.out (by simp [cellsB_len, HL.out, dflat_len h6.out.hl]; have := HP.out.2.2.2; have e : d.step.rd.length = d.rd.length := rfl; omega)) (by rw [infoSector]; simp [cellsB_len, HL.out]) (all_oneCell_toArray (cellsB_one _))) (Fr.setCells (F := fun b => b = R) (.inl rfl) hS0) ?_
   refine wpAnyH_done (by kernel_rfl) ?_ _
   have hb9 := Blk.over (w := w8.drew) (o := i * 128) (m := s) HR8.out (by rw [HL.out, List.length_append, dflat_len h6.out.hl]; have := HP.out.2.2.2; have e : d.step.rd.length = d.rd.length := rfl; omega)
   rw [dpatch_app (by rw [HL.out, dflat_len h6.out.hl]; have := HP.out.2.2.2; have e : d.step.rd.length = d.rd.length := rfl; omega), flat_set h6.out.hl HL.out (i := i) HP.out.2.2.2] at hb9
   have f89 : Fr (fun b => b = R) w8 (w8.drew.setCells R (i * 128) (cellsB s)) := Fr.setCells (F := fun b => b = R) (.inl rfl) ((Fr.refl (fun b => b = R) w8).drew)
   have HE := Lib.hid (HW8.out.put (B := w.heap.size) (i := i) HP.out.2.2.2 (v := v) HL.out HT.out.2.2.2 (by rw [HZ7.out]; have := HF6.out.size; omega) H8.out.1 H8.out.2.1 (fun b hb => by
    obtain ⟨q1, q2, q3, q4, _, q6⟩ := HT.out.2.1 b hb
    exact ⟨q1, q2, q3, q4, q6⟩) (by rw [HZ7.out]; exact H8.out.2.2.1) H8.out.2.2.2.1 H8.out.2.2.2.2.1 hb9 f89)
   have HE2 : Hid (Fr F w (w8.drew.setCells R (i * 128) (cellsB s))) := Lib.hid ((HF6.out.trans H8.out.2.2.2.2.2 (fun j hj q => by
    rcases q with q | q
    · rw [q]; exact h6.out.fM
    · rcases (HT.out.2.1 _ q).1 with q | q
      · exact q
      · omega)).trans f89 (fun j _ q => by
    have q' : j = R := q
    rw [q']
    exact h6.out.fR))
   generalize w8.drew.setCells R (i * 128) (cellsB s) = w9 at *
   clear hb9 f89
   go_wp2_with fail
   go_ret
   exact ⟨rfl, ⟨_, _, HE.out⟩, HE2.out⟩
end
end Go.Proofs.YtcnlgbjkjlbmbaaGreat


