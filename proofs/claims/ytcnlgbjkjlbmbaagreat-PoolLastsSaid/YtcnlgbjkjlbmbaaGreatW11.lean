/- W11: laid together out of Clo3 Lay Cop. -/
import Derived.Test.YtcnlgbjkjlbmbaaGreatP3
namespace Go.Proofs.YtcnlgbjkjlbmbaaGreat
open Go.RowKit Go.Maps

set_option maxRecDepth 100000 in
theorem zero_bytes (z : Array Value) (k N : Nat) (hz : z = (cellsB (nought k)).toArray) (hk : 0 < k) : Builtin.zeroCells z N = (cellsB (nought (N * k))).toArray := by
 subst hz
 apply Array.ext
 · simp [Builtin.zeroCells, cellsB, nought]
 · intro i h1 h2
   have h3 : i % k < k := Nat.mod_lt _ hk
   simp [Builtin.zeroCells, cellsB, nought, h3]
set_option maxRecDepth 100000 in
theorem slice_of_none (w : World) : (Instr.buildSlice 71 0 #[]).run Tryz.prog w = .ok (.slice (some ⟨w.heap.size, 0, none⟩) 0 0) (w.alloc (.cells #[] 83)) := by
 unfold Instr.buildSlice
 obtain ⟨i0, hi, hz0, hz1, hz2⟩ := info_parts infoSec
 simp [run_underlying Tryz.underlying71, Instr.fill, sizeOf, typeInfo, hi, newRow]
 congr 2
 exact Array.eq_empty_of_size_eq_zero (by rw [Array.size_map, Array.size_range])
section
variable {ops : Array Oper} {o : Oper} {a : Act} {Q : Exit → Act → World → Prop}
set_option maxRecDepth 100000 in
theorem wpList_build_none {rest : List Oper} {w : World} (hg : o.guard = none) (hop : o.op = .buildSlice 71 0 #[])
 (hK : wpList Tryz.prog ops Q rest (a.put o.dst (.slice (some ⟨w.heap.size, 0, none⟩) 0 0)) (w.alloc (.cells #[] 83))) : wpList Tryz.prog ops Q (o :: rest) a w := by
 refine wpList_plain hg fun K hK' => ?_
 have hr := slice_of_none w
 unfold Oper.wp execOp
 simp only [hop]
 simp [hr, Result.andThen]
 exact hK' _ _ hK
set_option maxRecDepth 100000 in
theorem wpList_append_new {rest : List Oper} {w : World} (hg : o.guard = none) (s x : Operand) (hop : o.op = Op.call { callee := Callee.builtin Builtin.append, args := #[s, x], argTypes := #[71, 71] })
 {B b off n c : Nat} {l : List UInt8} (hl : l.length = n * 128) (hn : 0 < n) (hN : n ≤ 1000000) (hr : w.rangeAt b off (cellsB l)) (hs : a.eval s = .slice (some ⟨B, 0, none⟩) 0 0) (hx : a.eval x = .slice (some ⟨b, off, none⟩) n c)
 (hK : ∀ c', n ≤ c' → c' ≤ maxLen → wpList Tryz.prog ops Q rest (a.put o.dst (.slice (some ⟨w.heap.size, 0, none⟩) n c')) (w.drew.alloc (.cells (cellsB (l ++ nought ((c' - n) * 128))).toArray 83))) : wpList Tryz.prog ops Q (o :: rest) a w := by
 refine wpList_plain hg fun K hK' => ?_
 obtain ⟨i0, hi, hz0, hz1, hz2⟩ := info_parts infoSec
 have hrun := run_append_grow (P := Tryz.prog) w 71 o.type 83 i0 (av (nought 128)) Tryz.underlying71 hi hz0 ⟨B, 0, none⟩ 0 0 [] (by simp) (fun j v hj => by simp at hj) ⟨b, off, none⟩ n c (cellsB l)
  (by rw [cellsB_len, hz1, hl]) (fun j v hj => by rw [Addr.add_mid]; exact hr j v hj) (by omega) (by omega) (growslice_fits (by omega) (by rw [hz2]; omega))
 have h1 := grownCap_ge w (0 + n) 0 83
 have h2 : grownCap w (0 + n) 0 83 ≤ maxLen := grownCap_le_maxLen w (0 + n) 0 83 (by simp only [maxLen]; omega)
 rw [zero_bytes (av (nought 128)).cells 128 _ rfl (by omega)] at hrun
 simp only [Nat.zero_add] at hrun h1 h2
 have hc : (([] : List Value).toArray ++ (cellsB l).toArray ++ (cellsB (nought ((grownCap w n 0 83 - n) * 128))).toArray) = (cellsB (l ++ nought ((grownCap w n 0 83 - n) * 128))).toArray := by
  rw [cellsB_app]; simp
 rw [hc] at hrun
 have hk := hK _ h1 h2
 generalize grownCap w n 0 83 = gc at *
 unfold Oper.wp
 simp [execOp, hop, resolve, invoke, builtin, hs, hx, hrun, Result.andThen]
 exact hK' _ _ hk
end
def Cloned (w w' : World) (v : Value) (n : Nat) (l : List UInt8) : Prop := ∃ b c', v = .slice (some ⟨b, 0, none⟩) n c' ∧ w.heap.size ≤ b ∧ n ≤ c' ∧ c' ≤ maxLen ∧ Blk w' b 83 (cellsB (l ++ nought ((c' - n) * 128))).toArray
set_option maxRecDepth 100000 in
theorem clone_any {w : World} {b off n c : Nat} {l : List UInt8} (hl : l.length = n * 128) (hn : 0 < n) (hN : n ≤ 1000000) (hr : w.rangeAt b off (cellsB l)) :
 Calls Tryz.prog 96 #[.slice (some ⟨b, off, none⟩) n c] w fun e w' => ∃ v, e = .returned v ∧ Cloned w w' v n l ∧ Fr (fun _ => False) w w' := by
 have f1 := (Fr.refl (fun _ => False) w).alloc (.cells #[] 83)
 have hs1 : (w.alloc (.cells #[] 83)).heap.size = w.heap.size + 1 := by
  show (w.heap.push _).size = w.heap.size + 1
  simp
 have HR : Hid ((w.alloc (.cells #[] 83)).rangeAt b off (cellsB l)) := Lib.hid fun j v hv => (f1.cell (World.block_lt_of_cell? w _ (hr j v hv)) (fun q => q)).trans (hr j v hv)
 have HL := Lib.hid (And.intro hl (And.intro f1 hs1))
 clear hr hl f1 hs1
 have he : ∀ w : World, (binOp .eql 71 (.slice (some ⟨b, off, none⟩) n c) (.slice none 0 0)).run Tryz.prog w = .ok (.bool false) w := fun _ => rfl
 go_enter Tryz.func96, Tryz.ntmps96
 go_wp2_with (first
  | (refine wpList_build_none rfl rfl ?_)
  | (refine wpList_append_new rfl (.tmp 5) (.tmp 6) rfl HL.out.1 hn hN HR.out rfl rfl ?_; intro c' hc1 hc2))
 have hb := Blk.new (w.alloc (.cells #[] 83)).drew 83 (cellsB (l ++ nought ((c' - n) * 128))).toArray
 have e : (w.alloc (.cells #[] 83)).drew.heap.size = w.heap.size + 1 := HL.out.2.2
 rw [e] at hb
 have HB := Lib.hid (And.intro hb (And.intro hc1 hc2))
 have hfa := (HL.out.2.1.drew).alloc (.cells (cellsB (l ++ nought ((c' - n) * 128))).toArray 83)
 have HF := Lib.hid hfa
 clear hb hc1 hc2 hfa
 go_ret
 exact ⟨_, rfl, ⟨w.heap.size + 1, c', by rw [← e]; rfl, by omega, HB.out.2.1, HB.out.2.2, HB.out.1⟩, HF.out⟩
set_option maxRecDepth 100000 in
theorem Cloned.own_ge {w w' : World} {v : Value} {n : Nat} {l : List UInt8} (h : Cloned w w' v n l) {b : Nat} (hb : v.ownBlock = some b) : w.heap.size ≤ b := by
 obtain ⟨b', c2, rfl, h1, _⟩ := h
 have e : b' = b := by simpa [Value.ownBlock] using hb
 rw [← e]
 exact h1
set_option maxRecDepth 100000 in
theorem Cloned.row {w w' : World} {v : Value} {n : Nat} {l : List UInt8} (h : Cloned w w' v n l) (hl : l.length = n * 128) : w'.ownsRow 0 83 128 v n (cellsB l) := by
 obtain ⟨b, c', rfl, _, h1, h2, h3⟩ := h
 refine ⟨by rw [cellsB_len, hl], .inr ⟨b, c', _, rfl, Nat.zero_le _, h3, h1, h2, ?_, ?_⟩⟩
 · simp [cellsB_len, nought_len, hl]
   omega
 · rw [cellsB_app]
   simp only [List.toList_toArray]
   rw [← hl, ← cellsB_len l]
   exact List.take_left
end Go.Proofs.YtcnlgbjkjlbmbaaGreat

namespace Go.Proofs.YtcnlgbjkjlbmbaaGreat
open Go.RowKit Go.Maps

set_option maxRecDepth 100000 in
theorem Fr.toGrown0 {w w' : World} (h : Fr (fun _ => False) w w') (row : Option Nat) : w.grownBy w' row :=
 ⟨h.os, h.tape, h.output, h.size, fun k hk _ => h.block k hk (fun q => q)⟩
section
variable {w w7 w8 : World} {F : Nat → Prop} {g R M : Nat} {D : DataW Value} {val : Nat → Value} {d : DS}
def DS.putv (d : DS) (i : Nat) (u : List (List UInt8)) : DS := { d with vs := fun j => if j = i then u else d.vs j }
set_option maxRecDepth 100000 in
theorem DiskW.lay (h : DiskW w F g R M D val d) {i : Nat} (hi : i < d.rd.length) {v' : Value} {u : List (List UInt8)} (hu0 : u ≠ []) (hu : ∀ x ∈ u, x.length = 128)
 (hrow : w7.ownsRow 0 83 128 v' u.length (cellsB u.flatten)) (f1 : Fr (fun _ => False) w w7)
 (hvb' : ∀ b, v'.ownBlock = some b → w.heap.size ≤ b) {k : Nat}
 (hm : w8.ownsMap Tryz.prog 3 HV M k (D.put (ky i) (.held v'))) (f2 : Fr (fun b => b = M) w7 w8) :
 DiskW w8 (fun b => F b ∨ w.heap.size ≤ b) g R M (D.put (ky i) (.held v')) (fun j => if j = i then v' else val j) (d.putv i u) := by
 have hMI := h.map.isMap
 have hlt := h.lt
 have f12 : Fr (fun b => b = M) w w8 := (f1.mono (fun _ _ q => q.elim)).trans f2 (fun _ _ q => q)
 have hn8 := h.n1
 have hlit : ∀ j, j < d.rd.length → WideAt.IsKeyLit (ky j) := fun j hj => ky_lit j (by omega)
 have hnew : ∀ b, v'.ownBlock = some b → w.heap.size ≤ b ∧ b ≠ g ∧ b ≠ R ∧ b ≠ M ∧ ∀ j, j < d.rd.length → d.vs j ≠ [] → (val j).ownBlock ≠ some b := fun b hb => by
  have h1 := hvb' b hb
  exact ⟨h1, by omega, by omega, by omega, fun j hj hv hb2 => by have := h.own_lt hj hv hb2; omega⟩
 constructor
 case fg => exact .inl h.fg
 case fR => exact .inl h.fR
 case fM => exact .inl h.fM
 case gR => exact h.gR
 case gM => exact h.gM
 case rM => exact h.rM
 case n0 => exact h.n0
 case n1 => exact h.n1
 case hl => exact h.hl
 case l0 => exact h.l0
 case l1 => exact h.l1
 case blk => exact h.blk.keep f12 (fun q => h.gM q)
 case red => exact h.red.keep f12 (fun q => h.rM q)
 case map => exact map_tight hm
 case keys =>
  intro k hk
  by_cases e : k = ky i
  · exact ⟨i, e, hi⟩
  · rw [Maps.has_put_other e] at hk
    exact h.keys k hk
 case opn =>
  intro j hj
  by_cases e : j = i
  · subst e
    rw [Maps.has_put_same hMI (hlit j hj)]
    simp [DS.putv, hu0]
  · rw [Maps.has_put_other (ky_inj e)]
    simpa [DS.putv, e] using h.opn j hj
 case at_ =>
  intro j hj hv z
  by_cases e : j = i
  · subst e
    rw [Maps.atKey_put_same hMI (hlit j hj)]
    simp
  · rw [Maps.atKey_put_other (ky_inj e)]
    simp only [DS.putv, e, if_false] at hv
    simpa [e] using h.at_ j hj hv z
 case row =>
  intro j hj hv
  by_cases e : j = i
  · subst e
    have := own_keep hrow f2 (fun b hb q => (hnew b hb).2.2.2.1 q)
    simpa [DS.putv] using this
  · simp only [DS.putv, e, if_false] at hv ⊢
    exact own_keep (h.row j hj hv) f12 (fun b hb q => (h.own j b hj hv hb).2.2.2 q)
 case all =>
  intro j hj x hx
  by_cases e : j = i
  · subst e
    simp only [DS.putv, if_true] at hx
    exact hu x hx
  · simp only [DS.putv, e, if_false] at hx
    exact h.all j hj x hx
 case own =>
  intro j b hj hv hb
  by_cases e : j = i
  · subst e
    simp only [if_true] at hb
    obtain ⟨q1, q2, q3, q4, _⟩ := hnew b hb
    exact ⟨.inr q1, q2, q3, q4⟩
  · simp only [DS.putv, e, if_false] at hv hb
    obtain ⟨q1, q2⟩ := h.own j b hj hv hb
    exact ⟨.inl q1, q2⟩
 case sep =>
  intro j l b hj hl hvj hvl hne hb
  by_cases ej : j = i
  · subst ej
    have el : l ≠ j := fun q => hne q.symm
    simp only [if_true] at hb
    simp only [DS.putv, el, if_false] at hvl ⊢
    exact (hnew b hb).2.2.2.2 l hl hvl
  · simp only [DS.putv, ej, if_false] at hvj hb
    by_cases el : l = i
    · subst el
      simp only [if_true]
      exact fun q => (hnew b q).2.2.2.2 j hj hvj hb
    · simp only [DS.putv, el, if_false] at hvl ⊢
      exact h.sep j l b hj hl hvj hvl hne hb
set_option maxRecDepth 100000 in
theorem DiskW.begin (h : DiskW w F g R M D val d) {g2 R2 M2 B c' : Nat} (hb : Blk w7 g2 74 (dskC (some ⟨R2, 0, none⟩) d.rd.length c' (.map (some M2)) d.fu d.lf d.dd))
 (hr : Blk w7 R2 83 (cellsB (d.rd.flatten ++ nought ((c' - d.rd.length) * 128))).toArray) (hm : w7.ownsMap Tryz.prog 3 HV M2 0 (.map [])) (hg : B ≤ g2) (hR : B ≤ R2) (hM : B ≤ M2) (hgR : g2 ≠ R2) (hgM : g2 ≠ M2) (hRM : R2 ≠ M2) :
 DiskW w7 (fun b => B ≤ b) g2 R2 M2 (.map []) (fun _ => undef) { d with vs := fun _ => [], cp := c', sp := nought ((c' - d.rd.length) * 128) } where
 fg := hg
 fR := hR
 fM := hM
 gR := hgR
 gM := hgM
 rM := hRM
 n0 := h.n0
 n1 := h.n1
 hl := h.hl
 l0 := h.l0
 l1 := h.l1
 blk := hb
 red := hr
 map := hm
 keys := fun k hk => by cases hk
 opn := fun i _ => ⟨fun hk => (by cases hk), fun hv => absurd rfl hv⟩
 at_ := fun i _ hv => absurd rfl hv
 row := fun i _ hv => absurd rfl hv
 all := fun i _ s hs => by cases hs
 own := fun i b _ hv => absurd rfl hv
 sep := fun i j b _ _ hv => absurd rfl hv
end
set_option maxRecDepth 100000 in
theorem make_map_some (t k e : TypeId) (ht : Tryz.prog.underlying t = some (.map k e)) (n : Int) (w : World) : (Instr.makeMap t (some (.int .i64 n))).run Tryz.prog w = .ok (.map (some w.heap.size)) (w.alloc (.map #[] 0)) := by
 unfold Instr.makeMap
 simp [run_underlying ht, asInt, newObj]
 rfl
set_option maxRecDepth 100000 in
theorem infoDsk : (Tryz.prog.info? 74).map (·.size) = some 5 := by kernel_rfl
end Go.Proofs.YtcnlgbjkjlbmbaaGreat

namespace Go.Proofs.YtcnlgbjkjlbmbaaGreat
open Go.RowKit Go.Maps

structure DS.As (o d : DS) : Prop where
 rd : o.rd = d.rd
 vs : ∀ i, i < d.rd.length → o.vs i = d.vs i
 fu : o.fu = d.fu
 lf : o.lf = d.lf
 dd : o.dd = d.dd
 out : ∀ i, d.rd.length ≤ i → o.vs i = []
section
variable {w : World} {F : Nat → Prop} {g R M : Nat} {D : DataW Value} {val : Nat → Value} {d : DS}
set_option maxRecDepth 100000 in
set_option maxHeartbeats 4000000 in
theorem dcopy_any (h : DiskW w F g R M D val d) (hN : ∀ i, i < d.rd.length → (d.vs i).length ≤ 100000) :
 Calls Tryz.prog 69 #[.pointer (some ⟨g, 0, none⟩)] w fun e w' => ∃ g2 R2 M2 D2 val2 o, e = .returned (.pointer (some ⟨g2, 0, none⟩)) ∧ DiskW w' (fun b => w.heap.size ≤ b) g2 R2 M2 D2 val2 o ∧ o.As d ∧ Fr (fun _ => False) w w' := by
 have HH := none_in h
 have hrg0 : w.rangeAt g 0 (dskC (some ⟨R, 0, none⟩) d.rd.length d.cp (.map (some M)) d.fu d.lf d.dd).toList := fun j v hv => by
  rw [h.blk.cell]
  simpa using hv
 have HG0 := Lib.hid hrg0
 have hd1 := h.keep ((Fr.refl (fun _ => False) w).alloc (.cells (dskC (some ⟨R, 0, none⟩) d.rd.length d.cp (.map (some M)) d.fu d.lf d.dd) 74)) (fun _ _ q => q)
 have hb2 := Blk.new w 74 (dskC (some ⟨R, 0, none⟩) d.rd.length d.cp (.map (some M)) d.fu d.lf d.dd)
 have f1 := (Fr.refl (fun _ => False) w).alloc (.cells (dskC (some ⟨R, 0, none⟩) d.rd.length d.cp (.map (some M)) d.fu d.lf d.dd) 74)
 have H1 := Lib.hid (And.intro hd1 (And.intro hb2 f1))
 have H6 := Lib.hid (And.intro h hN)
 have hone : (dskC (some ⟨R, 0, none⟩) d.rd.length d.cp (.map (some M)) d.fu d.lf d.dd).all (·.oneCell') = true := by simp [Value.oneCell']
 obtain ⟨c10, c11, _, _, _⟩ := dsk_cells hd1.blk
 have hsec := hd1.red.range 0 d.rd.flatten.length
 rw [List.drop_zero, List.take_left' rfl] at hsec
 have HCl := clone_any (c := d.cp) (by rw [dflat_len h.hl]) h.n0 (by have := h.n1; omega) hsec
 obtain ⟨n, hn⟩ : ∃ n, n = d.rd.length := ⟨_, rfl⟩
 rw [← hn] at HCl c10 c11 hone HG0 H1
 have HN := Lib.hid hn
 clear h hN hrg0 hd1 hb2 f1 hsec
 clear hn
 go_enter Tryz.func69, Tryz.ntmps69
 go_wp2_with (first
  | (go_at_call 33; refine HH.mono ?_; rintro e w' ⟨rfl, rfl⟩)
  | (refine wpList_load_mid rfl 74 _ rfl g 0 rfl (dskC (some ⟨R, 0, none⟩) n d.cp (.map (some M)) d.fu d.lf d.dd).toList _ HG0.out Tryz.underlying74 rfl (by rw [infoDsk]; rfl) ?_))
 refine HCl.mono ?_
 rintro e w2 ⟨v2, rfl, hcl, f2⟩
 obtain ⟨R2, c', rfl, hR2, hc1, hc2, hRb⟩ := hcl
 have hgs : w.heap.size < (w.alloc (.cells (dskC (some ⟨R, 0, none⟩) n d.cp (.map (some M)) d.fu d.lf d.dd) 74)).heap.size := by
  show w.heap.size < (w.heap.push _).size
  simp
 have hb2 := H1.out.2.1.keep f2 (fun q => q)
 have h2 := H1.out.1.keep f2 (fun _ _ q => q)
 have hglt := H6.out.1.lt
 have hw2 := f2.size
 have f3 : Fr (fun b => b = w.heap.size) w2 (w2.setCell ⟨w.heap.size, 0, none⟩ (.slice (some ⟨R2, 0, none⟩) n c')) := (Fr.refl (fun b => b = w.heap.size) w2).setCell (p := ⟨w.heap.size, 0, none⟩) (.inl rfl) _
 have hb3 := hb2.set_ 0 (.slice (some ⟨R2, 0, none⟩) n c')
 have h3 : DiskW (w2.setCell ⟨w.heap.size, 0, none⟩ (.slice (some ⟨R2, 0, none⟩) n c')) (fun b => F b ∧ b < w.heap.size) g R M D val d := by
  refine DiskW.keep ?_ f3 (fun i hi e => by have := hi.2; omega)
  exact { h2 with
   fg := ⟨h2.fg, hglt.1⟩
   fR := ⟨h2.fR, hglt.2.1⟩
   fM := ⟨h2.fM, hglt.2.2⟩
   own := fun i b hi hv hb => ⟨⟨(h2.own i b hi hv hb).1, H6.out.1.own_lt hi hv hb⟩, (h2.own i b hi hv hb).2⟩ }
 have hRb3 := hRb.keep f3 (by omega)
 have hb4 := hb3.keep (F := fun _ => False) ((Fr.refl _ _).alloc (.map #[] 0)) (fun q => q)
 have h4 := h3.keep (G := fun _ => False) ((Fr.refl _ _).alloc (.map #[] 0)) (fun _ _ q => q)
 have hRb4 := hRb3.keep (F := fun _ => False) ((Fr.refl _ _).alloc (.map #[] 0)) (fun q => q)
 have hm4 := World.ownsMap_made (H := Value) (w2.setCell ⟨w.heap.size, 0, none⟩ (.slice (some ⟨R2, 0, none⟩) n c')) Tryz.prog 3 HV
 have hs3 : (w2.setCell ⟨w.heap.size, 0, none⟩ (.slice (some ⟨R2, 0, none⟩) n c')).heap.size = w2.heap.size := by simp [World.setCell]
 rw [hs3] at hm4
 have c20 := hb2.cell 0
 have fz20 := hb2.frozen 0
 have c31 := (dsk_cells h3.blk).2.1
 have hln : ∀ ty, (Builtin.len_ #[72] ty #[.map (some M)]).run Tryz.prog (w2.setCell ⟨w.heap.size, 0, none⟩ (.slice (some ⟨R2, 0, none⟩) n c')) = _ := fun ty => h3.map.len Tryz.underlying72 ty
 have hmm := make_map_some 72 _ _ Tryz.underlying72 (Maps.size D)
 have c41 := hb4.cell 1
 have fz41 := hb4.frozen 1
 simp at c20 c41
 have f5 : Fr (fun b => b = w.heap.size) ((w2.setCell ⟨w.heap.size, 0, none⟩ (.slice (some ⟨R2, 0, none⟩) n c')).alloc (.map #[] 0)) (((w2.setCell ⟨w.heap.size, 0, none⟩ (.slice (some ⟨R2, 0, none⟩) n c')).alloc (.map #[] 0)).setCell ⟨w.heap.size, 1, none⟩ (.map (some w2.heap.size))) := (Fr.refl (fun b => b = w.heap.size) _).setCell (p := ⟨w.heap.size, 1, none⟩) (.inl rfl) _
 have hb5 := hb4.set_ 1 (.map (some w2.heap.size))
 have h5 := h4.keep f5 (fun i hi e => by have := hi.2; omega)
 have hRb5 := hRb4.keep f5 (by omega)
 have hm5 := map_keep hm4 f5 (by omega)
 have c51 := (dsk_cells h5.blk).2.1
 have f05 : Fr (fun _ => False) w (((w2.setCell ⟨w.heap.size, 0, none⟩ (.slice (some ⟨R2, 0, none⟩) n c')).alloc (.map #[] 0)).setCell ⟨w.heap.size, 1, none⟩ (.map (some w2.heap.size))) :=
  ((((H1.out.2.2.trans f2 (fun _ _ q => q)).trans f3 (fun i hi e => by have e' : i = w.heap.size := e; omega)).alloc (.map #[] 0)).trans f5 (fun i hi e => by have e' : i = w.heap.size := e; omega))
 have hs5 : (((w2.setCell ⟨w.heap.size, 0, none⟩ (.slice (some ⟨R2, 0, none⟩) n c')).alloc (.map #[] 0)).setCell ⟨w.heap.size, 1, none⟩ (.map (some w2.heap.size))).heap.size = w2.heap.size + 1 := by simp [World.setCell]
 have hRlt := hRb.lt
 have hn : d.rd.length = n := HN.out.symm
 have hbg : DiskW (((w2.setCell ⟨w.heap.size, 0, none⟩ (.slice (some ⟨R2, 0, none⟩) n c')).alloc (.map #[] 0)).setCell ⟨w.heap.size, 1, none⟩ (.map (some w2.heap.size))) (fun b => w.heap.size ≤ b) w.heap.size R2 w2.heap.size (.map []) (fun _ => undef) { d with vs := fun _ => [], cp := c', sp := nought ((c' - d.rd.length) * 128) } :=
  h5.begin (by rw [hn]; exact hb5) (by rw [hn]; exact hRb5) hm5 (Nat.le_refl _) (by omega) (by omega) (by omega) (by omega) (by omega)
 have HS := Lib.hid (And.intro h5 (And.intro hbg (And.intro f05 hs5)))
 clear hgs hb2 h2 hglt hw2 f3 hb3 h3 hRb3 hb4 h4 hRb4 hm4 f5 hb5 hRb5 hm5 f05 hs5 hRlt hbg hn hR2 hc1 hc2 hRb f2 H1 HCl HG0
 obtain ⟨r, hr⟩ : ∃ r, r = w2.heap.size + 1 := ⟨_, rfl⟩
 go_wp2_with (first
  | (at_range; refine wpList_range_own _ rfl _ 72 rfl 3 71 kyT Tryz.underlying72 HV M (Maps.size D) D rfl HS.out.1.map ?_; intro w0 hrg0 hg0 hs0)
  | go_in)
 go_frame
 rw [HS.out.2.2.2, ← hr] at hrg0
 rw [HS.out.2.2.2, ← hr]
 have f0 := (Fr.refl (fun _ => False) _).grown hg0 (fun k hk => by cases hk)
 have hbg0 : DiskW w0 (fun b => w.heap.size ≤ b ∧ b ≠ r) w.heap.size R2 w2.heap.size (.map []) (fun _ => undef) { d with vs := fun _ => [], cp := c', sp := nought ((c' - d.rd.length) * 128) } := by
  have hk := HS.out.2.1.lt
  rw [HS.out.2.2.2, ← hr] at hk
  have hb := HS.out.2.1
  refine DiskW.keep ?_ f0 (fun _ _ q => q)
  exact { hb with
   fg := ⟨hb.fg, by omega⟩
   fR := ⟨hb.fR, by omega⟩
   fM := ⟨hb.fM, by omega⟩
   own := fun i b hi hv hb => absurd rfl hv }
 have HL0 := Lib.hid (And.intro hrg0 (And.intro hbg0 (HS.out.2.2.1.trans f0 (fun _ _ q => q))))
 obtain ⟨M2, hM2⟩ : ∃ M2, M2 = w2.heap.size := ⟨_, rfl⟩
 rw [← hM2] at HL0 hr ⊢
 have H1s : Hid (w.heap.size < M2 ∧ r = M2 + 1) := Lib.hid ⟨by have := HL0.out.2.1.gM; have := HL0.out.2.1.fM.1; omega, hr⟩
 clear hr hM2
 clear hrg0 hg0 hs0 f0 hbg0 HS c10 c11 c20 fz20 c31 hln hmm c41 fz41 c51 HH
 go_loopw [4, 5] (fun _ _ wr => ∃ (left : Lit → Bool) (cnt : Nat) (Dk : DataW Value) (valk : Nat → Value) (dk : DS), wr.ranges Tryz.prog 3 HV M r (Maps.size D) D left cnt ∧ Hid (∀ kl, left kl = true → Maps.has D kl = true) ∧ DiskW wr (fun b => w.heap.size ≤ b ∧ b ≠ r) w.heap.size R2 M2 Dk valk dk ∧
  Hid (dk.rd = d.rd ∧ dk.fu = d.fu ∧ dk.lf = d.lf ∧ dk.dd = d.dd ∧ (∀ i, i < d.rd.length → dk.vs i = if left (ky i) = true then [] else d.vs i) ∧ ∀ i, d.rd.length ≤ i → dk.vs i = []) ∧ Hid (Fr (fun _ => False) w wr))
  (fun _ _ wr => wr.rangeLeft M r)
 case atStart =>
  refine ⟨_, _, _, _, _, HL0.out.1, Lib.hid (fun _ q => q), HL0.out.2.1, Lib.hid ⟨rfl, rfl, rfl, rfl, fun i hi => ?_, fun i hi => rfl⟩, Lib.hid HL0.out.2.2⟩
  split
  · rfl
  · rename_i hh
    have := H6.out.1.opn i hi
    cases hv : d.vs i with
    | nil => rfl
    | cons x xs => exact absurd (this.2 (by rw [hv]; simp)) hh
 case round =>
  obtain ⟨left, cnt, Dk, valk, dk, hrg, HIn, hdk, HV2, HF⟩ := hrel
  clear HL0
  go_wp2_with (first
   | (at_next; refine wpList_next_ranges _ rfl _ rfl 3 kyT HV (Value.int .i64) (fun v : Value => v) (fun key kl hkey => by obtain ⟨x, rfl, _⟩ := Maps.keyOf_int_inv Tryz.underlying3 hkey; exact ⟨x, rfl⟩) (fun v y _ => ⟨v, rfl⟩) M r (Maps.size D) _ _ _ rfl hrg ?_ ?_)
   | go_in)
  · intro _ hl0
    clear hrg
    go_wp2
    go_ret
    refine ⟨_, _, _, _, _, dk, rfl, hdk.mono (fun i hi => hi.1), ⟨HV2.out.1, fun i hi => ?_, HV2.out.2.1, HV2.out.2.2.1, HV2.out.2.2.2.1, HV2.out.2.2.2.2.2⟩, HF.out⟩
    rw [HV2.out.2.2.2.2.1 i hi, hl0 (ky i)]
    rfl
  · have hleq := hrg.left_eq
    intro x c kl y ps w1 cnt1 hkey hlx hy hps hat hrg1 hlt hg1 hs1 hen
    have hh := HIn.out kl hlx
    obtain ⟨i, rfl, hi⟩ := H6.out.1.keys kl hh
    have hkd := H6.out.1.n1
    obtain rfl : x = (i : Int) := by
     obtain ⟨x', hx', hx2⟩ := Maps.keyOf_int_inv Tryz.underlying3 hkey
     injection hx' with _ hx'
     have hxx := hx2.1
     simp only [ky, Lit.int.injEq, true_and] at hxx
     rw [hx']
     exact hxx.symm
    have hvi : d.vs i ≠ [] := (H6.out.1.opn i hi).1 hh
    have hcv : c = val i := by
     have h1 := H6.out.1.at_ i hi hvi (.held (.slice none 0 0))
     have h2 := hat (.held (.slice none 0 0))
     rw [h1] at h2
     rw [← hy] at h2
     simpa using h2.symm
    subst hcv
    have fn1 : Fr (fun b => b = r) wr w1 := (Fr.refl _ wr).grown hg1 (fun k hk => .inl (by injection hk with hk; exact hk.symm))
    have hdk1 : DiskW w1 (fun b => w.heap.size ≤ b ∧ b ≠ r) w.heap.size R2 M2 Dk valk dk := hdk.keep fn1 (fun b hb e => hb.2 e)
    have HF1 : Hid (Fr (fun _ => False) w w1) := Lib.hid (HF.out.trans fn1 (fun b hb e => by have e' : b = r := e; have := H1s.out; omega))
    have hrow1 : w1.ownsRow 0 83 128 (val i) (d.vs i).length (cellsB (d.vs i).flatten) := own_keep (H6.out.1.row i hi hvi) HF1.out (fun _ _ q => q)
    have hall := H6.out.1.all i hi
    obtain ⟨A, ca, hva, hn1, hn2, h3⟩ := secV_row hrow1 hall
    obtain ⟨b, off, rfl, hsec⟩ := h3 (List.length_pos_iff.2 hvi)
    have hfl := hsec.flat
    obtain ⟨m, hm⟩ : ∃ m, m = (d.vs i).length := ⟨_, rfl⟩
    rw [← hm] at hva
    have HCl : Calls Tryz.prog 96 #[.slice (some ⟨b, off, none⟩) m ca] w1.drew fun e w' => ∃ v, e = .returned v ∧ Cloned w1.drew w' v m (d.vs i).flatten ∧ Fr (fun _ => False) w1.drew w' := clone_any (w := w1.drew) (by rw [dflat_len hall, hm]) (by rw [hm]; exact List.length_pos_iff.2 hvi) (by rw [hm]; have := H6.out.2 i hi; omega) hfl
    have cM : ∀ w', Fr (fun b => b = M2) w1 w' → w'.cell? ⟨w.heap.size, 1, none⟩ = some (.map (some M2)) := fun w' f => (f.cell (p := ⟨w.heap.size, 1, none⟩) hdk1.lt.1 hdk1.gM).trans (dsk_cells hdk1.blk).2.1
    have HKY := Lib.hid (ky_of (i := i) (by omega))
    rw [hva] at hen
    have HW1 := Lib.hid (And.intro hdk1 (And.intro hrg1 (And.intro hm (And.intro hlt (And.intro hvi hi)))))
    have hmax : Maps.size Dk < maxLen := by
     have h1 := hdk1.size_le
     have h2 := hdk1.n1
     simp only [maxLen]
     omega
    clear hdk hdk1 hrg hrow1 hall hn1 hn2 h3 hsec hfl hh hkd hkey hlx hy hat hg1 hs1 fn1 hm hvi hlt hi hrg1 hva hps
    go_wp2_with fail
    refine wp_region_held_drew (S := fun w' => Fr (fun b => b = M2) w1 w') (by kernel_rfl) ((Fr.refl _ _).drew) (fun hS0 => ?_)
    refine anyH_tk 0 34 (.pointer (some ⟨w.heap.size, 1, none⟩)) rfl rfl (.inl ⟨by rfl, fun w'' hS => by go_simp⟩) hS0 ?_
    (simp only [sA, sB, sC])
    refine anyH_tk 1 35 (.map (some M2)) rfl rfl (.inl ⟨by rfl, fun w'' hS => by have q0 := cM w'' hS; go_simp⟩) hS0 ?_
    (simp only [sA, sB, sC])
    refine anyH_tk 2 36 (.int .i64 (i : Nat)) rfl rfl (.inl ⟨by rfl, fun w'' hS => by go_simp⟩) hS0 ?_
    (simp only [sA, sB, sC])
    refine anyH_tk 3 37 (.slice (some ⟨b, off, none⟩) m ca) rfl rfl (.inl ⟨by rfl, fun w'' hS => by go_simp⟩) hS0 ?_
    (simp only [sA, sB, sC])
    refine anyH_enter 4 38 (f := 96) (args := #[.slice (some ⟨b, off, none⟩) m ca]) (by kernel_rfl) rfl rfl (by rfl) (by go_simp) ?_
    refine HCl.mono ?_
    rintro e w7 ⟨v', rfl, hcl, f7⟩
    have f17 : Fr (fun _ => False) w1 w7 := ((Fr.refl (fun _ => False) w1).drew).trans f7 (fun _ _ q => q)
    refine ⟨v', rfl, f17.mono (fun _ _ q => q.elim), ?_⟩
    (simp only [sA, sB, sC])
    have hm7 := map_keep HW1.out.1.map f17 (fun q => q)
    obtain ⟨w8, hrun8, hm8, hg8⟩ := hm7.update kyT Tryz.underlying72 hmax (key := .int .i64 (i : Nat)) (val := v') HKY.out (d := .held v') (ps := []) rfl
    have f78 : Fr (fun b => b = M2) w7 w8 := (Fr.refl _ w7).grown hg8 (fun k hk => .inl (by injection hk with hk; exact hk.symm))
    refine anyH_skip 5 w8 (by kernel_rfl) rfl rfl (by rfl) (run_update_op (.tmp 35) (.tmp 36) (.tmp 38) 72 rfl rfl rfl rfl hrun8) ((f17.mono (fun _ _ q => q.elim)).trans f78 (fun _ _ q => q)) ?_
    refine wpAnyH_done (by kernel_rfl) ?_ _
    have hall := H6.out.1.all i HW1.out.2.2.2.2.2
    have hrow7 := hcl.row (by rw [HW1.out.2.2.1, dflat_len hall])
    rw [HW1.out.2.2.1] at hrow7
    have hidk : i < dk.rd.length := by rw [HV2.out.1]; exact HW1.out.2.2.2.2.2
    have hdk8 := (HW1.out.1.lay hidk HW1.out.2.2.2.2.1 hall hrow7 f17 (fun b hb => hcl.own_ge hb) hm8 f78).mono (G := fun b => w.heap.size ≤ b ∧ b ≠ r) (fun b hb => by
     rcases hb with hb | hb
     · exact hb
     · have h1 := HW1.out.2.1.lt
       have h2 := H1s.out
       exact ⟨by omega, by omega⟩)
    have hrg8 := (HW1.out.2.1.kept (f17.toGrown0 none) (by simp) (by simp)).kept hg8 (fun e => by have := Option.some.inj e; have := H1s.out; have := H6.out.1.lt; omega) (fun e => by have := Option.some.inj e; have := H1s.out; omega)
    have HFin := Lib.hid (And.intro hdk8 (And.intro hrg8 (HF1.out.trans ((f17.mono (G := fun b => b = M2) (fun _ _ q => q.elim)).trans f78 (fun _ _ q => q)) (fun b hb q => by have q' : b = M2 := q; have := H1s.out; omega))))
    clear hdk8 hrg8 f78 f17 hm7 hm8 hg8 hrun8 hrow7 hcl f7 hidk hall
    go_wp2_with fail
    refine ⟨⟨_, cnt1, _, _, _, HFin.out.2.1, Lib.hid (fun k hk => ?_), HFin.out.1, Lib.hid ⟨HV2.out.1, HV2.out.2.1, HV2.out.2.2.1, HV2.out.2.2.2.1, fun j hj => ?_, fun j hj => ?_⟩, Lib.hid HFin.out.2.2⟩, ?_⟩
    · simp only [Bool.and_eq_true] at hk
      exact HIn.out k hk.1
    · by_cases e : j = i
      · subst e
        simp [DS.putv, WideAt.sameKey_self (ky_lit j (by have := H6.out.1.n1; omega))]
      · simp only [DS.putv, if_neg e, Maps.sameKey_ne (ky_inj e), Bool.not_false, Bool.and_true]
        exact HV2.out.2.2.2.2.1 j hj
    · have e : j ≠ i := by have := HW1.out.2.2.2.2.2; omega
      simp only [DS.putv, if_neg e]
      exact HV2.out.2.2.2.2.2 j hj
    · rw [HFin.out.2.1.left_eq, hleq]; exact HW1.out.2.2.2.1
end
end Go.Proofs.YtcnlgbjkjlbmbaaGreat


