/- wal: Open of a log that may be. -/
import Derived.Test.YtjdbgojnpnlblaaGreatVop
import Derived.Maps.OwnIn
namespace Go.Proofs.YtjdbgojnpnlblaaGreat
open Go.RowKit
attribute [local go_sem] Oper.semAt_some

def usedOf (rs : List (List Chg × Nat)) : Nat := (rs.map (·.2)).sum
/-- What is opened. -/
def OpenR (w : World) (B g z c s : Nat) (P : Nat → Prop) (d : DS) (rs : List (List Chg × Nat)) (e : Ending) (w' : World) : Prop :=
  (d.settles 0 [hdS (c + 1) s] = false → e = .returned (.tuple #[.pointer none, .slice none 0 0, .int .i64 10])) ∧
  (d.settles 0 [hdS (c + 1) s] = true → ∃ lb v, e = .returned (.tuple #[.pointer (some ⟨lb, 0, none⟩), v, .int .i64 0]) ∧ w.heap.size ≤ lb ∧ LgW w' lb g z (c + 1) s (usedOf rs) rs.length false ∧ RcsV w' w.heap.size v (rs.map (·.1))) ∧
  (∃ P', DAt w' B P' g (d.settle 0 [hdS (c + 1) s]) ∧ (∀ b, P' b → P b ∨ w.heap.size ≤ b) ∧ (∀ lb v, e = .returned (.tuple #[.pointer (some ⟨lb, 0, none⟩), v, .int .i64 0]) → ¬ P' lb)) ∧ Fr P w w'
theorem run_load_flat {o : Oper} {a : Act} {w : World} {b c s : Nat} {x : Operand} (q : Blk w b 78 #[.int .u64 (c : Nat), .int .u64 (s : Nat)]) (ho : o.op = .load 78 x) (hx : a.eval x = .pointer (some ⟨b, 0, none⟩)) : (execOp a.eval o).run Tryz.prog w = .ok (.value (hV c s)) w := by
  have e := run_loadVar_row (P := Tryz.prog) w b 78 78 #[.int .u64 (c : Nat), .int .u64 (s : Nat)] (0, 0) _ q Tryz.underlying78 rfl infoHd2
  unfold execOp
  simp only [ho, hx, Instr.loadAt, Instr.sureAddr, Sem.run_bind, Sem.run_pure, Result.andThen_ok, e]
theorem own_less {w : World} {base base' e size n : Nat} {v : Value} {xs : List Value} (h : w.ownsRow base e size v n xs) (hb : base' ≤ base) : w.ownsRow base' e size v n xs := by
  obtain ⟨h1, h | ⟨b, c, cs, e1, h2, h3⟩⟩ := h
  · exact ⟨h1, .inl h⟩
  · exact ⟨h1, .inr ⟨b, c, cs, e1, Nat.le_trans hb h2, h3⟩⟩
theorem infoRec : (Tryz.prog.info? 60).map (fun i => (i.zero, i.size, i.bytes)) = some (some (.slice none 0 0), 1, 24) := by kernel_rfl
theorem slice_of_rec (A : Option Addr) (n c : Nat) (w : World) : (Instr.buildSlice 29 1 #[(0, .slice A n c)]).run Tryz.prog w = .ok (.slice (some ⟨w.heap.size, 0, none⟩) 1 1) (w.alloc (.cells #[.slice A n c] 60)) := by
  obtain ⟨i0, hi, hz0, hz1, hz2⟩ := info_parts infoRec
  refine run_buildSlice w 29 60 1 _ _ i0 _ Tryz.underlying29 hi hz0 (by rw [hz1]; omega) (by rw [hz1]; omega) ?_
  rw [hz1]
  have hb : ((Array.range (1 * 1)).map ((Value.slice none 0 0).cells[· % (Value.slice none 0 0).cells.size]!)) = #[Value.slice none 0 0] := by
    apply Array.ext
    · simp
    · intro i h1 h2
      simp at h1
      simp [Value.cells, h1]
  rw [hb]
  simp [Instr.fill, Value.cells]
section
variable {ops : Array Oper} {rest : List Oper} {o : Oper} {a : Act} {w : World} {Q : Exit → Act → World → Prop} {F : Fence} {n : Nat}
theorem wpListIn_build_rec (hg : o.guard = none) (x : Operand) (hop : o.op = .buildSlice 29 1 #[(0, x)]) {A : Option Addr} {k c : Nat} (hx : a.eval x = .slice A k c)
    (hK : wpListIn F n Tryz.prog ops Q rest (a.put o.dst (.slice (some ⟨w.heap.size, 0, none⟩) 1 1)) (w.alloc (.cells #[.slice A k c] 60))) : wpListIn F n Tryz.prog ops Q (o :: rest) a w := by
  refine wpListIn_plain hg fun K hK' => ?_
  have hr := slice_of_rec A k c w
  have hs : o.semAt F.round a.eval = execOp a.eval o := Oper.semAt_plain F _ _ (fun c h => by rw [hop] at h; cases h)
  unfold Oper.wpIn
  rw [hs]
  unfold execOp
  simp only [hop, Array.map, hx]
  refine ⟨fun f hf => by simp [Oper.about, hop] at hf, ?_⟩
  simp [hr, hx, Result.andThen, Oper.uponIn]
  exact hK' _ _ hK
end
set_option maxRecDepth 100000 in
set_option maxHeartbeats 8000000 in
theorem open_go {w : World} {B g z : Nat} {P : Nat → Prop} {d : DS} (h : DAt w B P g d) (h4 : 4 ≤ z) (hz : z ≤ 4000) (hzl : z + 1 ≤ d.rd.length) (hx : isHd d.head = true) (hm : cntOf d.head < maxC) (hN : ∀ j, (d.vs j).length ≤ 10000) : Calls Tryz.prog 8 #[.pointer (some ⟨g, 0, none⟩), .int .i64 z] w
    (OpenR w B g z (cntOf d.head) (sinOf d.head) P d (recs (cntOf d.head) (sinOf d.head) ((d.rd.take (z + 1)).drop 1))) := by
  have HT := Lib.hid (fits_any h (z : Int) (by omega) (by omega))
  rw [show fitE d.rd.length (z : Int) = 0 by unfold fitE; rw [if_neg (by omega)]] at HT
  have HR := Lib.hid (wread_any h (N := z + 1) (by omega) hzl)
  have hxl : d.head.length = 128 := h.get128 (i := 0) (by omega)
  have hvl : hdVal d.head = hV (cntOf d.head) (sinOf d.head) := by simp [hdVal, hx]
  have HW := Lib.hid fun w => whd_any w d.head hxl
  rw [hvl, hx] at HW
  have hd0 : (d.rd.take (z + 1))[0]? = some d.head := by
    unfold DS.head
    rw [List.getElem?_take, if_pos (by omega)]
    simp [show 0 < d.rd.length by omega]
  have hln : (d.rd.take (z + 1)).length = z + 1 := by rw [List.length_take]; omega
  have hle := isHd_le hx
  obtain ⟨cc, hcc⟩ : ∃ cc, cc = cntOf d.head := ⟨_, rfl⟩
  obtain ⟨si, hsi⟩ : ∃ si, si = sinOf d.head := ⟨_, rfl⟩
  rw [← hcc, ← hsi] at HW hle
  rw [← hcc] at hm
  rw [← hcc, ← hsi]
  obtain ⟨rs, hrs⟩ : ∃ rs, rs = recs cc si ((d.rd.take (z + 1)).drop 1) := ⟨_, rfl⟩
  rw [← hrs]
  have HH := Lib.hid (And.intro hd0 (And.intro hln (And.intro hxl (And.intro hm (And.intro hle (And.intro h (And.intro hN (And.intro hrs hzl))))))))
  clear h h4 hzl hx hm hvl hd0 hln hcc hsi hxl hle hN hrs
  rw [Int.natCast_add] at HR
  have e2 : ((z : Int) + ((1 : Nat) : Int)) = 1 + (z : Int) := by omega
  rw [e2] at HR
  clear e2
  refine callsIn_wide (n := 10).1 ?_
  refine callsIn_of_wp_marks Tryz.func8 rfl trivial ?_ rfl
  simp only [Tryz.ntmps8, List.size_toArray, List.length_cons, List.length_nil, Nat.reduceAdd, Nat.reduceSub, Array.replicate_succ, Array.replicate_zero, List.push_toArray, List.append_toArray, List.nil_append, List.cons_append]
  gi_wp2
  refine ⟨trivial, (callsIn_wide.2 HT.out).mono ?_⟩
  rintro e w1 ⟨rfl, rfl⟩
  clear HT
  gi_wp2
  refine ⟨trivial, (callsIn_wide.2 HR.out).mono ?_⟩
  rintro e w1 ⟨v, rfl, hv, hvb, hf1⟩
  obtain ⟨A, cap, rfl, hc1, hc2, h3⟩ := hv
  obtain ⟨b, off, rfl, hsec⟩ := h3 (by rw [HH.out.2.1]; omega)
  have hr0 := (hsec 0 _ HH.out.1).2
  rw [Nat.zero_mul, Nat.add_zero] at hr0
  have hlv := HH.out.2.1
  rw [hlv]
  have hz0 : (0 : Int) < ((z + 1 : Nat) : Int) := by omega
  have hsv : SecV w1 (.slice (some ⟨b, off, none⟩) (z + 1) cap) (d.rd.take (z + 1)) := ⟨_, cap, by rw [hlv], hc1, hc2, fun _ => ⟨b, off, rfl, hsec⟩⟩
  have H1 := Lib.hid (And.intro hr0 (And.intro hf1 (And.intro hsv (hvb b rfl))))
  clear h3 hsec hr0 hf1 hc1 hc2 HR hsv hvb
  gi_wp2_with (first
    | (refine wpListIn_load_mid rfl 45 _ rfl b off rfl (cellsB d.head) _ H1.out.1 Tryz.underlying45 rfl (by rw [infoSector, cellsB_len, HH.out.2.2.1]) ?_))
  refine ⟨trivial, (callsIn_wide.2 (HW.out _)).mono ?_⟩
  rintro e w2 ⟨rfl, hf2⟩
  have hb10 := Blk.new w2 78 #[.int .u64 (cc : Nat), .int .u64 (si : Nat)]
  have HF2 := Lib.hid (H1.out.2.1.trans hf2 (fun _ _ q => q))
  have hz12 := hf2.size
  have HS2 := Lib.hid (H1.out.2.2.1.new hf2)
  clear hf2 HW hz0
  gi_wp2
  refine ⟨trivial, (callsIn_wide.2 (next_any (w2.alloc (.cells #[.int .u64 (cc : Nat), .int .u64 (si : Nat)] 78)) cc si HH.out.2.2.2.1 (Nat.le_trans HH.out.2.2.2.2.1.2.1 HH.out.2.2.2.2.1.2.2))).mono ?_⟩
  rintro e w3 ⟨rfl, hf3⟩
  have hb10' := hb10.keep hf3 (fun q => q)
  have HF3 := Lib.hid (And.intro ((HF2.out.alloc (.cells #[.int .u64 (cc : Nat), .int .u64 (si : Nat)] 78)).trans hf3 (fun _ _ q => q)) (And.intro (HS2.out.new (((Fr.refl _ w2).alloc _).trans hf3 (fun _ _ q => q))) hb10'))
  have hg2 : w.heap.size ≤ w2.heap.size := HF2.out.size
  have hW13 : w1.heap.size ≤ w3.heap.size := by
    have q := hf3.size
    simp at q
    omega
  have hg10 : w2.heap.size < w3.heap.size := by
    have q := hf3.size
    simp at q
    omega
  have hbl := build_log g z (cc + 1) si
  clear hf3 hb10 hb10' HS2
  gi_wp2
  obtain ⟨W, hW, k12, klb, k13, k14, hszW, hfW⟩ := alloc4 w3 #[.int .u64 ((cc : Int) + 1), .int .u64 (si : Nat)] (logC g z (cc + 1) si 0 0 false) #[.pointer (some ⟨w3.heap.size + 1, 0, none⟩)] #[.slice none 0 0] 78 84 28 29
  have hW' : (((w3.alloc (.cells #[.int .u64 ((cc : Int) + 1), .int .u64 (si : Nat)] 78)).alloc (.cells #[.pointer (some ⟨g, 0, none⟩), .int .i64 (z : Nat), .int .u64 ((cc : Int) + 1), .int .u64 (si : Nat), .int .i64 0, .int .i64 0, .bool false] 84)).alloc (.cells #[.pointer (some ⟨w3.heap.size + 1, 0, none⟩)] 28)).alloc (.cells #[.slice none 0 0] 29) = W := by rw [hW]; rfl
  rw [hW']
  have hs2 := HF3.out.2.1.new hfW
  obtain ⟨A', hsl, hs3, hs4⟩ := slice_secV hs2 1 (by rw [HH.out.2.1]; omega)
  have hsl' : ∀ W, (Instr.slice 33 (.slice (some ⟨b, off, none⟩) (z + 1) cap) (some (.int .i64 1)) none none).run Tryz.prog W = .ok (.slice A' (z + 1 - 1) (cap - 1)) W := hsl
  have hb10 := HF3.out.2.2.keep hfW (fun q => q)
  have hb9 : b < w1.heap.size := by
    obtain ⟨c0, hc0⟩ : ∃ c0, (cellsB d.head)[0]? = some c0 := ⟨_, List.getElem?_eq_getElem (by rw [cellsB_len, HH.out.2.2.1]; omega)⟩
    exact World.block_lt_of_cell? w1 _ (H1.out.1 0 c0 hc0)
  have HW := Lib.hid (And.intro k12 (And.intro klb (And.intro k13 (And.intro k14 (And.intro hszW (And.intro (HF3.out.1.trans hfW (fun _ _ q => q)) (And.intro hs3 (And.intro hb10 (And.intro hs4 hb9)))))))))
  clear k12 klb k13 k14 hszW hfW hs2 hs3 hb10 hs4 hb9 hW hW' hbl HF2 hsl
  obtain ⟨X0, hX0, kh, kl, hszX, hfX⟩ := alloc2 W.drew #[.int .u64 (cc : Nat), .int .u64 (si : Nat)] #[.slice A' (z + 1 - 1) (cap - 1)] 78 33
  refine wpIn_wide.2 (wp_region_noPanic ?_)
  refine wp_region_held_drew (S := fun w' => Fr (fun _ => False) W w') (by kernel_rfl) ((Fr.refl _ _).drew) (fun hS0 => ?_)
  refine anyH_take 0 56 (hV cc si) rfl rfl (by kernel_rfl) (by kernel_rfl) (by kernel_rfl) (fun _ _ _ h => h) (.inl ⟨by rfl, fun w'' hS => run_load_flat (HW.out.2.2.2.2.2.2.2.1.keep hS (fun q => q)) rfl rfl⟩) hS0 ?_
  (simp only [List.setIfInBounds_toArray, List.set_cons_zero, List.set_cons_succ])
  refine anyH_take 1 57 (.slice (some ⟨b, off, none⟩) (z + 1) cap) rfl rfl (by kernel_rfl) (by kernel_rfl) (by kernel_rfl) (fun _ _ _ h => h) (.inl ⟨by rfl, fun w'' hS => by go_simp⟩) hS0 ?_
  (simp only [List.setIfInBounds_toArray, List.set_cons_zero, List.set_cons_succ])
  refine anyH_take 2 58 (.slice A' (z + 1 - 1) (cap - 1)) rfl rfl (by kernel_rfl) (by kernel_rfl) (by kernel_rfl) (fun _ _ _ h => h) (.inl ⟨by rfl, fun w'' hS => by have q := hsl' w''; go_simp⟩) hS0 ?_
  (simp only [List.setIfInBounds_toArray, List.set_cons_zero, List.set_cons_succ])
  refine anyH_enter 3 59 (f := 39) (args := #[hV cc si, .slice A' (z + 1 - 1) (cap - 1)]) (by kernel_rfl) rfl rfl (by rfl) (by go_simp) ?_
  refine (records_any _ cc si A' _ _).mono ?_
  rintro e w9 ⟨rfl, rfl⟩
  rw [← hX0]
  refine ⟨_, rfl, Fr.trans hS0 hfX (fun _ _ q => q), ?_⟩
  (simp only [List.setIfInBounds_toArray, List.set_cons_zero, List.set_cons_succ])
  refine wpAnyH_done (by kernel_rfl) ?_ _
  refine NoPanic.normal ?_
  have hdr : W.drew.heap.size = W.heap.size := rfl
  rw [hdr] at kh kl hszX ⊢
  have HX := Lib.hid (And.intro kh (And.intro kl (And.intro hszX (Fr.trans hS0 hfX (fun _ _ q => q)))))
  clear kh kl hszX hfX hX0 hS0 hdr hsl'
  gi_wp2
  have hDD : X0.heap.size = w3.heap.size + 6 := by have := HX.out.2.2.1; have := HW.out.2.2.2.2.1; omega
  have hw3 : w.heap.size ≤ w3.heap.size := HF3.out.1.size
  have HFX := Lib.hid (HW.out.2.2.2.2.2.1.trans HX.out.2.2.2 (fun _ _ q => q))
  have HI0 := Lib.hid (And.intro (HW.out.1.keep HX.out.2.2.2 (fun q => q)) (And.intro (HW.out.2.1.keep HX.out.2.2.2 (fun q => q)) (And.intro (HW.out.2.2.1.keep HX.out.2.2.2 (fun q => q)) (HW.out.2.2.2.1.keep HX.out.2.2.2 (fun q => q)))))
  obtain ⟨ss, hss⟩ : ∃ ss, ss = (d.rd.take (z + 1)).drop 1 := ⟨_, rfl⟩
  have hsl : ss.length = z := by rw [hss, List.length_drop, HH.out.2.1]; omega
  have hsv := HW.out.2.2.2.2.2.2.1.new HX.out.2.2.2
  rw [← hss] at hsv
  have HSS := Lib.hid (And.intro hss (And.intro hsl hsv))
  clear hss hsl hsv
  refine range_told_f rfl (by omega) (gf := 73) (lb := #[.pointer (some ⟨W.heap.size + 1, 0, none⟩), .pointer (some ⟨W.heap.size, 0, none⟩)]) rfl trivial (enters_of Tryz.func73 (by kernel_rfl) rfl) (encs := encR) (fun _ => rfl)
    (fun xs X => LgW X (w3.heap.size + 1) g z (cc + 1) si (xs.map (·.k)).sum xs.length false ∧ Blk X (w3.heap.size + 1 + 1) 28 #[.pointer (some ⟨w3.heap.size + 1, 0, none⟩)] ∧ Blk X w3.heap.size 78 #[.int .u64 ((cc : Int) + 1), .int .u64 (si : Nat)] ∧
      (∃ v, Blk X (w3.heap.size + 1 + 1 + 1) 29 #[v] ∧ X.ownsRow (X0.heap.size + 2) 60 1 v xs.length (xs.map (·.v))) ∧ (∀ x ∈ xs, x.Is (X0.heap.size + 2) X) ∧ Fr (fun _ => False) w X)
    (fun pre x X => x.Is (X0.heap.size + 2) X ∧ pre.length ≤ 8192 ∧ (pre.map (·.k)).sum + x.k ≤ 8192)
    (fun xs => xs.map (fun x => (x.r, x.k)) = recs cc si ss)
    (fun k => k = w3.heap.size + 1 + 1 + 1 ∨ k = w3.heap.size + 1 ∨ X0.heap.size + 2 ≤ k) (by omega) (by omega)
    (fun x T => (((T.setIfInBounds 60 x.v).setIfInBounds 61 (.int .i64 (x.k : Nat))).setIfInBounds 15 x.v).setIfInBounds 16 (.int .i64 (x.k : Nat)))
    (fun xs X Y hi f => by
      obtain ⟨h1, h2, h3, ⟨v, h4, h5⟩, h6, h7⟩ := hi
      exact ⟨h1.keep f (by omega), h2.keep f (by omega), h3.keep f (by omega), ⟨v, h4.keep f (by omega), own_keep h5 f (fun k hk e => by have := own_low h5 hk; omega)⟩, fun x hx => (h6 x hx).keep f (fun b' hb' e => by have := ((h6 x hx).2 b' hb').1; omega), h7.trans f (fun i hi q => by omega)⟩)
    (fun pre x X Y he f => ⟨he.1.keep f (fun b' hb' e => by have := (he.1.2 b' hb').1; omega), he.2⟩)
    ⟨HI0.out.2.1, HI0.out.2.2.1, HI0.out.1, ⟨_, HI0.out.2.2.2, World.ownsRow_nil _ _ _ _⟩, (fun x hx => by cases hx), HFX.out⟩
    ?seq ?assign ?body ?done
  case seq =>
    intro J Y hfY hsY hJ hY h0
    have q1 := (HX.out.2.1.keep hfY (fun q => q)).cell 0
    have q2 := (HX.out.1.keep hfY (fun q => q)).cell 0
    have q3 := (HX.out.1.keep hfY (fun q => q)).cell 1
    have hWX := HX.out.2.2.1
    refine records1_in (fun k => k = w3.heap.size + 1 + 1 + 1 ∨ k = w3.heap.size + 1 ∨ X0.heap.size + 2 ≤ k) (X0.heap.size + 1) (W.heap.size + 1) W.heap.size cc si (X0.heap.size + 2) (fun b' hb' q => ?_) (by omega) (by omega) (by simpa using q1) (by simpa using q2) (by simpa using q3) (HSS.out.2.2.new hfY) (by rw [HSS.out.2.1]; omega) hsY J hJ hY h0
    have h8 := HW.out.2.2.2.2.2.2.2.2.1 b' hb'
    injection h8 with h8
    have h9 := HW.out.2.2.2.2.2.2.2.2.2
    simp at h8
    omega
  case assign =>
    intro x Y K hK
    simp only [encR, List.zip_toArray, List.zip_cons_cons, List.zip_nil_right, List.foldl_toArray, List.foldl_cons, List.foldl_nil, List.setIfInBounds_toArray, List.set_cons_succ, List.set_cons_zero] at hK ⊢
    gi_wp2
    exact hK
  case body =>
    rintro pre ⟨vx, rx, kx⟩ Y ⟨h1, h2, h3, ⟨v, h4, h5⟩, h6, h7⟩ ⟨he, hp1, hp2⟩ hlt
    simp only [List.setIfInBounds_toArray, List.set_cons_succ, List.set_cons_zero]
    obtain ⟨Av, cv, evx, ev1, ev2, ev3⟩ := he.1
    simp only at evx
    subst evx
    have c14 := h4.cell 0
    have c13 := h2.cell 0
    simp at c14 c13
    obtain ⟨i0, hi, hz0, hz1, hz2⟩ := info_parts infoRec
    have hfs : Fr (fun _ => False) Y (Y.alloc (.cells #[.slice Av rx.length cv] 60)) := (Fr.refl _ Y).alloc _
    have hns : ∀ j u, ([Value.slice Av rx.length cv] : List Value)[j]? = some u → (Y.alloc (.cells #[.slice Av rx.length cv] 60)).cell? ((⟨Y.heap.size, 0, none⟩ : Addr).add j) = some u := fun j u hj => by
      rw [Addr.add_mid, (Blk.new Y 60 #[.slice Av rx.length cv]).cell]
      simpa using hj
    have HAP := Lib.hid (And.intro (own_keep h5 hfs (fun _ _ q => q)) (And.intro hns (And.intro hz0 (And.intro hz1 (And.intro hz2 (And.intro hi (And.intro hfs (And.intro hp1 hp2))))))))
    have HI := Lib.hid (And.intro h1 (And.intro h2 (And.intro h3 (And.intro h4 (And.intro h5 (And.intro h6 (And.intro h7 he)))))))
    have hused : (pre.map (·.k)).sum + kx ≤ 8192 := hp2
    obtain ⟨us, hus⟩ : ∃ us, us = (pre.map (·.k)).sum := ⟨_, rfl⟩
    obtain ⟨mn, hmn⟩ : ∃ mn, mn = pre.length := ⟨_, rfl⟩
    have hmn9 : mn ≤ 8192 := by omega
    rw [← hus] at hused
    have HUM := Lib.hid (And.intro hus hmn)
    clear h1 h2 h3 h4 h5 h6 h7 he hns hfs hz0 hz1 hz2 hi hp1 hp2 ev1 ev2 ev3 hus hmn
    gi_wp2_with (first
      | (refine wpListIn_build_rec rfl (.tmp 63) rfl rfl ?_)
      | (refine wpListIn_append_own_at _ rfl (.tmp 62) (.tmp 64) 29 rfl (X0.heap.size + 2) 60 i0 (.slice none 0 0) 1 24 Tryz.underlying29 HAP.out.2.2.2.2.2.1 HAP.out.2.2.1 HAP.out.2.2.2.1 HAP.out.2.2.2.2.1 rfl (by omega) v pre.length (pre.map (·.v)) rfl HAP.out.1 ⟨Y.heap.size, 0, none⟩ 1 1 [.slice Av rx.length cv] rfl rfl HAP.out.2.1 (fun u hu => by rw [List.mem_singleton.1 hu]; rfl) (by have := HAP.out.2.2.2.2.2.2.2.1; simp only [maxLen]; omega) (by have := HAP.out.2.2.2.2.2.2.2.1; omega) (by simp; omega) ?_
         intro v' Y3 ho3 hg3 _ hat3
         obtain ⟨A3, n3, c3, rfl⟩ := own_form ho3
         have fA : Fr (fun j => v.ownBlock = some j) (Y.alloc (.cells #[.slice Av rx.length cv] 60)) Y3 := (Fr.refl (fun j => v.ownBlock = some j) _).grown hg3 (fun j e => .inl e)
         have fY : Fr (fun j => v.ownBlock = some j) Y Y3 := (HAP.out.2.2.2.2.2.2.1.mono (fun _ _ q => q.elim)).trans fA (fun _ _ q => q)
         have b14 := HI.out.2.2.2.1.keep fY (own_ne HI.out.2.2.2.2.1 HI.out.2.2.2.1 (by decide))
         have b13 := HI.out.2.1.keep fY (own_ne HI.out.2.2.2.2.1 HI.out.2.1 (by decide))
         have blb := HI.out.1.keep fY (own_ne HI.out.2.2.2.2.1 HI.out.1 (by decide))
         have H3 := Lib.hid (And.intro ho3 (And.intro fY (And.intro b14 (And.intro b13 blb))))
         have d14 := b14.cell 0
         have g14 := b14.frozen 0
         have d13 := b13.cell 0
         obtain ⟨⟨_, _, _, _, d4, d5, _⟩, hfz⟩ := lg_cells blb
         rw [← HUM.out.1] at d4
         rw [← HUM.out.2] at d5
         have z4 := hfz 4
         have z5 := hfz 5
         simp at d14 d13
         clear ho3 hg3 hat3 fA fY b14 b13 blb hfz c14 c13))
    have e8 : w3.heap.size + 6 + 2 = X0.heap.size + 2 := by omega
    rw [e8]
    have hv8 : ∀ k, v.ownBlock = some k → X0.heap.size + 2 ≤ k := fun k hk => own_low HI.out.2.2.2.2.1 hk
    obtain ⟨Z, hZ⟩ : ∃ Z, Z = ((Y3.setCell ⟨w3.heap.size + 1 + 1 + 1, 0, none⟩ (.slice A3 n3 c3)).setCell ⟨w3.heap.size + 1, 5, none⟩ (.int .i64 ((mn : Int) + 1))).setCell ⟨w3.heap.size + 1, 4, none⟩ (.int .i64 ((us : Int) + (kx : Int))) := ⟨_, rfl⟩
    have fB : Fr (fun k => k = w3.heap.size + 1 + 1 + 1 ∨ k = w3.heap.size + 1) Y3 Z := by
      rw [hZ]
      exact ((Fr.refl (fun k => k = w3.heap.size + 1 + 1 + 1 ∨ k = w3.heap.size + 1) Y3).setCell (p := ⟨w3.heap.size + 1 + 1 + 1, 0, none⟩) (.inl (.inl rfl)) _).setCell (p := ⟨w3.heap.size + 1, 5, none⟩) (.inl (.inr rfl)) _ |>.setCell (p := ⟨w3.heap.size + 1, 4, none⟩) (.inl (.inr rfl)) _
    have fZ : Fr (fun k => k = w3.heap.size + 1 + 1 + 1 ∨ k = w3.heap.size + 1 ∨ v.ownBlock = some k) Y Z := (H3.out.2.1.mono (fun _ _ q => .inr (.inr q))).trans fB (fun k _ q => by rcases q with q | q; exact .inl q; exact .inr (.inl q))
    have zlg : LgW Z (w3.heap.size + 1) g z (cc + 1) si ((pre.map (·.k)).sum + kx) (pre.length + 1) false := by
      have f14 := (Fr.refl (fun k => k = w3.heap.size + 1 + 1 + 1) Y3).setCell (p := ⟨w3.heap.size + 1 + 1 + 1, 0, none⟩) (.inl rfl) (.slice A3 n3 c3)
      have q := ((H3.out.2.2.2.2.keep f14 (by omega)).set_ 5 (.int .i64 ((mn : Int) + 1))).set_ 4 (.int .i64 ((us : Int) + (kx : Int)))
      rw [← hZ] at q
      have e : logC g z (cc + 1) si ((pre.map (·.k)).sum + kx) (pre.length + 1) false = ((logC g z (cc + 1) si (pre.map (·.k)).sum pre.length false).setIfInBounds 5 (.int .i64 ((mn : Int) + 1))).setIfInBounds 4 (.int .i64 ((us : Int) + (kx : Int))) := by
        rw [HUM.out.1, HUM.out.2]
        simp [logC, Int.natCast_add]
      unfold LgW
      rw [e]
      exact q
    have z14 : Blk Z (w3.heap.size + 1 + 1 + 1) 29 #[.slice A3 n3 c3] := by
      have q := (H3.out.2.2.1.set_ 0 (.slice A3 n3 c3)).keep (((Fr.refl (fun k => k = w3.heap.size + 1) (Y3.setCell ⟨w3.heap.size + 1 + 1 + 1, 0, none⟩ (.slice A3 n3 c3))).setCell (p := ⟨w3.heap.size + 1, 5, none⟩) (.inl rfl) (.int .i64 ((mn : Int) + 1))).setCell (p := ⟨w3.heap.size + 1, 4, none⟩) (.inl rfl) (.int .i64 ((us : Int) + (kx : Int)))) (by omega)
      rw [← hZ] at q
      exact q
    rw [← hZ]
    refine ⟨fZ.mono (fun k _ q => ?_), zlg, H3.out.2.2.2.1.keep fB (by omega), HI.out.2.2.1.keep fZ (fun q => ?_), ⟨_, z14, own_keep H3.out.1 fB (fun k hk q => ?_)⟩, fun x hx => ?_, HI.out.2.2.2.2.2.2.1.trans fZ (fun i hi q => ?_)⟩
    · rcases q with q | q | q
      · exact .inl q
      · exact .inr (.inl q)
      · exact .inr (.inr (by have := hv8 k q; omega))
    · rcases q with q | q | q
      · omega
      · omega
      · have := hv8 _ q
        omega
    · rcases q with q | q
      · exact own_ne H3.out.1 H3.out.2.2.1 (by decide) (by rw [hk, q])
      · exact own_ne H3.out.1 H3.out.2.2.2.2 (by decide) (by rw [hk, q])
    · have hxi : x.Is (X0.heap.size + 2) Y := by
        rcases hx with q | q
        · exact HI.out.2.2.2.2.2.1 x q
        · rw [q]
          exact HI.out.2.2.2.2.2.2.2
      refine hxi.keep fZ (fun b' hb' q => ?_)
      obtain ⟨q1, cs1, q2⟩ := hxi.2 b' hb'
      rcases q with q | q | q
      · omega
      · omega
      · exact own_ne HI.out.2.2.2.2.1 q2 (by decide) q
    · rcases q with q | q | q
      · omega
      · omega
      · have := hv8 _ q
        omega
  case done =>
    rintro xs Y hS ⟨h1, h2, h3, ⟨v, h4, h5⟩, h6, h7⟩ hlt hK
    have HI := Lib.hid (And.intro h1 (And.intro h2 (And.intro h3 (And.intro h4 (And.intro h5 (And.intro h6 (And.intro h7 (And.intro hS hK))))))))
    have HCW : Hid (∀ w', Fr (fun b => P b ∨ b = w3.heap.size + 1) Y w' → w'.cell? ⟨w3.heap.size + 1 + 1, 0, none⟩ = some (.pointer (some ⟨w3.heap.size + 1, 0, none⟩)) ∧ Blk w' w3.heap.size 78 #[.int .u64 ((cc : Int) + 1), .int .u64 (si : Nat)]) := Lib.hid fun w' f => by
      have hn : ∀ b, w3.heap.size ≤ b → b ≠ w3.heap.size + 1 → ¬ (P b ∨ b = w3.heap.size + 1) := fun b h1 h2 q => by
        rcases q with q | q
        · have := (HH.out.2.2.2.2.2.1.2 b q).2; omega
        · exact h2 q
      have q := (HI.out.2.1.keep f (hn _ (by omega) (by omega))).cell 0
      exact ⟨by simpa using q, HI.out.2.2.1.keep f (hn _ (Nat.le_refl _) (by omega))⟩
    have hcc1 : cc + 1 ≤ 18446744073709551615 ∧ si ≤ 18446744073709551615 := by have q1 := HH.out.2.2.2.1; have q2 := HH.out.2.2.2.2.1.2.1; unfold maxC at q1; omega
    have HCC := Lib.hid hcc1
    clear h1 h2 h3 h4 h5 h6 h7 hS hK hcc1
    gi_wp2
    refine wpIn_wide.2 (wp_region_noPanic ?_)
    refine wp_region_held_drew (S := fun w' => Fr (fun b => P b ∨ b = w3.heap.size + 1) Y w') (by kernel_rfl) ((Fr.refl _ _).drew) (fun hS0 => ?_)
    refine anyH_take 0 81 (.pointer (some ⟨w3.heap.size + 1, 0, none⟩)) rfl rfl (by kernel_rfl) (by kernel_rfl) (by kernel_rfl) (fun _ _ _ h => h) (.inl ⟨by rfl, fun w'' hS => by have q := (HCW.out w'' hS).1; go_simp⟩) hS0 ?_
    (simp only [List.setIfInBounds_toArray, List.set_cons_zero, List.set_cons_succ])
    refine anyH_take 1 82 (.agg #[.int .u64 ((cc : Int) + 1), .int .u64 (si : Nat)]) rfl rfl (by kernel_rfl) (by kernel_rfl) (by kernel_rfl) (fun _ _ _ h => h) (.inl ⟨by rfl, fun w'' hS => run_load_flat (c := cc + 1) (HCW.out w'' hS).2 rfl rfl⟩) hS0 ?_
    (simp only [List.setIfInBounds_toArray, List.set_cons_zero, List.set_cons_succ])
    refine anyH_enter 2 83 (f := 41) (args := #[.agg #[.int .u64 ((cc : Int) + 1), .int .u64 (si : Nat)]]) (by kernel_rfl) rfl rfl (by rfl) (by go_simp) ?_
    refine (sector_any Y.drew (cc + 1) si HCC.out.1 HCC.out.2).mono ?_
    rintro e w8 ⟨rfl, f8⟩
    have f8' : Fr (fun _ => False) Y w8 := Fr.trans ((Fr.refl _ Y).drew) f8 (fun _ _ q => q)
    refine ⟨_, rfl, f8'.mono (fun _ _ q => q.elim), ?_⟩
    (simp only [List.setIfInBounds_toArray, List.set_cons_zero, List.set_cons_succ])
    have f9 : Fr (fun _ => False) Y (w8.alloc (.cells (cellsB (hdS (cc + 1) si)).toArray 45)) := f8'.alloc _
    refine anyH_value 3 84 (.slice (some ⟨w8.heap.size, 0, none⟩) 1 1) (w8.alloc (.cells (cellsB (hdS (cc + 1) si)).toArray 45)) (by kernel_rfl) rfl rfl (by rfl) (run_build_op (.tmp 83) rfl (hdS_len _ _) rfl) (f9.mono (fun _ _ q => q.elim)) ?_
    (simp only [List.setIfInBounds_toArray, List.set_cons_zero, List.set_cons_succ])
    refine anyH_enter 4 85 (f := 40) (args := #[.pointer (some ⟨w3.heap.size + 1, 0, none⟩), .int .i64 0, .slice (some ⟨w8.heap.size, 0, none⟩) 1 1]) (by kernel_rfl) rfl rfl (by rfl) (by go_simp) ?_
    have hb8 := Blk.new w8 45 (cellsB (hdS (cc + 1) si)).toArray
    have hlP : ¬ P (w3.heap.size + 1) := fun q => by have := (HH.out.2.2.2.2.2.1.2 _ q).2; omega
    have hd9 := HH.out.2.2.2.2.2.1.new (HI.out.2.2.2.2.2.2.1.trans f9 (fun _ _ q => q))
    refine (lsettle_any (HI.out.1.keep f9 (fun q => q)) hlP hd9 (i := 0) (SecV.one hb8 (hdS_len _ _)) (fun b' hb' q => by
      injection hb' with hb'
      have h1 := (HH.out.2.2.2.2.2.1.2 b' q).2
      have h2 := HI.out.2.2.2.2.2.2.1.size
      have h3 := f8'.size
      simp at hb'
      omega) (by have := hd9.len; simp; omega) HH.out.2.2.2.2.2.2.1).mono ?_
    rintro e w10 ⟨rfl, hlg, ⟨P', hp1, hp2⟩, hf10⟩
    have f10 : Fr (fun b => P b ∨ b = w3.heap.size + 1) Y w10 := (f9.mono (fun _ _ q => q.elim)).trans hf10 (fun _ _ q => q)
    refine ⟨_, rfl, f10, ?_⟩
    (simp only [List.setIfInBounds_toArray, List.set_cons_zero, List.set_cons_succ])
    obtain ⟨ev, hev⟩ : ∃ ev : Int, ev = if d.settles 0 [hdS (cc + 1) si] = true then 0 else 10 := ⟨_, rfl⟩
    rw [← hev]
    refine anyH_take 5 17 (.int .i64 ev) rfl rfl (by kernel_rfl) (by kernel_rfl) (by kernel_rfl) (fun _ _ _ h => h) (.inl ⟨by rfl, fun w'' hS => by go_simp⟩) f10 ?_
    (simp only [List.setIfInBounds_toArray, List.set_cons_zero, List.set_cons_succ])
    refine wpAnyH_done (by kernel_rfl) ?_ _
    refine NoPanic.normal ?_
    have hY9 := f9.size
    have hDl : w3.heap.size + 6 < Y.heap.size := by omega
    have hPD : ∀ b, P b → b < w.heap.size := fun b q => (HH.out.2.2.2.2.2.1.2 b q).2
    have hK1 : w10.heap[X0.heap.size]? = some (.deferred (some [])) := (f10.block _ (by omega) (fun q => by
      rcases q with q | q
      · have := hPD _ q; omega
      · omega)).trans HI.out.2.2.2.2.2.2.2.2
    have hP2 : ∀ b, P' b → P b ∨ Y.heap.size ≤ b := fun b hb => (hp2 b hb).imp id (fun q => by omega)
    have fw : Fr P w w10 := (HI.out.2.2.2.2.2.2.1.mono (fun _ _ q => q.elim)).trans f10 (fun i hi q => by
      rcases q with q | q
      · exact q
      · omega)
    have H10 := Lib.hid (And.intro hlg (And.intro hp1 (And.intro hp2 (And.intro f10 hev))))
    clear hlg hp1 hp2 hf10 f10 f9 f8 f8' hb8 hlP hd9 hev hS0
    cases hst : d.settles 0 [hdS (cc + 1) si] with
    | false =>
      have hev : ev = 10 := by rw [H10.out.2.2.2.2, hst]; rfl
      subst hev
      gi_wp2
      have fz := fr_putObj w10 X0.heap.size (.deferred none)
      refine ⟨by simp, .inl ⟨_, _, rfl, run_takeDeferred hK1, ?_⟩⟩
      refine ⟨_, results_tmp3 rfl _ _ _, fun _ => rfl, (fun q => by rw [hst] at q; cases q), ⟨P', H10.out.2.1.keep fz (fun b' hb' e => ?_), fun b' hb' => (hP2 b' hb').imp id (fun q => ?_), fun lb' v' h => ?_⟩, fw.trans fz (fun i hi q => ?_)⟩
      · rcases hP2 b' hb' with q | q
        · have := hPD _ q; omega
        · omega
      · have := HI.out.2.2.2.2.2.2.1.size; omega
      · exfalso
        injection h with h
        injection h with h
        simp at h
      · omega
    | true =>
      have hev : ev = 0 := by rw [H10.out.2.2.2.2, hst]; rfl
      subst hev
      gi_wp2
      have n13 : ∀ k, w3.heap.size ≤ k → k ≠ w3.heap.size + 1 → ¬ (P k ∨ k = w3.heap.size + 1) := fun k hk hk2 q => by
        rcases q with q | q
        · have := hPD _ q; omega
        · exact hk2 q
      have b13 := HI.out.2.1.keep H10.out.2.2.2.1 (n13 _ (by omega) (by omega))
      have b14 := HI.out.2.2.2.1.keep H10.out.2.2.2.1 (n13 _ (by omega) (by omega))
      have HBX := Lib.hid (And.intro b13 b14)
      clear b13 b14
      refine wpIn_wide.2 (wp_region_noPanic ?_)
      refine wp_region_held_drew (S := fun w' => Fr (fun _ => False) w10 w') (by kernel_rfl) ((Fr.refl _ _).drew) (fun hS0 => ?_)
      refine anyH_take 0 89 (.pointer (some ⟨w3.heap.size + 1, 0, none⟩)) rfl rfl (by kernel_rfl) (by kernel_rfl) (by kernel_rfl) (fun _ _ _ h => h) (.inl ⟨by rfl, fun w'' hS => by have q := (HBX.out.1.keep hS (fun q => q)).cell 0; simp at q; go_simp⟩) hS0 ?_
      (simp only [List.setIfInBounds_toArray, List.set_cons_zero, List.set_cons_succ])
      refine anyH_take 1 90 v rfl rfl (by kernel_rfl) (by kernel_rfl) (by kernel_rfl) (fun _ _ _ h => h) (.inl ⟨by rfl, fun w'' hS => by have q := (HBX.out.2.keep hS (fun q => q)).cell 0; simp at q; go_simp⟩) hS0 ?_
      (simp only [List.setIfInBounds_toArray, List.set_cons_zero, List.set_cons_succ])
      refine anyH_take 2 4 (.pointer (some ⟨w3.heap.size + 1, 0, none⟩)) rfl rfl (by kernel_rfl) (by kernel_rfl) (by kernel_rfl) (fun _ _ _ h => h) (.inl ⟨by rfl, fun w'' hS => by go_simp⟩) hS0 ?_
      (simp only [List.setIfInBounds_toArray, List.set_cons_zero, List.set_cons_succ])
      refine anyH_take 3 5 v rfl rfl (by kernel_rfl) (by kernel_rfl) (by kernel_rfl) (fun _ _ _ h => h) (.inl ⟨by rfl, fun w'' hS => by go_simp⟩) hS0 ?_
      (simp only [List.setIfInBounds_toArray, List.set_cons_zero, List.set_cons_succ])
      refine anyH_take 4 6 (.int .i64 0) rfl rfl (by kernel_rfl) (by kernel_rfl) (by kernel_rfl) (fun _ _ _ h => h) (.inl ⟨by rfl, fun w'' hS => by go_simp⟩) hS0 ?_
      (simp only [List.setIfInBounds_toArray, List.set_cons_zero, List.set_cons_succ])
      refine wpAnyH_done (by kernel_rfl) ?_ _
      refine NoPanic.normal ?_
      gi_wp2
      have fz : Fr (fun k => k = X0.heap.size) w10 (w10.drew.putObj X0.heap.size (.deferred none)) := Fr.trans ((Fr.refl _ w10).drew) (fr_putObj w10.drew X0.heap.size (.deferred none)) (fun _ _ q => q)
      have hK2 : w10.drew.heap[X0.heap.size]? = some (.deferred (some [])) := hK1
      refine ⟨by simp, .inl ⟨_, _, rfl, run_takeDeferred hK2, ?_⟩⟩
      have hrs : rs = xs.map (fun x => (x.r, x.k)) := by rw [HH.out.2.2.2.2.2.2.2.1, ← HSS.out.1, HI.out.2.2.2.2.2.2.2.1]
      have hus : usedOf rs = (xs.map (·.k)).sum := by unfold usedOf; rw [hrs, List.map_map]; rfl
      have hln : rs.length = xs.length := by rw [hrs, List.length_map]
      have fYz : Fr (fun b => P b ∨ b = w3.heap.size + 1 ∨ b = X0.heap.size) Y (w10.drew.putObj X0.heap.size (.deferred none)) := (H10.out.2.2.2.1.mono (fun k _ q => q.elim .inl (fun q => .inr (.inl q)))).trans fz (fun k _ q => .inr (.inr q))
      have hnk : ∀ k, X0.heap.size + 2 ≤ k → ¬ (P k ∨ k = w3.heap.size + 1 ∨ k = X0.heap.size) := fun k hk q => by
        rcases q with q | q | q
        · have := hPD _ q; omega
        · omega
        · omega
      refine ⟨_, results_tmp3 rfl _ _ _, (fun q => by rw [hst] at q; cases q), fun _ => ⟨w3.heap.size + 1, v, rfl, by omega, ?_, xs.map (·.v), ?_, by rw [hrs, List.map_map, List.length_map, List.length_map], fun i u r hu hr => ?_⟩, ⟨P', H10.out.2.1.keep fz (fun b' hb' e => ?_), fun b' hb' => (hP2 b' hb').imp id (fun q => ?_), fun lb' v' h q => ?_⟩, fw.trans fz (fun i hi q => ?_)⟩
      · rw [hus, hln]
        have q := H10.out.1.keep fz (by omega)
        rw [hst] at q
        exact q
      · have q := own_keep HI.out.2.2.2.2.1 fYz (fun k hk => hnk k (own_low HI.out.2.2.2.2.1 hk))
        rw [List.length_map]
        exact own_less q (by omega)
      · obtain ⟨x, hx, rfl⟩ : ∃ x, xs[i]? = some x ∧ x.v = u := by simpa using hu
        have hr2 : r = x.r := by
          rw [hrs, List.map_map] at hr
          simp [hx] at hr
          exact hr.symm
        subst hr2
        have hxi := HI.out.2.2.2.2.2.1 x (List.mem_of_getElem? hx)
        have hk := hxi.keep fYz (fun b' hb' => hnk b' (hxi.2 b' hb').1)
        exact ⟨hk.1, fun b' hb' => ⟨by have := (hk.2 b' hb').1; omega, (hk.2 b' hb').2⟩⟩
      · rcases hP2 b' hb' with q | q
        · have := hPD _ q; omega
        · omega
      · have := HI.out.2.2.2.2.2.2.1.size; omega
      · injection h with h
        injection h with h
        simp at h
        obtain ⟨rfl, _⟩ := h
        rcases hP2 _ q with q | q
        · have := hPD _ q; omega
        · omega
      · omega
end Go.Proofs.YtjdbgojnpnlblaaGreat
