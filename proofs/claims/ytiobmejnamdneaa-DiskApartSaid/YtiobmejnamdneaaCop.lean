/- The program's disk: Copy. -/
import Derived.Test.YtiobmejnamdneaaLay
namespace Go.Proofs.Ytiobmejnamdneaa
open Go.RowKit Go.Maps

/-- A disk is as another one: what is read, the versions, the fuse. -/
structure DS.As (o d : DS) : Prop where
  rd : o.rd = d.rd
  vs : ∀ i, i < d.rd.length → o.vs i = d.vs i
  fu : o.fu = d.fu
  lf : o.lf = d.lf
  dd : o.dd = d.dd
  out : ∀ i, d.rd.length ≤ i → o.vs i = []
section
variable {w : World} {F : Nat → Prop} {g R M : Nat} {D : DataW Value} {val : Nat → Value} {d : DS}
set_option maxRecDepth 100000 in
set_option maxHeartbeats 4000000 in
theorem dcopy_any (h : DiskW w F g R M D val d) (hN : ∀ i, i < d.rd.length → (d.vs i).length ≤ 100000) :
    Calls Try.prog 8 #[.pointer (some ⟨g, 0, none⟩)] w fun e w' => ∃ g2 R2 M2 D2 val2 o, e = .returned (.pointer (some ⟨g2, 0, none⟩)) ∧ DiskW w' (fun b => w.heap.size ≤ b) g2 R2 M2 D2 val2 o ∧ o.As d ∧ Fr (fun _ => False) w w' := by
  have HH := none_in h
  have hrg0 : w.rangeAt g 0 (dskC (some ⟨R, 0, none⟩) d.rd.length d.cp (.map (some M)) d.fu d.lf d.dd).toList := fun j v hv => by
    rw [h.blk.cell]
    simpa using hv
  have HG0 := Lib.hid hrg0
  have hd1 := h.keep ((Fr.refl (fun _ => False) w).alloc (.cells (dskC (some ⟨R, 0, none⟩) d.rd.length d.cp (.map (some M)) d.fu d.lf d.dd) 63)) (fun _ _ q => q)
  have hb2 := Blk.new w 63 (dskC (some ⟨R, 0, none⟩) d.rd.length d.cp (.map (some M)) d.fu d.lf d.dd)
  have f1 := (Fr.refl (fun _ => False) w).alloc (.cells (dskC (some ⟨R, 0, none⟩) d.rd.length d.cp (.map (some M)) d.fu d.lf d.dd) 63)
  have H1 := Lib.hid (And.intro hd1 (And.intro hb2 f1))
  have H6 := Lib.hid (And.intro h hN)
  have hone : (dskC (some ⟨R, 0, none⟩) d.rd.length d.cp (.map (some M)) d.fu d.lf d.dd).all (·.oneCell') = true := by simp [Value.oneCell']
  obtain ⟨c10, c11, _, _, _⟩ := dsk_cells hd1.blk
  have hsec := hd1.red.range 0 d.rd.flatten.length
  rw [List.drop_zero, List.take_left' rfl] at hsec
  have HCl := clone_any (c := d.cp) (by rw [flat_len h.hl]) h.n0 (by have := h.n1; omega) hsec
  obtain ⟨n, hn⟩ : ∃ n, n = d.rd.length := ⟨_, rfl⟩
  rw [← hn] at HCl c10 c11 hone HG0 H1
  have HN := Lib.hid hn
  clear h hN hrg0 hd1 hb2 f1 hsec
  clear hn
  go_enter Try.func8, Try.ntmps8
  go_wp2_with (first
    | (go_at_call 27; refine HH.mono ?_; rintro e w' ⟨rfl, rfl⟩)
    | (refine wpList_load_mid rfl 63 _ rfl g 0 rfl (dskC (some ⟨R, 0, none⟩) n d.cp (.map (some M)) d.fu d.lf d.dd).toList _ HG0.out Try.underlying63 rfl (by rw [infoDsk]; rfl) ?_))
  refine HCl.mono ?_
  rintro e w2 ⟨v2, rfl, hcl, f2⟩
  obtain ⟨R2, c', rfl, hR2, hc1, hc2, hRb⟩ := hcl
  have hgs : w.heap.size < (w.alloc (.cells (dskC (some ⟨R, 0, none⟩) n d.cp (.map (some M)) d.fu d.lf d.dd) 63)).heap.size := by
    show w.heap.size < (w.heap.push _).size
    simp
  have hb2 := H1.out.2.1.keep f2 (fun q => q)
  have h2 := H1.out.1.keep f2 (fun _ _ q => q)
  have hglt := H6.out.1.lt
  have hw2 := f2.size
  have f3 : Fr (fun b => b = w.heap.size) w2 (w2.setCell ⟨w.heap.size, 0, none⟩ (.slice (some ⟨R2, 0, none⟩) n c')) := (Fr.refl (fun b => b = w.heap.size) w2).setCell (p := ⟨w.heap.size, 0, none⟩) (.inl rfl) _
  have hb3 := hb2.set_ 0 (.slice (some ⟨R2, 0, none⟩) n c')
  have h3 : DiskW (w2.setCell ⟨w.heap.size, 0, none⟩ (.slice (some ⟨R2, 0, none⟩) n c')) (fun b => F b ∧ b < w.heap.size) g R M D val d := by
    refine DiskW.keep ?_ f3 (fun i hi e => by have := hi.2; omega)
    exact { h2 with
      fg := ⟨h2.fg, hglt.1⟩
      fR := ⟨h2.fR, hglt.2.1⟩
      fM := ⟨h2.fM, hglt.2.2⟩
      own := fun i b hi hv hb => ⟨⟨(h2.own i b hi hv hb).1, H6.out.1.own_lt hi hv hb⟩, (h2.own i b hi hv hb).2⟩ }
  have hRb3 := hRb.keep f3 (by omega)
  have hb4 := hb3.keep (F := fun _ => False) ((Fr.refl _ _).alloc (.map #[] 0)) (fun q => q)
  have h4 := h3.keep (G := fun _ => False) ((Fr.refl _ _).alloc (.map #[] 0)) (fun _ _ q => q)
  have hRb4 := hRb3.keep (F := fun _ => False) ((Fr.refl _ _).alloc (.map #[] 0)) (fun q => q)
  have hm4 := World.ownsMap_made (H := Value) (w2.setCell ⟨w.heap.size, 0, none⟩ (.slice (some ⟨R2, 0, none⟩) n c')) Try.prog 3 HV
  have hs3 : (w2.setCell ⟨w.heap.size, 0, none⟩ (.slice (some ⟨R2, 0, none⟩) n c')).heap.size = w2.heap.size := by simp [World.setCell]
  rw [hs3] at hm4
  have c20 := hb2.cell 0
  have fz20 := hb2.frozen 0
  have c31 := (dsk_cells h3.blk).2.1
  have hln : ∀ ty, (Builtin.len_ #[61] ty #[.map (some M)]).run Try.prog (w2.setCell ⟨w.heap.size, 0, none⟩ (.slice (some ⟨R2, 0, none⟩) n c')) = _ := fun ty => h3.map.len Try.underlying61 ty
  have hmm := make_map_some 61 _ _ Try.underlying61 (Maps.size D)
  have c41 := hb4.cell 1
  have fz41 := hb4.frozen 1
  simp at c20 c41
  have f5 : Fr (fun b => b = w.heap.size) ((w2.setCell ⟨w.heap.size, 0, none⟩ (.slice (some ⟨R2, 0, none⟩) n c')).alloc (.map #[] 0)) (((w2.setCell ⟨w.heap.size, 0, none⟩ (.slice (some ⟨R2, 0, none⟩) n c')).alloc (.map #[] 0)).setCell ⟨w.heap.size, 1, none⟩ (.map (some w2.heap.size))) := (Fr.refl (fun b => b = w.heap.size) _).setCell (p := ⟨w.heap.size, 1, none⟩) (.inl rfl) _
  have hb5 := hb4.set_ 1 (.map (some w2.heap.size))
  have h5 := h4.keep f5 (fun i hi e => by have := hi.2; omega)
  have hRb5 := hRb4.keep f5 (by omega)
  have hm5 := map_keep hm4 f5 (by omega)
  have c51 := (dsk_cells h5.blk).2.1
  have f05 : Fr (fun _ => False) w (((w2.setCell ⟨w.heap.size, 0, none⟩ (.slice (some ⟨R2, 0, none⟩) n c')).alloc (.map #[] 0)).setCell ⟨w.heap.size, 1, none⟩ (.map (some w2.heap.size))) :=
    ((((H1.out.2.2.trans f2 (fun _ _ q => q)).trans f3 (fun i hi e => by have e' : i = w.heap.size := e; omega)).alloc (.map #[] 0)).trans f5 (fun i hi e => by have e' : i = w.heap.size := e; omega))
  have hs5 : (((w2.setCell ⟨w.heap.size, 0, none⟩ (.slice (some ⟨R2, 0, none⟩) n c')).alloc (.map #[] 0)).setCell ⟨w.heap.size, 1, none⟩ (.map (some w2.heap.size))).heap.size = w2.heap.size + 1 := by simp [World.setCell]
  have hRlt := hRb.lt
  have hn : d.rd.length = n := HN.out.symm
  have hbg : DiskW (((w2.setCell ⟨w.heap.size, 0, none⟩ (.slice (some ⟨R2, 0, none⟩) n c')).alloc (.map #[] 0)).setCell ⟨w.heap.size, 1, none⟩ (.map (some w2.heap.size))) (fun b => w.heap.size ≤ b) w.heap.size R2 w2.heap.size (.map []) (fun _ => undef) { d with vs := fun _ => [], cp := c', sp := nought ((c' - d.rd.length) * 128) } :=
    h5.begin (by rw [hn]; exact hb5) (by rw [hn]; exact hRb5) hm5 (Nat.le_refl _) (by omega) (by omega) (by omega) (by omega) (by omega)
  have HS := Lib.hid (And.intro h5 (And.intro hbg (And.intro f05 hs5)))
  clear hgs hb2 h2 hglt hw2 f3 hb3 h3 hRb3 hb4 h4 hRb4 hm4 f5 hb5 hRb5 hm5 f05 hs5 hRlt hbg hn hR2 hc1 hc2 hRb f2 H1 HCl HG0
  obtain ⟨r, hr⟩ : ∃ r, r = w2.heap.size + 1 := ⟨_, rfl⟩
  go_wp2_with (first
    | (at_range; refine wpList_range_own _ rfl _ 61 rfl 3 38 kyT Try.underlying61 HV M (Maps.size D) D rfl HS.out.1.map ?_; intro w0 hrg0 hg0 hs0)
    | go_in)
  go_frame
  rw [HS.out.2.2.2, ← hr] at hrg0
  rw [HS.out.2.2.2, ← hr]
  have f0 := (Fr.refl (fun _ => False) _).grown hg0 (fun k hk => by cases hk)
  have hbg0 : DiskW w0 (fun b => w.heap.size ≤ b ∧ b ≠ r) w.heap.size R2 w2.heap.size (.map []) (fun _ => undef) { d with vs := fun _ => [], cp := c', sp := nought ((c' - d.rd.length) * 128) } := by
    have hk := HS.out.2.1.lt
    rw [HS.out.2.2.2, ← hr] at hk
    have hb := HS.out.2.1
    refine DiskW.keep ?_ f0 (fun _ _ q => q)
    exact { hb with
      fg := ⟨hb.fg, by omega⟩
      fR := ⟨hb.fR, by omega⟩
      fM := ⟨hb.fM, by omega⟩
      own := fun i b hi hv hb => absurd rfl hv }
  have HL0 := Lib.hid (And.intro hrg0 (And.intro hbg0 (HS.out.2.2.1.trans f0 (fun _ _ q => q))))
  obtain ⟨M2, hM2⟩ : ∃ M2, M2 = w2.heap.size := ⟨_, rfl⟩
  rw [← hM2] at HL0 hr ⊢
  have H1s : Hid (w.heap.size < M2 ∧ r = M2 + 1) := Lib.hid ⟨by have := HL0.out.2.1.gM; have := HL0.out.2.1.fM.1; omega, hr⟩
  clear hr hM2
  clear hrg0 hg0 hs0 f0 hbg0 HS c10 c11 c20 fz20 c31 hln hmm c41 fz41 c51 HH
  go_loopw [4, 5] (fun _ _ wr => ∃ (left : Lit → Bool) (cnt : Nat) (Dk : DataW Value) (valk : Nat → Value) (dk : DS), wr.ranges Try.prog 3 HV M r (Maps.size D) D left cnt ∧ Hid (∀ kl, left kl = true → Maps.has D kl = true) ∧ DiskW wr (fun b => w.heap.size ≤ b ∧ b ≠ r) w.heap.size R2 M2 Dk valk dk ∧
      Hid (dk.rd = d.rd ∧ dk.fu = d.fu ∧ dk.lf = d.lf ∧ dk.dd = d.dd ∧ (∀ i, i < d.rd.length → dk.vs i = if left (ky i) = true then [] else d.vs i) ∧ ∀ i, d.rd.length ≤ i → dk.vs i = []) ∧ Hid (Fr (fun _ => False) w wr))
    (fun _ _ wr => wr.rangeLeft M r)
  case atStart =>
    refine ⟨_, _, _, _, _, HL0.out.1, Lib.hid (fun _ q => q), HL0.out.2.1, Lib.hid ⟨rfl, rfl, rfl, rfl, fun i hi => ?_, fun i hi => rfl⟩, Lib.hid HL0.out.2.2⟩
    split
    · rfl
    · rename_i hh
      have := H6.out.1.opn i hi
      cases hv : d.vs i with
      | nil => rfl
      | cons x xs => exact absurd (this.2 (by rw [hv]; simp)) hh
  case round =>
    obtain ⟨left, cnt, Dk, valk, dk, hrg, HIn, hdk, HV2, HF⟩ := hrel
    clear HL0
    go_wp2_with (first
      | (at_next; refine wpList_next_ranges _ rfl _ rfl 3 kyT HV (Value.int .i64) (fun v : Value => v) (fun key kl hkey => by obtain ⟨x, rfl, _⟩ := Maps.keyOf_int_inv Try.underlying3 hkey; exact ⟨x, rfl⟩) (fun v y _ => ⟨v, rfl⟩) M r (Maps.size D) _ _ _ rfl hrg ?_ ?_)
      | go_in)
    · intro _ hl0
      clear hrg
      go_wp2
      go_ret
      refine ⟨_, _, _, _, _, dk, rfl, hdk.mono (fun i hi => hi.1), ⟨HV2.out.1, fun i hi => ?_, HV2.out.2.1, HV2.out.2.2.1, HV2.out.2.2.2.1, HV2.out.2.2.2.2.2⟩, HF.out⟩
      rw [HV2.out.2.2.2.2.1 i hi, hl0 (ky i)]
      rfl
    · have hleq := hrg.left_eq
      intro x c kl y ps w1 cnt1 hkey hlx hy hps hat hrg1 hlt hg1 hs1 hen
      have hh := HIn.out kl hlx
      obtain ⟨i, rfl, hi⟩ := H6.out.1.keys kl hh
      have hkd := H6.out.1.n1
      obtain rfl : x = (i : Int) := by
        obtain ⟨x', hx', hx2⟩ := Maps.keyOf_int_inv Try.underlying3 hkey
        injection hx' with _ hx'
        have hxx := hx2.1
        simp only [ky, Lit.int.injEq, true_and] at hxx
        rw [hx']
        exact hxx.symm
      have hvi : d.vs i ≠ [] := (H6.out.1.opn i hi).1 hh
      have hcv : c = val i := by
        have h1 := H6.out.1.at_ i hi hvi (.held (.slice none 0 0))
        have h2 := hat (.held (.slice none 0 0))
        rw [h1] at h2
        rw [← hy] at h2
        simpa using h2.symm
      subst hcv
      have fn1 : Fr (fun b => b = r) wr w1 := (Fr.refl _ wr).grown hg1 (fun k hk => .inl (by injection hk with hk; exact hk.symm))
      have hdk1 : DiskW w1 (fun b => w.heap.size ≤ b ∧ b ≠ r) w.heap.size R2 M2 Dk valk dk := hdk.keep fn1 (fun b hb e => hb.2 e)
      have HF1 : Hid (Fr (fun _ => False) w w1) := Lib.hid (HF.out.trans fn1 (fun b hb e => by have e' : b = r := e; have := H1s.out; omega))
      have hrow1 : w1.ownsRow 0 31 128 (val i) (d.vs i).length (cellsB (d.vs i).flatten) := own_keep (H6.out.1.row i hi hvi) HF1.out (fun _ _ q => q)
      have hall := H6.out.1.all i hi
      obtain ⟨A, ca, hva, hn1, hn2, h3⟩ := secV_row hrow1 hall
      obtain ⟨b, off, rfl, hsec⟩ := h3 (List.length_pos_iff.2 hvi)
      have hfl := hsec.flat
      obtain ⟨m, hm⟩ : ∃ m, m = (d.vs i).length := ⟨_, rfl⟩
      rw [← hm] at hva
      have HCl : Calls Try.prog 28 #[.slice (some ⟨b, off, none⟩) m ca] w1.drew fun e w' => ∃ v, e = .returned v ∧ Cloned w1.drew w' v m (d.vs i).flatten ∧ Fr (fun _ => False) w1.drew w' := clone_any (w := w1.drew) (by rw [flat_len hall, hm]) (by rw [hm]; exact List.length_pos_iff.2 hvi) (by rw [hm]; have := H6.out.2 i hi; omega) hfl
      have cM : ∀ w', Fr (fun b => b = M2) w1 w' → w'.cell? ⟨w.heap.size, 1, none⟩ = some (.map (some M2)) := fun w' f => (f.cell (p := ⟨w.heap.size, 1, none⟩) hdk1.lt.1 hdk1.gM).trans (dsk_cells hdk1.blk).2.1
      have HKY := Lib.hid (ky_of (i := i) (by omega))
      rw [hva] at hen
      have HW1 := Lib.hid (And.intro hdk1 (And.intro hrg1 (And.intro hm (And.intro hlt (And.intro hvi hi)))))
      have hmax : Maps.size Dk < maxLen := by
        have h1 := hdk1.size_le
        have h2 := hdk1.n1
        simp only [maxLen]
        omega
      clear hdk hdk1 hrg hrow1 hall hn1 hn2 h3 hsec hfl hh hkd hkey hlx hy hat hg1 hs1 fn1 hm hvi hlt hi hrg1 hva hps
      go_wp2_with fail
      refine wp_region_held_drew (S := fun w' => Fr (fun b => b = M2) w1 w') (by kernel_rfl) ((Fr.refl _ _).drew) (fun hS0 => ?_)
      refine anyH_take 0 34 (.pointer (some ⟨w.heap.size, 1, none⟩)) rfl rfl (by kernel_rfl) (by kernel_rfl) (by kernel_rfl) (fun _ _ _ h => h) (.inl ⟨by rfl, fun w'' hS => by go_simp⟩) hS0 ?_
      (simp only [List.setIfInBounds_toArray, List.set_cons_zero, List.set_cons_succ])
      refine anyH_take 1 35 (.map (some M2)) rfl rfl (by kernel_rfl) (by kernel_rfl) (by kernel_rfl) (fun _ _ _ h => h) (.inl ⟨by rfl, fun w'' hS => by have q0 := cM w'' hS; go_simp⟩) hS0 ?_
      (simp only [List.setIfInBounds_toArray, List.set_cons_zero, List.set_cons_succ])
      refine anyH_take 2 36 (.int .i64 (i : Nat)) rfl rfl (by kernel_rfl) (by kernel_rfl) (by kernel_rfl) (fun _ _ _ h => h) (.inl ⟨by rfl, fun w'' hS => by go_simp⟩) hS0 ?_
      (simp only [List.setIfInBounds_toArray, List.set_cons_zero, List.set_cons_succ])
      refine anyH_take 3 37 (.slice (some ⟨b, off, none⟩) m ca) rfl rfl (by kernel_rfl) (by kernel_rfl) (by kernel_rfl) (fun _ _ _ h => h) (.inl ⟨by rfl, fun w'' hS => by go_simp⟩) hS0 ?_
      (simp only [List.setIfInBounds_toArray, List.set_cons_zero, List.set_cons_succ])
      refine anyH_enter 4 38 (f := 28) (args := #[.slice (some ⟨b, off, none⟩) m ca]) (by kernel_rfl) rfl rfl (by rfl) (by go_simp) ?_
      refine HCl.mono ?_
      rintro e w7 ⟨v', rfl, hcl, f7⟩
      have f17 : Fr (fun _ => False) w1 w7 := ((Fr.refl (fun _ => False) w1).drew).trans f7 (fun _ _ q => q)
      refine ⟨v', rfl, f17.mono (fun _ _ q => q.elim), ?_⟩
      (simp only [List.setIfInBounds_toArray, List.set_cons_zero, List.set_cons_succ])
      have hm7 := map_keep HW1.out.1.map f17 (fun q => q)
      obtain ⟨w8, hrun8, hm8, hg8⟩ := hm7.update kyT Try.underlying61 hmax (key := .int .i64 (i : Nat)) (val := v') HKY.out (d := .held v') (ps := []) rfl
      have f78 : Fr (fun b => b = M2) w7 w8 := (Fr.refl _ w7).grown hg8 (fun k hk => .inl (by injection hk with hk; exact hk.symm))
      refine anyH_skip 5 w8 (by kernel_rfl) rfl rfl (by rfl) (run_update_op (.tmp 35) (.tmp 36) (.tmp 38) 61 rfl rfl rfl rfl hrun8) ((f17.mono (fun _ _ q => q.elim)).trans f78 (fun _ _ q => q)) ?_
      refine wpAnyH_done (by kernel_rfl) ?_ _
      have hall := H6.out.1.all i HW1.out.2.2.2.2.2
      have hrow7 := hcl.row (by rw [HW1.out.2.2.1, flat_len hall])
      rw [HW1.out.2.2.1] at hrow7
      have hidk : i < dk.rd.length := by rw [HV2.out.1]; exact HW1.out.2.2.2.2.2
      have hdk8 := (HW1.out.1.lay hidk HW1.out.2.2.2.2.1 hall hrow7 f17 (fun b hb => hcl.own_ge hb) hm8 f78).mono (G := fun b => w.heap.size ≤ b ∧ b ≠ r) (fun b hb => by
        rcases hb with hb | hb
        · exact hb
        · have h1 := HW1.out.2.1.lt
          have h2 := H1s.out
          exact ⟨by omega, by omega⟩)
      have hrg8 := (HW1.out.2.1.kept (f17.toGrown0 none) (by simp) (by simp)).kept hg8 (fun e => by have := Option.some.inj e; have := H1s.out; have := H6.out.1.lt; omega) (fun e => by have := Option.some.inj e; have := H1s.out; omega)
      have HFin := Lib.hid (And.intro hdk8 (And.intro hrg8 (HF1.out.trans ((f17.mono (G := fun b => b = M2) (fun _ _ q => q.elim)).trans f78 (fun _ _ q => q)) (fun b hb q => by have q' : b = M2 := q; have := H1s.out; omega))))
      clear hdk8 hrg8 f78 f17 hm7 hm8 hg8 hrun8 hrow7 hcl f7 hidk hall
      go_wp2_with fail
      refine ⟨⟨_, cnt1, _, _, _, HFin.out.2.1, Lib.hid (fun k hk => ?_), HFin.out.1, Lib.hid ⟨HV2.out.1, HV2.out.2.1, HV2.out.2.2.1, HV2.out.2.2.2.1, fun j hj => ?_, fun j hj => ?_⟩, Lib.hid HFin.out.2.2⟩, ?_⟩
      · simp only [Bool.and_eq_true] at hk
        exact HIn.out k hk.1
      · by_cases e : j = i
        · subst e
          simp [DS.lay, WideAt.sameKey_self (ky_lit j (by have := H6.out.1.n1; omega))]
        · simp only [DS.lay, if_neg e, Maps.sameKey_ne (ky_inj e), Bool.not_false, Bool.and_true]
          exact HV2.out.2.2.2.2.1 j hj
      · have e : j ≠ i := by have := HW1.out.2.2.2.2.2; omega
        simp only [DS.lay, if_neg e]
        exact HV2.out.2.2.2.2.2 j hj
      · rw [HFin.out.2.1.left_eq, hleq]; exact HW1.out.2.2.2.1
end
end Go.Proofs.Ytiobmejnamdneaa
