/- couponlaw04.known. -/
import Derived.Test.YtjdbgojnpnlblaaGreatVkp
namespace Go.Proofs.YtjdbgojnpnlblaaGreat
open Go.RowKit

theorem fr_up {w w1 w2 : World} {P : Nat → Prop} {g : Nat} {d : DS} {lb : Nat} (f1 : Fr (fun _ => False) w w1) (h : DAt w1 w.heap.size P g d) (hl : w.heap.size ≤ lb) (f2 : Fr (fun b => P b ∨ b = lb) w1 w2) : Fr (fun _ => False) w w2 :=
  f1.trans f2 (fun i hi q => by
    rcases q with q | q
    · have := (h.2 i q).1; omega
    · omega)
theorem kd_le {d : DS} {N : Nat} {h : List UInt8} {f : Nat → Option (List UInt8)} (k : KD d N h f) (m : Nat) (hm : 2 ≤ m) : ∀ j, (d.vs j).length ≤ m := fun j => Nat.le_trans (k.vs j) hm
set_option maxRecDepth 100000 in
theorem append_old {w w' : World} {base : Nat} {v v' : Value} {r t : List Chg} (hown : w.ownsRow base 120 513 v r.length (recC r)) (hr0 : 0 < r.length) (h5r : ∀ x ∈ r, x.p.length = 512) {b off c : Nat} (ht : w.rangeAt b off (recC t)) (h5 : ∀ x ∈ t, x.p.length = 512) (hN : r.length + t.length ≤ 1000000) (ty : TypeId)
    (hrun : (Builtin.append_ #[60, 60] ty #[v, .slice (some ⟨b, off, none⟩) t.length c]).run Tryz.prog w = .ok v' w')
    (ho' : w'.ownsRow base 120 513 v' (r ++ t).length (recC (r ++ t))) : RcV w' v r := by
  obtain ⟨i0, hi, hz0, hz1, hz2⟩ := info_parts infoChg
  have hv := rcV_of_own hown h5r
  have hnews : ∀ j z, (recC t)[j]? = some z → w.cell? ((⟨b, off, none⟩ : Addr).add j) = some z := fun j z hj => by
    rw [Addr.add_mid]
    exact ht j z hj
  have holds := fun g hg => hown.cells (g := g) hg
  have hl0 := recC_len h5r
  have hl1 := recC_len h5
  rcases hown.2 with ⟨_, h0⟩ | ⟨g, cap, cur, rfl, hbg, hg, hnc, hcm, hcs, htake⟩
  · omega
  · by_cases hroom : r.length + t.length ≤ cap
    · have hq := run_append_room (P := Tryz.prog) w 60 ty 120 i0 Tryz.underlying60 hi g r.length cap cur hg ⟨b, off, none⟩ t.length c (recC t) (by rw [hz1]; exact hl1) hnews (fun u hu => by
        obtain ⟨l, hl, hul⟩ := List.mem_flatten.1 hu
        obtain ⟨x, _, rfl⟩ := List.mem_map.1 hl
        exact chC_one x u hul) hroom (by rw [hz1, hl1, hcs]; omega)
      rw [hrun] at hq
      injection hq with e1 e2
      subst e1
      refine ⟨_, _, rfl, hnc, hcm, fun _ => ⟨g, 0, rfl, rec_flat h5r (fun j u hj => ?_)⟩⟩
      have := ho'.cells (g := g) rfl j u (by rw [recC_app, List.getElem?_append_left (List.getElem?_eq_some_iff.1 hj).1]; exact hj)
      rw [Addr.add_mid] at this
      exact this
    · have hq := run_append_grow (P := Tryz.prog) w 60 ty 120 i0 (.agg (chC zChg).toArray) Tryz.underlying60 hi hz0 ⟨g, 0, none⟩ r.length cap (recC r) (by rw [hz1]; exact hl0) (holds g rfl) ⟨b, off, none⟩ t.length c (recC t) (by rw [hz1]; exact hl1) hnews (by omega) (by omega) (growslice_fits (by omega) (by rw [hz2]; omega))
      rw [hrun] at hq
      injection hq with e1 e2
      rw [e2]
      exact hv.new (((Fr.refl _ w).drew).alloc _)
section
variable {ops : Array Oper} {o : Oper} {a : Act} {Q : Exit → Act → World → Prop}
theorem wpList_build_rec {rest : List Oper} {w : World} (hw : Region.wanted o (yielded ops a.tmps) = true) (x : Operand) (hop : o.op = .buildSlice 29 1 #[(0, x)]) {A : Option Addr} {k c : Nat} (hx : a.eval x = .slice A k c)
    (hK : wpList Tryz.prog ops Q rest (a.put o.dst (.slice (some ⟨w.heap.size, 0, none⟩) 1 1)) (w.alloc (.cells #[.slice A k c] 60))) : wpList Tryz.prog ops Q (o :: rest) a w := by
  refine wpList_step fun K hK' => ?_
  simp only [hw, if_true]
  have hr := slice_of_rec A k c w
  unfold Oper.wp execOp
  simp only [hop, Array.map, hx]
  simp [hr, hx, Result.andThen]
  exact hK' _ _ hK
theorem wpList_append_chg {rest : List Oper} {w : World} (hw : Region.wanted o (yielded ops a.tmps) = true) (s x : Operand) (hop : o.op = Op.call { callee := Callee.builtin Builtin.append, args := #[s, x], argTypes := #[60, 60] }) {base : Nat} {v : Value} {r t : List Chg} (hs : a.eval s = v) (hown : w.ownsRow base 120 513 v r.length (recC r)) {b off c : Nat} (hx : a.eval x = .slice (some ⟨b, off, none⟩) t.length c) (ht : w.rangeAt b off (recC t)) (h5 : ∀ x ∈ t, x.p.length = 512) (hN : r.length + t.length ≤ 1000000) (hb : base ≤ w.heap.size) (hr0 : 0 < r.length) (h5r : ∀ x ∈ r, x.p.length = 512)
    (hK : ∀ v' w', w'.ownsRow base 120 513 v' (r ++ t).length (recC (r ++ t)) → w.grownBy w' v.ownBlock → RcV w' v r → (v'.ownBlock = v.ownBlock ∨ v'.ownBlock = some w.heap.size) → wpList Tryz.prog ops Q rest (a.put o.dst v') w') : wpList Tryz.prog ops Q (o :: rest) a w := by
  refine wpList_step fun K hK' => ?_
  simp only [hw, if_true]
  obtain ⟨v', w', hrun, ho, hg, hat⟩ := append_chg hown ht h5 hN hb (c := c) o.type
  unfold Oper.wp
  simp [execOp, hop, resolve, invoke, builtin, hs, hx, hrun, Result.andThen]
  exact hK' _ _ (hK v' w' ho hg (append_old hown hr0 h5r ht h5 hN o.type hrun ho) hat)
end
theorem leaf_one (w : World) (t1 t2 : TypeId) : LvV ((w.alloc (.cells #[.int .u8 7] t1)).alloc (.cells #[.int .i64 5, .slice (some ⟨w.heap.size, 0, none⟩) 1 1] t2)) (.slice (some ⟨w.heap.size + 1, 0, none⟩) 1 1) [⟨5, [7]⟩] := by
  have hs := Blk.new (w.alloc (.cells #[.int .u8 7] t1)) t2 #[.int .i64 5, .slice (some ⟨w.heap.size, 0, none⟩) 1 1]
  rw [World.size_alloc] at hs
  refine ⟨_, _, rfl, Nat.le_refl _, by decide, fun _ => ⟨w.heap.size + 1, 0, rfl, fun i x hx => ?_⟩⟩
  obtain rfl : i = 0 := by
    have := (List.getElem?_eq_some_iff.1 hx).1
    simp at this
    omega
  obtain rfl : x = ⟨5, [7]⟩ := by simpa using hx.symm
  have h1 : Blk (w.alloc (.cells #[.int .u8 7] t1)) w.heap.size t1 (cellsB [7]).toArray := Blk.new w t1 _
  refine ⟨?_, some ⟨w.heap.size, 0, none⟩, 1, ?_, (h1.rd (by decide)).alloc _, by decide⟩
  · exact hs.cell 0
  · exact hs.cell 1
def r57 : List Chg := [⟨5, pageOf [7]⟩]
theorem r57_len : ∀ x ∈ r57, x.p.length = 512 := by
  have h := pageOf_len [7]
  unfold r57
  generalize pageOf [7] = p at h
  intro x hx
  rw [List.mem_singleton.1 hx]
  exact h
set_option maxRecDepth 100000 in
set_option maxHeartbeats 8000000 in
theorem known_any (w : World) : Calls Tryz.prog 6 #[] w fun e w' => e = .returned (.bool true) ∧ Fr (fun _ => False) w w' := by
  go_enter Tryz.func6, Tryz.ntmps6
  go_wp2_with fail
  refine (anew_any w (n := 20) (by omega) (by omega)).mono ?_
  rintro e w1 ⟨g, P1, rfl, hd1, f1⟩
  have k0 := KD.new (N := 20) (by omega)
  have k1 := k0.format (z := 12) (by omega)
  have H1 := Lib.hid (And.intro hd1 (And.intro f1 k1.2))
  have HFM := Lib.hid (format_any hd1 (kd_le k0 9990 (by omega)) (z := 12) (by omega) (by omega) (by rw [k0.ln]; omega))
  rw [if_pos k1.1] at HFM
  clear hd1 f1 k0 k1
  go_wp2_with fail
  refine HFM.out.mono ?_
  rintro e w2 ⟨rfl, ⟨P2, hp1, hp2⟩, f2⟩
  have f2' := fr_up H1.out.2.1 H1.out.1 (Nat.le_refl w.heap.size) (f2.mono (fun _ _ q => .inl q))
  have H2 := Lib.hid (And.intro hp1 f2')
  clear hp1 hp2 f2 f2' HFM
  go_wp2_with fail
  refine (wneed_any w2 1).mono ?_
  rintro e w2a ⟨rfl, rfl⟩
  rw [show wneedN 1 = 6 by rfl]
  go_wp2_with fail
  refine (wneed_any w2 2).mono ?_
  rintro e w2a ⟨rfl, rfl⟩
  rw [show wneedN 2 = 11 by rfl]
  go_wp2_with fail
  refine (wneed_any w2 60).mono ?_
  rintro e w2a ⟨rfl, rfl⟩
  rw [show wneedN 60 = 323 by rfl]
  have kk := H1.out.2.2
  have hnum := hdS_nums (c := 1) (s := 1) (by decide) (by decide)
  have HO := Lib.hid (open_go H2.out.1 (z := 12) (by omega) (by omega) (by rw [kk.ln]; omega) (by rw [kk.head]; exact hdS_is_hd (by omega) (by omega) (by decide)) (by rw [kk.head, hnum.1]; decide) (kd_le kk 10000 (by omega)))
  rw [kk.head, hnum.1, hnum.2] at HO
  have hrc : recs 1 1 ((((newD 20).format 12).rd.take (12 + 1)).drop 1) = [] := recs_nought (by rw [kk.body (by omega) (by omega)]; rfl) _ _
  rw [hrc] at HO
  have k2 := kk.settle0 (x := hdS (1 + 1) 1)
  have H3 := Lib.hid k2
  clear kk hnum hrc k2
  go_wp2_with fail
  refine HO.out.mono ?_
  rintro e w3 ⟨_, o2, ⟨P3, hp1, hp2, hp3⟩, f3⟩
  obtain ⟨lb, v, rfl, hlb, hlg, hv⟩ := o2 H3.out.1
  have hlP := hp3 lb v rfl
  generalize (newD 20).format 12 = d1 at *
  obtain ⟨Av, cv, rfl, _, _⟩ := hv.rd
  have hlg' : LgW w3 lb g 12 2 1 0 0 false := hlg
  have f3' := fr_up H2.out.2 H2.out.1 (Nat.le_refl w.heap.size) (f3.mono (fun _ _ q => .inl q))
  have hlb' : w.heap.size ≤ lb := Nat.le_trans H2.out.2.size hlb
  have H4 := Lib.hid (And.intro hp1 (And.intro hlP (And.intro hlg' (And.intro f3' (And.intro hlb' H3.out.2)))))
  clear hp1 hp2 hp3 hlP hlg hlg' f3 f3' hlb hlb' hv o2 HO H1 H2
  have k3 := H4.out.2.2.2.2.2.settle0 (x := hdS (2 + 1) (2 + 1))
  have HT := Lib.hid (ltrunc_any H4.out.2.2.1 H4.out.2.1 H4.out.1 (by decide) (by decide) (kd_le H4.out.2.2.2.2.2 10000 (by omega)))
  simp only [k3.1, if_true] at HT
  have H5 := Lib.hid k3.2
  clear k3 H3
  go_wp2_with fail
  refine (lcount_any H4.out.2.2.1).mono ?_
  rintro e w3a ⟨rfl, rfl⟩
  go_wp2_with fail
  refine (lsince_any H4.out.2.2.1).mono ?_
  rintro e w3a ⟨rfl, rfl⟩
  go_wp2_with fail
  refine HT.out.mono ?_
  rintro e w4 ⟨rfl, hlg, ⟨P4, hp1, hp2⟩, f4⟩
  have f4' := fr_up H4.out.2.2.2.1 H4.out.1 H4.out.2.2.2.2.1 f4
  have hlP : ¬ P4 lb := fun q => by
    rcases hp2 lb q with q | q
    · exact H4.out.2.1 q
    · have := H4.out.2.2.1.lt; omega
  have H6 := Lib.hid (And.intro hp1 (And.intro hlP (And.intro hlg (And.intro f4' H5.out))))
  have hlb' := H4.out.2.2.2.2.1
  clear hp1 hp2 hlP hlg f4 f4' HT H4 H5
  go_wp2_with fail
  refine (lcount_any H6.out.2.2.1).mono ?_
  rintro e w4a ⟨rfl, rfl⟩
  go_wp2_with fail
  refine (lsince_any H6.out.2.2.1).mono ?_
  rintro e w4a ⟨rfl, rfl⟩
  go_wp2_with fail
  have fL : Fr (fun _ => False) w ((w4a.alloc (.cells #[.int .u8 7] 5)).alloc (.cells #[.int .i64 5, .slice (some ⟨w4a.heap.size, 0, none⟩) 1 1] 70)) := (H6.out.2.2.2.1.alloc _).alloc _
  refine (record_any (leaf_one w4a _ _) (by decide)).mono ?_
  rintro e w6 ⟨v6, rfl, ho, f6⟩
  have hr : List.map Leaf.chg [⟨5, [7]⟩] = r57 := rfl
  rw [hr] at ho
  have hsz : w4a.heap.size ≤ ((w4a.alloc (.cells #[.int .u8 7] 5)).alloc (.cells #[.int .i64 5, .slice (some ⟨w4a.heap.size, 0, none⟩) 1 1] 70)).heap.size := by simp only [World.size_alloc]; omega
  have f46 : Fr (fun _ => False) w4a w6 := (((Fr.refl _ w4a).alloc _).alloc _).trans f6 (fun _ _ q => q)
  have hvP : ∀ b, v6.ownBlock = some b → ¬ P4 b := fun b hb q => by
    have h1 := own_low ho hb
    have h2 := (H6.out.1.2 b q).2
    omega
  have k6 := H6.out.2.2.2.2
  have hm : mayR r57 = true := by decide +kernel
  have hl6 : (rowS 3 0 r57).length = 6 := by rw [rowS_len, bytesR_len r57_len]; rfl
  generalize (d1.settle 0 [hdS (1 + 1) 1]).settle 0 [hdS (2 + 1) (2 + 1)] = d2 at *
  have ks := k6.settle1 (i := 1) (ss := rowS 3 0 r57) (by decide) (by rw [hl6]; decide)
  have HC : Hid (Calls Tryz.prog 34 #[.pointer (some ⟨lb, 0, none⟩), v6] w6 fun e w' => e = .returned (.int .i64 0) ∧ LgW w' lb g 12 3 3 6 1 false ∧ (∃ P', DAt w' w.heap.size P' g (d2.settle 1 (rowS 3 0 r57)) ∧ ∀ b, P' b → P4 b ∨ w6.heap.size ≤ b) ∧ Fr (fun b => P4 b ∨ b = lb) w6 w') := Lib.hid ((lcommit_any (H6.out.2.2.1.keep f46 id) H6.out.2.1 (H6.out.1.new f46) (rcV_of_own ho r57_len) hvP hm (by decide) (by decide) (by decide) (by rw [k6.ln]; decide) (kd_le k6 10000 (by omega))).mono (fun e w' q => by
    have q2 := q.2 (by show 0 + (rowS 3 0 r57).length ≤ 12; rw [hl6]; decide)
    have hl6' : (rowS (2 + 1) 0 r57).length = 6 := hl6
    have k1 : d2.settles (1 + 0) (rowS (2 + 1) 0 r57) = true := ks.1
    simp only [k1, if_true, hl6'] at q2
    exact q2))
  have hlt : lb < w6.heap.size := (H6.out.2.2.1.keep f46 id).lt
  have hlt4 : lb < w4a.heap.size := H6.out.2.2.1.lt
  have f6w := fL.trans f6 (fun _ _ q => q)
  obtain ⟨base, hbase⟩ : ∃ base, base = ((w4a.alloc (.cells #[.int .u8 7] 5)).alloc (.cells #[.int .i64 5, .slice (some ⟨w4a.heap.size, 0, none⟩) 1 1] 70)).heap.size := ⟨_, rfl⟩
  have hb4 : w4a.heap.size ≤ base := by rw [hbase]; exact hsz
  have hb6 : base ≤ w6.heap.size := by rw [hbase]; exact f6.size
  have ho6 : w6.ownsRow base 120 513 v6 r57.length (recC r57) := by rw [hbase]; exact ho
  have H7 := Lib.hid (And.intro ks.2 (And.intro ho6 (And.intro f6w (And.intro (H6.out.1.new f46) (And.intro (fun b q => (H6.out.1.2 b q).2 : ∀ b, P4 b → b < w4a.heap.size) H6.out.2.1)))))
  clear ks hbase f6 f46 ho hsz fL hvP k6 f6w ho6 H6
  go_wp2_with fail
  refine HC.out.mono ?_
  rintro e w7 ⟨rfl, hlg, ⟨P7, hp1, hp2⟩, f7⟩
  obtain ⟨k7, ho6, f6w, hd6, hP4, hP4l⟩ := H7.out
  have f7w := fr_up f6w hd6 hlb' f7
  have hlP7 : ¬ P7 lb := fun q => by
    rcases hp2 lb q with q | q
    · exact hP4l q
    · omega
  have ho7 := own_keep ho6 f7 (fun k hk q => by
    have h1 := own_low ho6 hk
    rcases q with q | q
    · have := hP4 k q; omega
    · omega)
  rcases ho6.2 with ⟨_, h0⟩ | ⟨b6, c6, cur, rfl, hbb, hbk, _, _, _, _⟩
  · simp [r57] at h0
  have hb6l : b6 < w6.heap.size := (Array.getElem?_eq_some_iff.1 hbk).1
  have hrg : w7.rangeAt b6 0 (recC r57) := fun j u hj => by
    have := ho7.cells (g := b6) rfl j u hj
    rw [Addr.add_mid] at this
    exact this
  have hP7 : ∀ b, P7 b → b ≠ b6 := fun b q e => by
    rcases hp2 b q with q | q
    · have := hP4 b q; omega
    · omega
  have hb7 : base ≤ w7.heap.size := by have := f7.size; omega
  have hwb : w.heap.size ≤ base := by have := H7.out.2.2.1.size; have := hd6.g_lt.2; have := H7.out.2.2.2.1.g_lt; omega
  have H8 := Lib.hid (And.intro hlg (And.intro hp1 (And.intro hlP7 (And.intro f7w k7))))
  clear hp1 hp2 hlP7 hlg f7 f7w k7 ho6 f6w hd6 hP4 hP4l hbk HC H7
  go_wp2_with fail
  refine (llen_any H8.out.1).mono ?_
  rintro e w7a ⟨rfl, rfl⟩
  go_wp2_with fail
  refine (lroom_any H8.out.1 (by decide) (by decide)).mono ?_
  rintro e w7b ⟨rfl, rfl⟩
  have ho7d : w7a.drew.ownsRow base 120 513 (.slice (some ⟨b6, 0, none⟩) r57.length c6) r57.length (recC r57) := own_keep ho7 ((Fr.refl (fun _ => False) w7a).drew) (fun _ _ q => q)
  have hrgd : w7a.drew.rangeAt b6 0 (recC r57) := hrg
  have hb7d : base ≤ w7a.drew.heap.size := hb7
  have hl67 : lb < b6 := by omega
  have H9 := Lib.hid (And.intro ho7d (And.intro hrgd (And.intro hb7d (And.intro hP7 hl67))))
  clear ho7 hrg hb7 ho7d hrgd hb7d hP7 hl67
  go_wp2_with (at_builtin; refine wpList_append_chg (by rfl) (.tmp 88) (.tmp 89) rfl (base := base) (r := r57) (t := r57) rfl H9.out.1 rfl H9.out.2.1 r57_len (by decide) H9.out.2.2.1 (by decide) r57_len ?_; intro v8 w8 ho8 hg8 hrc8 hat8; have H10 := Lib.hid (And.intro ho8 (And.intro hg8 (And.intro hrc8 hat8))); clear ho8 hg8 hrc8 hat8)
  have f8 : Fr (fun q => some q = some b6) w7a w8 := ((Fr.refl _ w7a).drew).grown H10.out.2.1 (fun k e => .inl e.symm)
  have hP7 := H9.out.2.2.2.1
  have hd8 : DAt w8 w.heap.size P7 g (d2.settle 1 (rowS 3 0 r57)) := H8.out.2.1.keep f8 (fun b q e => hP7 b q (Option.some.inj e))
  have hlg8 := H8.out.1.keep f8 (fun e => by have := Option.some.inj e; have := H9.out.2.2.2.2; omega)
  have hvP8 : ∀ b, v8.ownBlock = some b → ¬ P7 b := fun b hb q => by
    rcases H10.out.2.2.2 with e | e
    · rw [hb] at e
      exact hP7 b q (Option.some.inj e)
    · rw [hb] at e
      have h1 := Option.some.inj e
      have h2 := (H8.out.2.1.2 b q).2
      have h3 : b = w7a.heap.size := h1
      omega
  have hall2 : ∀ x ∈ r57 ++ r57, x.p.length = 512 := fun x hx => (List.mem_append.1 hx).elim (r57_len x) (r57_len x)
  have hl11 : (rowS 3 1 (r57 ++ r57)).length = 11 := by rw [rowS_len, bytesR_len hall2]; rfl
  have hm2 : mayR (r57 ++ r57) = true := by decide +kernel
  have k7 := H8.out.2.2.2.2
  have HC2 := Lib.hid (lcommit_any hlg8 H8.out.2.2.1 hd8 (rcV_of_own H10.out.1 hall2) hvP8 hm2 (by decide) (by decide) (by decide) (by rw [k7.ln]; decide) (kd_le k7 10000 (by omega)))
  have f8w : Fr (fun _ => False) w w8 := H8.out.2.2.2.1.trans f8 (fun i hi e => by have := Option.some.inj e; have := hP7; omega)
  have H11 := Lib.hid (And.intro hd8 (And.intro f8w (And.intro hl11 H10.out.2.2.1)))
  clear f8 hd8 hlg8 hvP8 hall2 hl11 hm2 k7 f8w
  refine HC2.out.mono ?_
  rintro e w9 ⟨q1, _⟩
  obtain ⟨rfl, f9⟩ := q1 (by rw [H11.out.2.2.1]; decide)
  have H12 := Lib.hid (And.intro (H11.out.1.new f9) (And.intro (H11.out.2.1.trans f9 (fun _ _ q => q)) (And.intro (H11.out.2.2.2.new f9) H8.out.2.2.2.2)))
  clear q1 f9 H10 H11 H9 H8 HC2
  go_wp2_with fail
  have k9 : KD (d2.settle 1 (rowS 3 0 r57)) 20 (hdS 3 3) _ := H12.out.2.2.2
  have hnum := hdS_nums (c := 3) (s := 3) (by decide) (by decide)
  have HO := Lib.hid (open_go H12.out.1 (z := 12) (by omega) (by omega) (by rw [k9.ln]; omega) (by rw [k9.head]; exact hdS_is_hd (by omega) (by omega) (by decide)) (by rw [k9.head, hnum.1]; decide) (kd_le k9 10000 (by omega)))
  rw [k9.head, hnum.1, hnum.2] at HO
  have hrc : recs 3 3 (((d2.settle 1 (rowS 3 0 r57)).rd.take (12 + 1)).drop 1) = [(r57, 6)] := by
    have h := recs_one (c := 3) (s := 3) (c0 := 3) hm r57_len (by decide) (Nat.le_refl _) (Nat.le_refl _) (ss := ((d2.settle 1 (rowS 3 0 r57)).rd.take (12 + 1)).drop 1) (fun j hj => by
      rw [hl6] at hj
      rw [k9.body (by omega) (by omega), if_pos (by rw [hl6]; omega), Nat.add_sub_cancel_left]) (.inr (by
      rw [hl6, k9.body (by omega) (by omega), if_neg (by rw [hl6]; omega)]
      split <;> rfl)) (by rw [hl6, k9.body_len (by omega)]; omega)
    rw [hl6] at h
    exact h
  rw [hrc] at HO
  have k10 := k9.settle0 (x := hdS (3 + 1) 3)
  have f9w := H12.out.2.1
  have hv9 := H12.out.2.2.1
  refine HO.out.mono ?_
  rintro e w10 ⟨_, o2, _, f10⟩
  obtain ⟨lb2, v, rfl, hlb2, hlg, hv⟩ := o2 k10.1
  have hv10 := hv.rd
  have f10w : Fr (fun _ => False) w w10 := f9w.trans f10 (fun i hi q => by have := (H12.out.1.2 i q).1; omega)
  have hb10 := hv9.keep f10 (fun b hb q => by
    have h1 := Option.some.inj hb
    have h2 : b = b6 := h1.symm
    exact absurd q (fun q => hP7 b q h2))
  have H13 := Lib.hid (And.intro hlg (And.intro hv10 (And.intro f10w hb10)))
  clear k9 hnum HO hrc k10 f9w hv9 o2 hlg hv hv10 f10 f10w hb10
  go_wp2_with fail
  have fa : Fr (fun _ => False) w10 (w10.alloc (.cells #[.slice (some ⟨b6, 0, none⟩) r57.length c6] 60)) := (Fr.refl _ w10).alloc _
  have hu : RcsR (w10.alloc (.cells #[.slice (some ⟨b6, 0, none⟩) r57.length c6] 60)) (.slice (some ⟨w10.heap.size, 0, none⟩) 1 1) [r57] := by
    refine ⟨_, _, rfl, by decide, fun _ => ⟨w10.heap.size, 0, rfl, fun i r hr => ?_⟩⟩
    have hi : i = 0 := by
      have := (List.getElem?_eq_some_iff.1 hr).1
      simp at this
      omega
    subst hi
    have hr' : r = r57 := by
      have : some r57 = some r := hr
      exact (Option.some.inj this).symm
    subst hr'
    exact ⟨_, (Blk.new w10 60 #[.slice (some ⟨b6, 0, none⟩) r57.length c6]).cell 0, H13.out.2.2.2.new fa⟩
  have hv1 : RcsR w10 v [r57] := H13.out.2.1
  have HR := Lib.hid (rall_any (hv1.new fa) hu)
  have f13 := H13.out.2.2.1.trans fa (fun _ _ q => q)
  clear hu hv1 fa
  refine HR.out.mono ?_
  rintro e w11 ⟨rfl, f11⟩
  rw [show decide ([r57] = [r57]) = true by simp]
  have f11w := f13.trans f11 (fun _ _ q => q)
  go_wp2_with fail
  go_ret
  exact ⟨rfl, f11w⟩
end Go.Proofs.YtjdbgojnpnlblaaGreat
