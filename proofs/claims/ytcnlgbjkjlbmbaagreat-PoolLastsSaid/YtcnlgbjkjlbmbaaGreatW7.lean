/- W7: laid together out of Opn Fls Crp Crs. -/
import Derived.Shelf.SlIterI.Nil
import Derived.Shelf.SortM.Plain
import Derived.Shelf.SortM.SortNone
import Derived.Ground.GgzProg
import Derived.Ground.SlgmProg
import Derived.Test.YtcnlgbjkjlbmbaaGreatLpl
import Derived.Maps.RangeWalk
import Derived.Test.YtcnlgbjkjlbmbaaGreatW6
namespace Go.Proofs.YtcnlgbjkjlbmbaaGreat
open Go.RowKit Go.Maps Go.Sort Go.Shelf

set_option maxRecDepth 100000 in
theorem sortsA (m : Nat) : AnyZI.SortsIn Tryz.prog Tryz.sortedA_ren Fence.wide m :=
 ⟨fun blk off cap ss W hH hblk hsz => callsIn_wide.2 (AnyM.slices_Sort_int Tryz.sortA blk off cap ss W hH hblk hsz),
  fun p cap W => callsIn_wide.2 (AnyM.slices_Sort_int_none Tryz.sortA p cap W)⟩

def DS.openL (d : DS) : List Nat := (List.range d.rd.length).filter (fun i => !(d.vs i).isEmpty)
set_option maxRecDepth 100000 in
theorem DS.openL_mem {d : DS} {i : Nat} : i ∈ d.openL ↔ i < d.rd.length ∧ d.vs i ≠ [] := by
 simp [DS.openL]
abbrev asZ (l : List Nat) : List Int := l.map fun (i : Nat) => (i : Int)
section
variable {w : World} {F : Nat → Prop} {g R M : Nat} {D : DataW Value} {val : Nat → Value} {d : DS}
set_option maxRecDepth 100000 in
theorem DiskW.keysP (h : DiskW w F g R M D val d) : (intKeys D).Perm (asZ d.openL) := by
 obtain ⟨es, rfl, hp0, hlit⟩ := h.map.canon kyT
 have hp := Maps.apart_of_rising hp0
 have hm : ∀ p ∈ es, ∃ i, p.1 = ky i ∧ i < d.rd.length := fun p hpm => by
  refine h.keys p.1 ?_
  rw [Maps.has_eq, List.any_eq_true]
  exact ⟨p, hpm, WideAt.sameKey_self (hlit p hpm)⟩
 have hio : ∀ i : Nat, Go.intOf (ky i) = (i : Int) := fun i => rfl
 refine (List.perm_ext_iff_of_nodup ?_ ?_).2 fun z => ?_
 · show (es.map fun p => Go.intOf p.1).Nodup
   rw [List.Nodup, List.pairwise_map]
   refine hp.imp_of_mem fun {p q} hp1 hq1 hne e => hne ?_
   obtain ⟨i, hi, _⟩ := hm p hp1
   obtain ⟨j, hj, _⟩ := hm q hq1
   rw [hi, hj, hio, hio] at e
   have : i = j := by omega
   rw [hi, hj, this]
 · rw [List.Nodup, List.pairwise_map]
   have : d.openL.Nodup := List.nodup_range.filter _
   exact this.imp (fun hne e => hne (by omega))
 · show z ∈ (es.map fun p => Go.intOf p.1) ↔ _
   simp only [List.mem_map]
   constructor
   · rintro ⟨p, hpm, rfl⟩
     obtain ⟨i, hi, hlt⟩ := hm p hpm
     refine ⟨i, DS.openL_mem.2 ⟨hlt, ?_⟩, by rw [hi, hio]⟩
     refine (h.opn i hlt).1 ?_
     rw [Maps.has_eq, List.any_eq_true, ← hi]
     exact ⟨p, hpm, WideAt.sameKey_self (hlit p hpm)⟩
   · rintro ⟨i, hi, rfl⟩
     obtain ⟨hlt, hv⟩ := DS.openL_mem.1 hi
     have := (h.opn i hlt).2 hv
     rw [Maps.has_eq, List.any_eq_true] at this
     obtain ⟨p, hpm, hk⟩ := this
     exact ⟨p, hpm, by rw [WideAt.sameKey_eq hk, hio]⟩
set_option maxRecDepth 100000 in
theorem openL_sorted (d : DS) : (asZ d.openL).Pairwise (fun a b => a ≤ b) := by
 rw [List.pairwise_map]
 have : d.openL.Pairwise (fun a b => a < b) := List.pairwise_lt_range.filter _
 exact this.imp (fun h => by omega)
set_option maxRecDepth 100000 in
theorem DiskW.sorted (h : DiskW w F g R M D val d) {ss : List Int} (hp : ss.Perm (intKeys D)) : ss.mergeSort (fun x y => decide (x ≤ y)) = asZ d.openL := by
 have h1 := List.mergeSort_perm ss (fun x y => decide (x ≤ y))
 have h2 := List.pairwise_mergeSort (le := fun x y : Int => decide (x ≤ y)) (fun a b c hab hbc => by simp at *; omega) (fun a b => by simp; omega) ss
 refine List.Perm.eq_of_pairwise (le := fun a b : Int => a ≤ b) (fun a b _ _ hab hba => by omega) (h2.imp (fun hab => by simpa using hab)) (openL_sorted d) ((h1.trans hp).trans h.keysP)

set_option maxRecDepth 100000 in
set_option maxHeartbeats 1000000 in
theorem open_any (h : DiskW w F g R M D val d) : Calls Tryz.prog 40 #[.pointer (some ⟨g, 0, none⟩)] w fun e w' => ∃ v, e = .returned v ∧ w'.ownsRow w.heap.size 3 1 v d.openL.length ((asZ d.openL).map encZ) ∧ Fr (fun _ => False) w w' := by
 have hlen : (asZ d.openL).length = d.openL.length := by simp
 refine (callsIn_wide (n := 6)).1 ?_
 have hown := h.map
 have hbl := hown.lt
 have hmax : Maps.size D ≤ maxLen := by have := h.size_le; have := h.n1; simp only [maxLen]; omega
 have hbytes : Maps.size D * 8 ≤ 140737488355328 := by have := h.size_le; have := h.n1; omega
 have hseq : SeqGives Fence.wide 2 Tryz.prog 95 #[.pointer (some ⟨w.heap.size, 0, none⟩)] encZ (fun ss => ss.Perm (intKeys D)) (Maps.size D) (w.alloc (.cells #[.map (some M)] 72)) :=
  AnyZI.keys_gives (ρ := Tryz.keysA_ren) { Tryz.keysA with } Fence.wide _ trivial rfl (by omega) w.heap.size M (Maps.size D) D _ (by simp) (by simp) (by
   obtain ⟨es, clock, hb, Ft, hs, hD⟩ := hown
   exact ⟨es, clock, (Below.heap_alloc _ _ M hbl).trans hb, Ft, hs, hD⟩)
 have cK : ∀ mb W, CallsIn Fence.wide 5 Tryz.prog 67 #[.map mb] W fun e w' => e = .returned (.func (.func 95) #[] #[.pointer (some ⟨W.heap.size, 0, none⟩)]) ∧ w' = W.alloc (.cells #[.map mb] 72) := fun mb W => AnyZI.keys_in Tryz.keysA Fence.wide 5 trivial rfl mb W
 have cS := AnyZI.sorted_in Tryz.sortedA Fence.wide 5 trivial trivial trivial trivial rfl (by omega) (sortsA _) (enters_of Tryz.func94 (by kernel_rfl) rfl) 95 #[.pointer (some ⟨w.heap.size, 0, none⟩)] trivial (enters_of Tryz.func95 (by kernel_rfl) rfl) _ _ hmax hbytes _ hseq
 change CallsIn _ _ Tryz.prog 66 _ _ _ at cS
 have hfK : Fence.wide.fn 67 := trivial
 have hfS : Fence.wide.fn 66 := trivial
 have hfN : Fence.wide.fn 33 := trivial
 have cN : CallsIn Fence.wide 5 Tryz.prog 33 #[.pointer (some ⟨g, 0, none⟩)] w fun e w' => e = .returned (.bool false) ∧ w = w' := callsIn_wide.2 (by
  have := none_any h.blk
  rwa [decide_eq_false (by have := h.n0; omega)] at this)
 obtain ⟨c0, c1, c2, c3, c4⟩ := dsk_cells h.blk
 have HD := Lib.hid h
 clear h hown hbl hmax hbytes hseq
 refine callsIn_of_wp Tryz.func40 rfl trivial ?_ rfl
 simp only [Tryz.ntmps40, List.size_toArray, List.length_cons, List.length_nil, Nat.reduceAdd, Nat.reduceSub, Array.replicate_succ, Array.replicate_zero, List.push_toArray, List.append_toArray, List.nil_append, List.cons_append]
 gi_wp2_with (first
  | (gi_at_call 33; refine cN.mono ?_; rintro e w' ⟨rfl, rfl⟩)
  | (gi_at_call 67; refine (cK _ _).mono ?_; rintro e w' ⟨rfl, rfl⟩)
  | (gi_at_call 66; refine cS.mono ?_; rintro e w' ⟨v, ss, rfl, hS, hrow, hnil, hb⟩))
 go_ret
 have hso := HD.out.sorted hS
 have hsl : ss.length = d.openL.length := by rw [← hlen, ← hso]; simp
 have hrow' := ownsRow_base_a hrow (by simp : w.heap.size ≤ _)
 rw [hso, hsl] at hrow'
 exact ⟨v, rfl, hrow', Fr.of_below (((Below.refl _ w).alloc (Nat.le_refl _) _).trans (hb.mono (by simp)))⟩
end
end Go.Proofs.YtcnlgbjkjlbmbaaGreat

namespace Go.Proofs.YtcnlgbjkjlbmbaaGreat
open Go.RowKit Go.Maps

def DS.flush (d : DS) : DS := { d.step with vs := fun _ => [] }
section
variable {w w' : World} {F : Nat → Prop} {g R M : Nat} {D D' : DataW Value} {val : Nat → Value} {d : DS}
set_option maxRecDepth 100000 in
theorem DiskW.settle (h : DiskW w F g R M D val d) {k : Nat} (f : Fr (fun b => b = M) w w') (hm : w'.ownsMap Tryz.prog 3 HV M k D') (hno : ∀ kl, Maps.has D' kl = false) : DiskW w' F g R M D' val { d with vs := fun _ => [] } :=
 { h with
  blk := h.blk.keep f (fun e => h.gM e)
  red := h.red.keep f (fun e => h.rM e)
  map := map_tight hm
  keys := fun k hk => by rw [hno] at hk; cases hk
  opn := fun i _ => ⟨fun hk => (by rw [hno] at hk; cases hk), fun hv => absurd rfl hv⟩
  at_ := fun i _ hv => absurd rfl hv
  row := fun i _ hv => absurd rfl hv
  all := fun i _ s hs => by cases hs
  own := fun i b _ hv => absurd rfl hv
  sep := fun i j b _ _ hv => absurd rfl hv }
set_option maxRecDepth 100000 in
theorem none_in (h : DiskW w F g R M D val d) : Calls Tryz.prog 33 #[.pointer (some ⟨g, 0, none⟩)] w fun e w' => e = .returned (.bool false) ∧ w = w' := by
 have := none_any h.blk
 rwa [decide_eq_false (by have := h.n0; omega)] at this
set_option maxRecDepth 100000 in
theorem dflush_dead (h : DiskW w F g R M D val d) (hd : deadS d.fu d.lf d.dd = true) : Calls Tryz.prog 90 #[.pointer (some ⟨g, 0, none⟩)] w fun e w' => e = .returned (.int .i64 10) ∧ DiskW w' F g R M D val d.step ∧ Fr F w w' := by
 have HH := none_in h
 have HS := dstep_any h
 rw [hd] at HS
 simp only [↓reduceIte] at HS
 have HF := Lib.hid h.fg
 clear hd h
 go_enter Tryz.func90, Tryz.ntmps90
 go_wp2_with (first
  | (go_at_call 33; refine HH.mono ?_; rintro e w' ⟨rfl, rfl⟩)
  | (go_at_call 115; refine HS.mono ?_; rintro e w' ⟨rfl, h1, f1⟩))
 go_ret
 exact ⟨rfl, h1, f1.mono (fun j _ e => by have e' : j = g := e; rw [e']; exact HF.out)⟩

set_option maxRecDepth 100000 in
set_option maxHeartbeats 1000000 in
theorem dflush_any (h : DiskW w F g R M D val d) (hd : deadS d.fu d.lf d.dd = false) : Calls Tryz.prog 90 #[.pointer (some ⟨g, 0, none⟩)] w fun e w' => e = .returned (.int .i64 0) ∧ (∃ D', DiskW w' F g R M D' val d.flush) ∧ Fr F w w' := by
 have HH := none_in h
 have HS := dstep_any h
 rw [hd] at HS
 simp only [Bool.false_eq_true, ↓reduceIte] at HS
 have HF := Lib.hid (And.intro h.fg h.fM)
 clear hd h
 go_enter Tryz.func90, Tryz.ntmps90
 go_wp2_with (go_at_call 33; refine HH.mono ?_; rintro e w' ⟨rfl, rfl⟩)
 refine HS.mono ?_
 rintro e w6 ⟨rfl, h1, f1⟩
 obtain ⟨c0, c1, c2, c3, c4⟩ := dsk_cells h1.blk
 have hmap := h1.map
 have h6 := Lib.hid h1
 clear h1 HH HS
 go_wp2_with (first
  | (at_range; refine wpList_range_own _ rfl _ 72 rfl 3 71 kyT Tryz.underlying72 HV M (Maps.size D) D rfl hmap ?_; intro w0 hrg0 hg0 hs0)
  | go_in)
 go_frame
 have hf0 : Fr (fun b => b = M) w6 w0 := (Fr.refl _ w6).grown hg0 (fun k hk => by cases hk)
 clear c0 c1 c2 c3 c4 hmap
 go_loopw [4] (fun _ wr => ∃ (Dk : DataW Value) (left : Lit → Bool) (cnt : Nat), wr.ranges Tryz.prog 3 HV M w6.heap.size (Maps.size D) Dk left cnt ∧ (∀ kl, Maps.has Dk kl = true → left kl = true) ∧ Fr (fun b => b = M) w6 wr)
  (fun _ wr => wr.rangeLeft M w6.heap.size)
 case atStart => exact ⟨_, _, _, hrg0, fun _ q => q, hf0⟩
 case round =>
  obtain ⟨Dk, left, cnt, hrg, hin, hfr⟩ := hrel
  clear hrg0 hf0 hg0 hs0
  go_wp2_with (first
   | (at_next; refine wpList_next_ranges _ rfl _ rfl 3 kyT HV (Value.int .i64) (fun v : Value => v) (fun key kl hkey => by obtain ⟨x, rfl, _⟩ := Maps.keyOf_int_inv Tryz.underlying3 hkey; exact ⟨x, rfl⟩) (fun v y _ => ⟨v, rfl⟩) M w6.heap.size (Maps.size D) _ _ _ rfl hrg ?_ ?_)
   | go_in)
  · intro _ hl0
    have hno : ∀ kl, Maps.has Dk kl = false := fun kl => by
     cases hb : Maps.has Dk kl with
     | false => rfl
     | true => have := hin kl hb; rw [hl0] at this; cases this
    have hE := Lib.hid (And.intro (h6.out.settle hfr hrg.owns hno) hfr)
    clear hrg hin hfr hl0 hno
    go_wp2
    go_ret
    exact ⟨rfl, ⟨_, hE.out.1⟩, (f1.mono (G := F) (fun j _ e => by have e' : j = g := e; rw [e']; exact HF.out.1)).trans hE.out.2 (fun j _ e => by have e' : j = M := e; rw [e']; exact HF.out.2)⟩
  · intro x c kl y ps w1 cnt1 hkey hlx hy hps hat hrg1 hlt hg1 hs1 hen
    have hfr1 : Fr (fun b => b = M) w6 w1 := hfr.grown hg1 (fun k hk => .inr (by injection hk with hk; omega))
    have c1 : w1.cell? ⟨g, 1, none⟩ = some (.map (some M)) := (hfr1.cell (p := ⟨g, 1, none⟩) h6.out.lt.1 (fun e => h6.out.gM e)).trans (dsk_cells h6.out.blk).2.1
    go_wp2_with (first
     | (at_delete; refine wpList_delete_ranges _ rfl _ _ 72 3 rfl 71 kyT Tryz.underlying72 HV M w6.heap.size (Maps.size D) _ _ _ rfl hrg1 _ kl rfl hkey ?_; intro w2 cnt2 hrg2 hle hturn; go_frame)
     | go_in)
    rw [strike_twice] at hrg2
    go_roundw
    case rel =>
     refine ⟨_, _, cnt2, hrg2, fun k hk => ?_, hfr1.grown hturn.grown (fun k hk => .inl (by injection hk with hk; exact hk.symm))⟩
     by_cases e : k = kl
     · subst e
       rw [Maps.has_del_same] at hk
       cases hk
     · rw [Maps.has_del_other e] at hk
       simp [hin k hk, Maps.sameKey_ne e]
    case measure => rw [hrg2.left_eq, hrg.left_eq]; omega
end
end Go.Proofs.YtcnlgbjkjlbmbaaGreat

namespace Go.Proofs.YtcnlgbjkjlbmbaaGreat
open Go.RowKit Go.Maps

def IntsAt (w : World) (v : Value) (zs : List Int) : Prop := ∃ A c, v = .slice A zs.length c ∧ zs.length ≤ maxLen ∧ (0 < zs.length → ∃ b off, A = some ⟨b, off, none⟩ ∧ ∀ (i : Nat) (z : Int), zs[i]? = some z → w.cell? ⟨b, off + i, none⟩ = some (.int .i64 z))
set_option maxRecDepth 100000 in
theorem IntsAt.keep {F : Nat → Prop} {w w' : World} {v : Value} {zs : List Int} (h : IntsAt w v zs) (f : Fr F w w') (hF : ∀ b, v.ownBlock = some b → ¬ F b) : IntsAt w' v zs := by
 obtain ⟨A, c, rfl, h1, h2⟩ := h
 refine ⟨A, c, rfl, h1, fun q => ?_⟩
 obtain ⟨b, off, rfl, h3⟩ := h2 q
 exact ⟨b, off, rfl, fun i z hz => (f.cell (World.block_lt_of_cell? w _ (h3 i z hz)) (hF b rfl)).trans (h3 i z hz)⟩
set_option maxRecDepth 100000 in
theorem IntsAt.own {w : World} {base : Nat} {v : Value} {zs : List Int} (h : w.ownsRow base 3 1 v zs.length (zs.map encZ)) : IntsAt w v zs := by
 rcases h.2 with ⟨rfl, e⟩ | ⟨b, cap, cur, rfl, _, hb, hn, hc, hsz, htk⟩
 · exact ⟨none, 0, by rw [e], by rw [e]; exact Nat.zero_le _, fun q => by omega⟩
 · refine ⟨_, cap, rfl, Nat.le_trans hn hc, fun _ => ⟨b, 0, rfl, fun i z hz => ?_⟩⟩
   have hlt : i < zs.length := (List.getElem?_eq_some_iff.1 hz).1
   have hb' : Blk w b 3 cur := hb
   rw [hb'.cell, Nat.zero_add]
   have h1 : (cur.toList.take (zs.length * 1))[i]? = some (encZ z) := by rw [htk, List.getElem?_map, hz]; rfl
   rw [List.getElem?_take, if_pos (by omega)] at h1
   simpa using h1
set_option maxRecDepth 100000 in
theorem secV_row {w : World} {v : Value} {u : List (List UInt8)} (h : w.ownsRow 0 83 128 v u.length (cellsB u.flatten)) (hu : ∀ x ∈ u, x.length = 128) : SecV w v u := by
 rcases h.2 with ⟨rfl, e⟩ | ⟨b, cap, cur, rfl, _, hb, hn, hc, hsz, htk⟩
 · exact ⟨none, 0, by rw [e], by rw [e]; exact Nat.le_refl _, Nat.zero_le _, fun q => by omega⟩
 · refine ⟨_, cap, rfl, hn, hc, fun _ => ⟨b, 0, rfl, flat_secs hu fun j z hz => ?_⟩⟩
   have hb' : Blk w b 83 cur := hb
   rw [hb'.cell, Nat.zero_add]
   rw [← htk, List.getElem?_take] at hz
   split at hz
   · simpa using hz
   · cases hz

def DS.fall (d : DS) (i : Nat) (z : List UInt8) : DS := { d with rd := d.rd.set i z, vs := fun j => if j = i then [] else d.vs j }
section
variable {w w1 w2 : World} {F : Nat → Prop} {g R M : Nat} {D : DataW Value} {val : Nat → Value} {d : DS}
set_option maxRecDepth 100000 in
theorem DiskW.fall (h : DiskW w F g R M D val d) {i : Nat} {z : List UInt8} (hz : z.length = 128) (hR : Blk w1 R 83 (cellsB ((d.rd.set i z).flatten ++ d.sp)).toArray) (f1 : Fr (fun b => b = R) w w1)
 {k : Nat} (hm : w2.ownsMap Tryz.prog 3 HV M k (D.del (ky i))) (f2 : Fr (fun b => b = M) w1 w2) : DiskW w2 F g R M (D.del (ky i)) val (d.fall i z) := by
 have hlen : (d.fall i z).rd.length = d.rd.length := by simp [DS.fall]
 have f12 : Fr (fun b => b = R ∨ b = M) w w2 := (f1.mono (fun _ _ q => .inl q)).trans f2 (fun _ _ q => .inr q)
 have hvs : ∀ j, (d.fall i z).vs j ≠ [] → j ≠ i ∧ d.vs j ≠ [] := fun j hv => by
  by_cases e : j = i
  · exact absurd (by simp [DS.fall, e]) hv
  · exact ⟨e, by simpa [DS.fall, e] using hv⟩
 constructor
 case fg => exact h.fg
 case fR => exact h.fR
 case fM => exact h.fM
 case gR => exact h.gR
 case gM => exact h.gM
 case rM => exact h.rM
 case n0 => rw [hlen]; exact h.n0
 case n1 => rw [hlen]; exact h.n1
 case hl =>
  intro x hx
  rcases List.mem_or_eq_of_mem_set hx with hx | rfl
  · exact h.hl x hx
  · exact hz
 case l0 => exact h.l0
 case l1 => exact h.l1
 case blk =>
  rw [hlen]
  exact h.blk.keep f12 (fun q => by
   rcases q with q | q
   · exact h.gR q
   · exact h.gM q)
 case red => exact hR.keep f2 (fun e => h.rM e)
 case map => exact map_tight hm
 case keys =>
  intro k hk
  rw [hlen]
  by_cases e : k = ky i
  · subst e
    rw [Maps.has_del_same] at hk
    cases hk
  · rw [Maps.has_del_other e] at hk
    exact h.keys k hk
 case opn =>
  intro j hj
  rw [hlen] at hj
  by_cases e : j = i
  · subst e
    rw [Maps.has_del_same]
    simp [DS.fall]
  · rw [Maps.has_del_other (ky_inj e)]
    simpa [DS.fall, e] using h.opn j hj
 case at_ =>
  intro j hj hv z'
  rw [hlen] at hj
  obtain ⟨e, hv'⟩ := hvs j hv
  rw [Maps.atKey_del_other (ky_inj e)]
  exact h.at_ j hj hv' z'
 case row =>
  intro j hj hv
  rw [hlen] at hj
  obtain ⟨e, hv'⟩ := hvs j hv
  have e2 : (d.fall i z).vs j = d.vs j := by simp [DS.fall, e]
  rw [e2]
  exact own_keep (h.row j hj hv') f12 (fun b hb q => by
   obtain ⟨_, _, q2, q3⟩ := h.own j b hj hv' hb
   rcases q with q | q
   · exact q2 q
   · exact q3 q)
 case all =>
  intro j hj x hx
  rw [hlen] at hj
  by_cases e : j = i
  · simp [DS.fall, e] at hx
  · have e2 : (d.fall i z).vs j = d.vs j := by simp [DS.fall, e]
    rw [e2] at hx
    exact h.all j hj x hx
 case own =>
  intro j b hj hv hb
  rw [hlen] at hj
  exact h.own j b hj (hvs j hv).2 hb
 case sep =>
  intro j l b hj hl hvj hvl hne hb
  rw [hlen] at hj hl
  exact h.sep j l b hj hl (hvs j hvj).2 (hvs l hvl).2 hne hb
end

def DS.left1 (d : DS) (p : Nat × Int) : DS := d.fall p.1 (leftL (d.vs p.1) (pickN (d.vs p.1).length p.2))
def DS.falls (d : DS) (ps : List (Nat × Int)) : DS := ps.foldl DS.left1 d
def DS.pairs (d : DS) (picks : List Int) : List (Nat × Int) := d.openL.zipIdx.map fun p => (p.1, (picks[p.2]?).getD 0)
def DS.crash (d : DS) (picks : List Int) : DS := { d.falls (d.pairs picks) with fu := false, lf := 0, dd := false }
set_option maxRecDepth 100000 in
theorem falls_vs : ∀ (ps : List (Nat × Int)) (d : DS) (j : Nat), (∀ p ∈ ps, p.1 ≠ j) → (d.falls ps).vs j = d.vs j
 | [], _, _, _ => rfl
 | p :: ps, d, j, h => by
   have h1 := falls_vs ps (d.left1 p) j (fun q hq => h q (by simp [hq]))
   show ((d.left1 p).falls ps).vs j = _
   rw [h1]
   have : j ≠ p.1 := fun e => h p (by simp) e.symm
   simp [DS.left1, DS.fall, this]
set_option maxRecDepth 100000 in
theorem falls_len : ∀ (ps : List (Nat × Int)) (d : DS), (d.falls ps).rd.length = d.rd.length
 | [], _ => rfl
 | p :: ps, d => by
   show ((d.left1 p).falls ps).rd.length = _
   rw [falls_len ps]
   simp [DS.left1, DS.fall]
set_option maxRecDepth 100000 in
theorem falls_snoc (d : DS) (ps : List (Nat × Int)) (p : Nat × Int) : d.falls (ps ++ [p]) = (d.falls ps).left1 p := by simp [DS.falls]
set_option maxRecDepth 100000 in
theorem pairs_len (d : DS) (picks : List Int) : (d.pairs picks).length = d.openL.length := by simp [DS.pairs]
set_option maxRecDepth 100000 in
theorem pairs_at (d : DS) (picks : List Int) {k : Nat} (hk : k < d.openL.length) : (d.pairs picks)[k]? = some (d.openL[k], (picks[k]?).getD 0) := by
 simp [DS.pairs, hk]
set_option maxRecDepth 100000 in
theorem falls_next (d : DS) (picks : List Int) {k : Nat} (hk : k < d.openL.length) : (d.falls ((d.pairs picks).take k)).vs d.openL[k] = d.vs d.openL[k] := by
 refine falls_vs _ _ _ fun p hp e => ?_
 obtain ⟨m, hm⟩ := List.getElem?_of_mem hp
 rw [List.getElem?_take] at hm
 split at hm
 · rename_i hmk
   rw [pairs_at d picks (by omega)] at hm
   injection hm with hm
   rw [← hm] at e
   have hnd : d.openL.Nodup := List.nodup_range.filter _
   have := (List.getElem_inj hnd).1 e
   omega
 · cases hm
end Go.Proofs.YtcnlgbjkjlbmbaaGreat

namespace Go.Proofs.YtcnlgbjkjlbmbaaGreat
open Go.RowKit Go.Maps

set_option maxRecDepth 100000 in
theorem patch_twice {l m : List UInt8} {o : Nat} (h : o + m.length ≤ l.length) : patch (patch l o m) o m = patch l o m := by
 have h1 : (l.take o).length = o := by rw [List.length_take]; omega
 have e1 : (patch l o m).take o = l.take o := by unfold patch; exact List.take_left' h1
 have e2 : (patch l o m).drop (o + m.length) = l.drop (o + m.length) := by
  unfold patch
  rw [← List.append_assoc]
  exact List.drop_left' (by rw [List.length_append, h1])
 have e3 : patch (patch l o m) o m = (patch l o m).take o ++ (m ++ (patch l o m).drop (o + m.length)) := rfl
 rw [e3, e1, e2]
 rfl
set_option maxRecDepth 100000 in
theorem leftL_len {vs : List (List UInt8)} (h : ∀ x ∈ vs, x.length = 128) (h0 : 0 < vs.length) (pick : Int) : (leftL vs (pickN vs.length pick)).length = 128 := by
 have hp : pickN vs.length pick < 2 * vs.length - 1 := by
  unfold pickN
  have h1 := Int.emod_nonneg pick (b := ((2 * vs.length - 1 : Nat) : Int)) (by omega)
  have h2 := Int.emod_lt_of_pos pick (b := ((2 * vs.length - 1 : Nat) : Int)) (by omega)
  omega
 generalize pickN vs.length pick = p at hp
 have hg : ∀ j, j < vs.length → (vs.getD j []).length = 128 := fun j hj => by
  rw [List.getD_eq_getElem?_getD, List.getElem?_eq_getElem hj]
  exact h _ (List.getElem_mem hj)
 unfold leftL
 split
 · exact tornL_len (hg _ (by omega)) (hg _ (by omega))
 · exact hg _ (by omega)
section
variable {w : World} {F : Nat → Prop} {g R M : Nat} {D : DataW Value} {val : Nat → Value} {d : DS}
set_option maxRecDepth 100000 in
set_option maxHeartbeats 4000000 in
theorem dcrash_pos (h : DiskW w F g R M D val d) {vp : Value} {picks : List Int} (hp : IntsAt w vp picks) (hpF : ∀ b, vp.ownBlock = some b → 0 < picks.length → b ≠ R ∧ b ≠ M) (hvl : ∀ i, i < d.rd.length → (d.vs i).length ≤ 1000000) :
 Calls Tryz.prog 13 #[.pointer (some ⟨g, 0, none⟩), vp] w fun e w' => e = .returned (.int .i64 0) ∧ (∃ D', DiskW w' F g R M D' val (d.crash picks)) ∧ Fr F w w' := by
 have HH := none_in h
 have HO := open_any h
 obtain ⟨Ap, cp, hvp, hpl, hpc⟩ := hp
 subst hvp
 have HP := Lib.hid (And.intro hpF (And.intro hvl hpc))
 have h6 := Lib.hid h
 have hpl' : picks.length ≤ 9223372036854775807 := by simp only [maxLen] at hpl; omega
 clear h hpF hvl hpc hpl
 go_enter Tryz.func13, Tryz.ntmps13
 go_wp2_with (go_at_call 33; refine HH.mono ?_; rintro e w' ⟨rfl, rfl⟩)
 refine HO.mono ?_
 rintro e w1 ⟨vo, rfl, hrow, f1⟩
 have hz : (asZ d.openL).length = d.openL.length := by simp
 rw [← hz] at hrow
 have hoi := IntsAt.own hrow
 have hob : ∀ b, vo.ownBlock = some b → w.heap.size ≤ b := fun b hb => by
  rcases hrow.2 with ⟨q, _⟩ | ⟨b', _, _, q, hb', _⟩
  · rw [q] at hb; simp [Value.ownBlock] at hb
  · rw [q] at hb
    have : b' = b := by simpa [Value.ownBlock] using hb
    omega
 obtain ⟨Ao, co, hvo, hol, hoc⟩ := hoi
 subst hvo
 obtain ⟨n, hn⟩ : ∃ n, n = d.openL.length := ⟨_, rfl⟩
 rw [hz, ← hn] at hol hoc ⊢
 have hn8 : n ≤ 8192 := by
  have := h6.out.n1
  have e : d.openL.length ≤ (List.range d.rd.length).length := List.length_filter_le _ _
  rw [List.length_range] at e
  omega
 have h61 : DiskW w1 F g R M D val d := h6.out.keep f1 (fun _ _ q => q)
 have HO1 := Lib.hid (And.intro hn (And.intro hoc (And.intro hob f1)))
 clear hrow hz hol hoc hob hn HO HH
 go_wp2_with fail
 go_loopw [13] (fun x wr => ∃ k : Nat, x = .int .i64 k ∧ k ≤ n ∧ Hid (∃ Dk, DiskW wr F g R M Dk val (d.falls ((d.pairs picks).take k))) ∧ Hid (Fr (fun b => b = R ∨ b = M) w1 wr)) (fun x _ => n - (intOf x).toNat)
 case atStart => exact ⟨0, rfl, Nat.zero_le _, Lib.hid ⟨D, h61⟩, Lib.hid (Fr.refl _ _)⟩
 case round =>
  obtain ⟨k, rfl, hk, HDe, HF⟩ := hrel
  obtain ⟨Dk, hDk⟩ := HDe.out
  clear HDe h61
  by_cases hlt : k < n
  · obtain ⟨i, hi⟩ : ∃ i, d.openL[k]? = some i := ⟨_, List.getElem?_eq_getElem (by have := HO1.out.1; omega)⟩
    obtain ⟨pick, hpk⟩ : ∃ pick, pick = (picks[k]?).getD 0 := ⟨_, rfl⟩
    have hkl : k < d.openL.length := by have := HO1.out.1; omega
    have hie : d.openL[k] = i := by rw [List.getElem?_eq_getElem hkl] at hi; injection hi
    obtain ⟨hin, hiv⟩ := DS.openL_mem.1 (hie ▸ List.getElem_mem hkl : i ∈ d.openL)
    have hvs : (d.falls ((d.pairs picks).take k)).vs i = d.vs i := by
     have := falls_next d picks hkl
     rwa [hie] at this
    have hnx : d.falls ((d.pairs picks).take (k + 1)) = (d.falls ((d.pairs picks).take k)).left1 (i, pick) := by
     rw [List.take_add_one, pairs_at d picks hkl, hie, ← hpk]
     exact falls_snoc _ _ _
    have hln : (d.falls ((d.pairs picks).take k)).rd.length = d.rd.length := falls_len _ _
    obtain ⟨dk, hdk⟩ : ∃ dk, dk = d.falls ((d.pairs picks).take k) := ⟨_, rfl⟩
    rw [← hdk] at hDk hvs hnx hln
    have hidk : i < dk.rd.length := by omega
    have hivk : dk.vs i ≠ [] := by rw [hvs]; exact hiv
    have hvl : 0 < (dk.vs i).length := List.length_pos_iff.2 hivk
    obtain ⟨z, hz⟩ : ∃ z, z = leftL (dk.vs i) (pickN (dk.vs i).length pick) := ⟨_, rfl⟩
    have HZL : Hid (z.length = 128) := Lib.hid (hz ▸ leftL_len (hDk.all i hidk) hvl pick)
    have HPK : Hid (0 < (dk.vs i).length ∧ (dk.vs i).length ≤ 1000000 ∧ leftL (dk.vs i) (pickN (dk.vs i).length pick) = z) := Lib.hid ⟨hvl, by rw [hvs]; exact HP.out.2.1 i hin, hz.symm⟩
    have HNX : Hid (dk.fall i z = d.falls ((d.pairs picks).take (k + 1))) := Lib.hid (by rw [hnx, hz]; rfl)
    have HI : Hid (i < dk.rd.length ∧ i * 128 + 128 ≤ (dk.rd.flatten ++ dk.sp).length ∧ patch (dk.rd.flatten ++ dk.sp) (i * 128) z = (dk.rd.set i z).flatten ++ dk.sp) := Lib.hid ⟨hidk, by rw [List.length_append, dflat_len hDk.hl]; omega, by rw [dpatch_app (by rw [HZL.out, dflat_len hDk.hl]; omega), flat_set hDk.hl HZL.out hidk]⟩
    obtain ⟨vi, hvi⟩ : ∃ vi, vi = val i := ⟨_, rfl⟩
    have HSV : Hid (∀ w', Fr (fun b => b = R) wr w' → SecV w' vi (dk.vs i)) := Lib.hid fun w' f => by
     rw [hvi]
     exact secV_row (own_keep (hDk.row i hidk hivk) f (fun b hb e => (hDk.own i b hidk hivk hb).2.2.1 e)) (hDk.all i hidk)
    have HKY : Hid (keyOf Tryz.prog 3 (.int .i64 (i : Int)) = some (ky i)) := Lib.hid (ky_of (by have := hDk.n1; omega))
    have HLK : Hid (∀ w', Fr (fun b => b = R) wr w' → (Instr.lookup 72 (.map (some M)) (.int .i64 (i : Int)) false).run Tryz.prog w' = .ok vi w') := Lib.hid fun w' f => by
     obtain ⟨v1, ps1, hrun1, hv1⟩ := (map_keep hDk.map f (fun e => hDk.rM e.symm)).lookup kyT Tryz.underlying72 (zeroSl _) (zd := .held (.slice none 0 0)) (zp := []) rfl HKY.out
     rw [hDk.at_ i hidk hivk] at hv1
     simp only [Option.some.injEq, Prod.mk.injEq, DataW.held.injEq] at hv1
     rw [hvi, ← hv1.1]
     exact hrun1
    have HDW := Lib.hid hDk
    have HK : Hid (k < n ∧ n ≤ 8192) := Lib.hid ⟨hlt, hn8⟩
    obtain ⟨bo, oo, hao, hoc⟩ := HO1.out.2.1 (by omega)
    subst hao
    have hco : wr.cell? ⟨bo, oo + k, none⟩ = some (.int .i64 (i : Int)) := by
     have h1 := hoc k (i : Int) (by simp [hi])
     refine (HF.out.cell (World.block_lt_of_cell? w1 _ h1) ?_).trans h1
     have q0 := HO1.out.2.2.1 bo rfl
     have q1 := h6.out.lt
     rintro (q | q)
     · have q' : bo = R := q
       omega
     · have q' : bo = M := q
       omega
    have hu := Tryz.underlying83
    have hk0 : (0 : Int) ≤ (k : Int) := by omega
    have hkn : (k : Int) < (n : Int) := by omega
    have hi0 : (0 : Int) ≤ (i : Int) := by omega
    have hi1 : (i : Int) < (dk.rd.length : Int) := by omega
    have hsz := infoSector
    by_cases hkp : (k : Int) < (picks.length : Int)
    · obtain ⟨bp, op, hap, hpc⟩ := HP.out.2.2 (by omega)
      subst hap
      have hcp : wr.cell? ⟨bp, op + k, none⟩ = some (.int .i64 pick) := by
       have h1 := hpc k pick (by rw [hpk, List.getElem?_eq_getElem (by omega)]; rfl)
       have h2 := (HO1.out.2.2.2.cell (World.block_lt_of_cell? w _ h1) (fun q => q)).trans h1
       refine (HF.out.cell (World.block_lt_of_cell? w1 _ h2) ?_).trans h2
       rintro (q | q)
       · exact (HP.out.1 bp rfl (by omega)).1 q
       · exact (HP.out.1 bp rfl (by omega)).2 q
      clear hi hpk hkl hie hin hiv hvs hnx hln hdk hidk hivk hvl hz hvi hDk hoc hpc hsz
      go_wp2_with fail
      refine wp_region_held_drew (S := fun w' => Fr (fun b => b = R) wr w' ∧ ∃ L, Blk w' R 83 (cellsB L).toArray ∧ i * 128 + 128 ≤ L.length ∧ patch L (i * 128) z = (dk.rd.set i z).flatten ++ dk.sp) (by kernel_rfl) (⟨(Fr.refl _ _).drew, dk.rd.flatten ++ dk.sp, HDW.out.red, HI.out.2.1, HI.out.2.2⟩) (fun hS0 => ?_)
      refine anyH_tk 0 26 (.pointer (some ⟨g, 0, none⟩)) rfl rfl (.inl ⟨by rfl, fun w'' hS => by go_simp⟩) hS0 ?_
      (simp only [sA, sB, sC])
      refine anyH_tk 1 27 (.pointer (some ⟨g, 0, none⟩)) rfl rfl (.inl ⟨by rfl, fun w'' hS => by go_simp⟩) hS0 ?_
      (simp only [sA, sB, sC])
      refine anyH_tk 2 28 (.pointer (some ⟨g, 0, none⟩)) rfl rfl (.inl ⟨by rfl, fun w'' hS => by go_simp⟩) hS0 ?_
      (simp only [sA, sB, sC])
      refine anyH_tk 3 29 (.slice (some ⟨R, 0, none⟩) dk.rd.length dk.cp) rfl rfl (.inl ⟨by rfl, fun w'' hS => by have q0 := (hS.1.cell (p := ⟨g, 0, none⟩) HDW.out.lt.1 HDW.out.gR).trans (dsk_cells HDW.out.blk).1; go_simp⟩) hS0 ?_
      (simp only [sA, sB, sC])
      refine anyH_tk 4 30 (.int .i64 (i : Nat)) rfl rfl (.inl ⟨by rfl, fun w'' hS => by go_simp⟩) hS0 ?_
      (simp only [sA, sB, sC])
      refine anyH_tk 5 31 (.pointer (some ⟨g, 0, none⟩)) rfl rfl (.inl ⟨by rfl, fun w'' hS => by go_simp⟩) hS0 ?_
      (simp only [sA, sB, sC])
      refine anyH_tk 6 32 (.pointer (some ⟨g, 0, none⟩)) rfl rfl (.inl ⟨by rfl, fun w'' hS => by go_simp⟩) hS0 ?_
      (simp only [sA, sB, sC])
      refine anyH_tk 7 33 (.pointer (some ⟨g, 1, none⟩)) rfl rfl (.inl ⟨by rfl, fun w'' hS => by go_simp⟩) hS0 ?_
      (simp only [sA, sB, sC])
      refine anyH_tk 8 34 (.map (some M)) rfl rfl (.inl ⟨by rfl, fun w'' hS => by have q0 := (hS.1.cell (p := ⟨g, 1, none⟩) HDW.out.lt.1 HDW.out.gR).trans (dsk_cells HDW.out.blk).2.1; go_simp⟩) hS0 ?_
      (simp only [sA, sB, sC])
      refine anyH_tk 9 35 (.int .i64 (i : Nat)) rfl rfl (.inl ⟨by rfl, fun w'' hS => by go_simp⟩) hS0 ?_
      (simp only [sA, sB, sC])
      refine anyH_tk 10 36 vi rfl rfl (.inl ⟨by rfl, fun w'' hS => by have q0 := HLK.out w'' hS.1; go_simp⟩) hS0 ?_
      (simp only [sA, sB, sC])
      refine anyH_tk 11 37 (.int .i64 pick) rfl rfl (.inl ⟨by rfl, fun w'' hS => by go_simp⟩) hS0 ?_
      (simp only [sA, sB, sC])
      refine anyH_one 12 38 (av z) (by kernel_rfl) (tame_call 38 rfl rfl (by rfl) (fun w'' hS => by go_simp) (fun w'' hS => ((left_any (HSV.out w'' hS.1) HPK.out.1 HPK.out.2.1 pick).mono fun e w3 he => ⟨by rw [he.1, HPK.out.2.2], hS.1.trans he.2 (fun _ _ q => q.elim), hS.2.imp fun L q => ⟨q.1.keep he.2 (fun q => q), q.2⟩⟩))) hS0 (fun w3 hS0 => ?_)
      (simp only [sA, sB, sC])
      refine anyH_tk 13 39 (.pointer (some ⟨R, i * 128, none⟩)) rfl rfl (.inl ⟨by rfl, fun w'' hS => by go_simp⟩) hS0 ?_
      (simp only [sA, sB, sC])
      obtain ⟨L, hL1, hL2, hL3⟩ := hS0.2
      have hb4 := hL1.over (o := i * 128) (m := z) (by rw [HZL.out]; exact hL2)
      refine anyH_skip 14 (w3.setCells R (i * 128) (cellsB z)) (by kernel_rfl) rfl rfl (by rfl) (run_store_mid 83 _ _ rfl R (i * 128) (cellsB z).toArray rfl rfl (hL1.there (by simp [cellsB_len, HZL.out]; exact hL2)) (by rw [infoSector]; simp [cellsB_len, HZL.out]) (all_oneCell_toArray (cellsB_one _))) ⟨Fr.setCells (F := fun b => b = R) (.inl rfl) hS0.1, patch L (i * 128) z, hb4, (by rw [patch_len (by rw [HZL.out]; exact hL2)]; exact hL2), (by rw [patch_twice (by rw [HZL.out]; exact hL2)]; exact hL3)⟩ ?_
      refine wpAnyH_done (by kernel_rfl) ?_ _
      rw [hL3] at hb4
      have H4 := Lib.hid (And.intro hb4 (Fr.setCells (F := fun b => b = R) (vs := cellsB z) (o := i * 128) (.inl rfl) hS0.1))
      generalize w3.setCells R (i * 128) (cellsB z) = w4 at *
      clear hb4 hL1 hL2 hL3 hS0
      have hm4 := map_keep HDW.out.map H4.out.2 (fun e => HDW.out.rM e.symm)
      have c1 : w4.cell? ⟨g, 1, none⟩ = some (.map (some M)) := (H4.out.2.cell (p := ⟨g, 1, none⟩) HDW.out.lt.1 HDW.out.gR).trans (dsk_cells HDW.out.blk).2.1
      have hk1 : IntKind.i64.wrap ((k : Int) + 1) = (k : Int) + 1 := by
       have := HK.out
       simp [IntKind.wrap, IntKind.signed, IntKind.bits]
       omega
      go_wp2_with (first
       | (at_delete; refine wpList_delete_own _ rfl _ _ 72 3 rfl 71 kyT Tryz.underlying72 HV M _ Dk rfl hm4 _ _ rfl HKY.out ?_; intro w5 hm5 hturn5)
       | go_in)
      have f45 : Fr (fun b => b = M) w4 w5 := (Fr.refl _ w4).grown hturn5.grown (fun j hj => .inl (by injection hj with hj; exact hj.symm))
      have hD5 := HDW.out.fall HZL.out H4.out.1 H4.out.2 hm5 f45
      rw [HNX.out] at hD5
      go_roundw
      case rel => exact ⟨k + 1, by go_num, by have := HK.out; omega, Lib.hid ⟨_, hD5⟩, Lib.hid ((HF.out.trans H4.out.2 (fun j _ e => .inl e)).trans f45 (fun j _ e => .inr e))⟩
      case measure => simp [intOf]; omega
    · obtain rfl : pick = 0 := by
       rw [hpk, List.getElem?_eq_none (by omega)]
       rfl
      clear hi hpk hkl hie hin hiv hvs hnx hln hdk hidk hivk hvl hz hvi hDk hoc hsz
      go_wp2_with fail
      refine wp_region_held_drew (S := fun w' => Fr (fun b => b = R) wr w' ∧ ∃ L, Blk w' R 83 (cellsB L).toArray ∧ i * 128 + 128 ≤ L.length ∧ patch L (i * 128) z = (dk.rd.set i z).flatten ++ dk.sp) (by kernel_rfl) (⟨(Fr.refl _ _).drew, dk.rd.flatten ++ dk.sp, HDW.out.red, HI.out.2.1, HI.out.2.2⟩) (fun hS0 => ?_)
      refine anyH_tk 0 26 (.pointer (some ⟨g, 0, none⟩)) rfl rfl (.inl ⟨by rfl, fun w'' hS => by go_simp⟩) hS0 ?_
      (simp only [sA, sB, sC])
      refine anyH_tk 1 27 (.pointer (some ⟨g, 0, none⟩)) rfl rfl (.inl ⟨by rfl, fun w'' hS => by go_simp⟩) hS0 ?_
      (simp only [sA, sB, sC])
      refine anyH_tk 2 28 (.pointer (some ⟨g, 0, none⟩)) rfl rfl (.inl ⟨by rfl, fun w'' hS => by go_simp⟩) hS0 ?_
      (simp only [sA, sB, sC])
      refine anyH_tk 3 29 (.slice (some ⟨R, 0, none⟩) dk.rd.length dk.cp) rfl rfl (.inl ⟨by rfl, fun w'' hS => by have q0 := (hS.1.cell (p := ⟨g, 0, none⟩) HDW.out.lt.1 HDW.out.gR).trans (dsk_cells HDW.out.blk).1; go_simp⟩) hS0 ?_
      (simp only [sA, sB, sC])
      refine anyH_tk 4 30 (.int .i64 (i : Nat)) rfl rfl (.inl ⟨by rfl, fun w'' hS => by go_simp⟩) hS0 ?_
      (simp only [sA, sB, sC])
      refine anyH_tk 5 31 (.pointer (some ⟨g, 0, none⟩)) rfl rfl (.inl ⟨by rfl, fun w'' hS => by go_simp⟩) hS0 ?_
      (simp only [sA, sB, sC])
      refine anyH_tk 6 32 (.pointer (some ⟨g, 0, none⟩)) rfl rfl (.inl ⟨by rfl, fun w'' hS => by go_simp⟩) hS0 ?_
      (simp only [sA, sB, sC])
      refine anyH_tk 7 33 (.pointer (some ⟨g, 1, none⟩)) rfl rfl (.inl ⟨by rfl, fun w'' hS => by go_simp⟩) hS0 ?_
      (simp only [sA, sB, sC])
      refine anyH_tk 8 34 (.map (some M)) rfl rfl (.inl ⟨by rfl, fun w'' hS => by have q0 := (hS.1.cell (p := ⟨g, 1, none⟩) HDW.out.lt.1 HDW.out.gR).trans (dsk_cells HDW.out.blk).2.1; go_simp⟩) hS0 ?_
      (simp only [sA, sB, sC])
      refine anyH_tk 9 35 (.int .i64 (i : Nat)) rfl rfl (.inl ⟨by rfl, fun w'' hS => by go_simp⟩) hS0 ?_
      (simp only [sA, sB, sC])
      refine anyH_tk 10 36 vi rfl rfl (.inl ⟨by rfl, fun w'' hS => by have q0 := HLK.out w'' hS.1; go_simp⟩) hS0 ?_
      (simp only [sA, sB, sC])
      refine anyH_tk 11 37 (.int .i64 0) rfl rfl (.inl ⟨by rfl, fun w'' hS => by go_simp⟩) hS0 ?_
      (simp only [sA, sB, sC])
      refine anyH_one 12 38 (av z) (by kernel_rfl) (tame_call 38 rfl rfl (by rfl) (fun w'' hS => by go_simp) (fun w'' hS => ((left_any (HSV.out w'' hS.1) HPK.out.1 HPK.out.2.1 0).mono fun e w3 he => ⟨by rw [he.1, HPK.out.2.2], hS.1.trans he.2 (fun _ _ q => q.elim), hS.2.imp fun L q => ⟨q.1.keep he.2 (fun q => q), q.2⟩⟩))) hS0 (fun w3 hS0 => ?_)
      (simp only [sA, sB, sC])
      refine anyH_tk 13 39 (.pointer (some ⟨R, i * 128, none⟩)) rfl rfl (.inl ⟨by rfl, fun w'' hS => by go_simp⟩) hS0 ?_
      (simp only [sA, sB, sC])
      obtain ⟨L, hL1, hL2, hL3⟩ := hS0.2
      have hb4 := hL1.over (o := i * 128) (m := z) (by rw [HZL.out]; exact hL2)
      refine anyH_skip 14 (w3.setCells R (i * 128) (cellsB z)) (by kernel_rfl) rfl rfl (by rfl) (run_store_mid 83 _ _ rfl R (i * 128) (cellsB z).toArray rfl rfl (hL1.there (by simp [cellsB_len, HZL.out]; exact hL2)) (by rw [infoSector]; simp [cellsB_len, HZL.out]) (all_oneCell_toArray (cellsB_one _))) ⟨Fr.setCells (F := fun b => b = R) (.inl rfl) hS0.1, patch L (i * 128) z, hb4, (by rw [patch_len (by rw [HZL.out]; exact hL2)]; exact hL2), (by rw [patch_twice (by rw [HZL.out]; exact hL2)]; exact hL3)⟩ ?_
      refine wpAnyH_done (by kernel_rfl) ?_ _
      rw [hL3] at hb4
      have H4 := Lib.hid (And.intro hb4 (Fr.setCells (F := fun b => b = R) (vs := cellsB z) (o := i * 128) (.inl rfl) hS0.1))
      generalize w3.setCells R (i * 128) (cellsB z) = w4 at *
      clear hb4 hL1 hL2 hL3 hS0
      have hm4 := map_keep HDW.out.map H4.out.2 (fun e => HDW.out.rM e.symm)
      have c1 : w4.cell? ⟨g, 1, none⟩ = some (.map (some M)) := (H4.out.2.cell (p := ⟨g, 1, none⟩) HDW.out.lt.1 HDW.out.gR).trans (dsk_cells HDW.out.blk).2.1
      have hk1 : IntKind.i64.wrap ((k : Int) + 1) = (k : Int) + 1 := by
       have := HK.out
       simp [IntKind.wrap, IntKind.signed, IntKind.bits]
       omega
      go_wp2_with (first
       | (at_delete; refine wpList_delete_own _ rfl _ _ 72 3 rfl 71 kyT Tryz.underlying72 HV M _ Dk rfl hm4 _ _ rfl HKY.out ?_; intro w5 hm5 hturn5)
       | go_in)
      have f45 : Fr (fun b => b = M) w4 w5 := (Fr.refl _ w4).grown hturn5.grown (fun j hj => .inl (by injection hj with hj; exact hj.symm))
      have hD5 := HDW.out.fall HZL.out H4.out.1 H4.out.2 hm5 f45
      rw [HNX.out] at hD5
      go_roundw
      case rel => exact ⟨k + 1, by go_num, by have := HK.out; omega, Lib.hid ⟨_, hD5⟩, Lib.hid ((HF.out.trans H4.out.2 (fun j _ e => .inl e)).trans f45 (fun j _ e => .inr e))⟩
      case measure => simp [intOf]; omega
  · have hke : k = n := by omega
    have hkn : ¬ ((k : Int) < (n : Int)) := by omega
    have htk : (d.pairs picks).take k = d.pairs picks := List.take_of_length_le (by rw [pairs_len]; have := HO1.out.1; omega)
    rw [htk] at hDk
    have h2 := hDk.blk.set_ 2 (.bool false)
    have h3 := h2.set_ 3 (.int .i64 0)
    have h4 := h3.set_ 4 (.bool false)
    obtain ⟨c0, c1, c2, c3, c4⟩ := dsk_cells hDk.blk
    have q2 := hDk.blk.frozen 2
    have k3 : (wr.setCell ⟨g, 2, none⟩ (.bool false)).cell? ⟨g, 3, none⟩ = some (.int .i64 (d.falls (d.pairs picks)).lf) := h2.cell 3
    have q3 := h2.frozen 3
    have k4 : ((wr.setCell ⟨g, 2, none⟩ (.bool false)).setCell ⟨g, 3, none⟩ (.int .i64 0)).cell? ⟨g, 4, none⟩ = some (.bool (d.falls (d.pairs picks)).dd) := h3.cell 4
    have q4 := h3.frozen 4
    have fe : Fr (fun b => b = g) wr (((wr.setCell ⟨g, 2, none⟩ (.bool false)).setCell ⟨g, 3, none⟩ (.int .i64 0)).setCell ⟨g, 4, none⟩ (.bool false)) := (((Fr.refl (fun b => b = g) wr).setCell (p := ⟨g, 2, none⟩) (.inl rfl) _).setCell (p := ⟨g, 3, none⟩) (.inl rfl) _).setCell (p := ⟨g, 4, none⟩) (.inl rfl) _
    have HE := Lib.hid (And.intro (hDk.fuse (fu := false) (lf := 0) (dd := false) fe h4 (by omega) (by omega)) (((HO1.out.2.2.2.mono (G := F) (fun _ _ q => q.elim)).trans HF.out (fun j _ q => by
     rcases q with q | q
     · rw [q]; exact hDk.fR
     · rw [q]; exact hDk.fM)).trans fe (fun j _ q => by have q' : j = g := q; rw [q']; exact hDk.fg)))
    clear h2 h3 h4 fe htk hDk hke
    go_wp2_with fail
    go_ret
    exact ⟨rfl, ⟨_, HE.out.1⟩, HE.out.2⟩
end
end Go.Proofs.YtcnlgbjkjlbmbaaGreat


