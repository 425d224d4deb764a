/- W8: laid together out of Law Rmn Row Lst Rpa Dat. -/
import Derived.Test.YtcnlgbjkjlbmbaaGreatRows
import Derived.ProofKit
import Derived.OpenShut
import Derived.Deep.Slices
import Derived.Lib.SmallJoins
import Derived.Deep.RegionHeld3
import Derived.Deep.AppendLies
import Derived.Test.YtcnlgbjkjlbmbaaGreatW7
namespace Go.Proofs.YtcnlgbjkjlbmbaaGreat
open Go.ChangeShapes Go.WideShapes Go.ChangeAt Go.RowKit

set_option maxRecDepth 100000 in
theorem own : ownKnob Tryz.prog.godebug = none := by kernel_rfl
set_option maxRecDepth 100000 in
theorem laidOut : laidOutB Tryz.prog = true := by kernel_rfl

section
variable {H : Type} {enc : TypeId × Value → H} {P : Program}

set_option maxRecDepth 100000 in
theorem args_stay {W W' : World} (hl : laidOutB P = true) (hb : Below W.heap.size W W') {sp : Nat → Bool} : ∀ {ts : List TypeId} {vs : List Value} {ds : List (DataW H)} {ps : List MemPlace},
 (∀ t ∈ ts, P.readableRec t = true ∧ t < P.types.size) → DataW.TrodAll enc P W 0 (fun _ => true) true ts vs ds ps → (∀ x ∈ ps, x.block < W.heap.size) → (∀ x ∈ ps, sp x.block = true) →
 DataW.TrodAll enc P W' 0 sp true ts vs ds ps
 | [], vs, ds, ps, _, h, _, _ => by
   obtain ⟨rfl, rfl, rfl⟩ := trodAll_nil h
   exact trodAll_mk0
 | t :: ts, vs, ds, ps, ht, h, hlt, hsp => by
   obtain ⟨v, vs', d, ds', p, q, rfl, rfl, rfl, h1, h2⟩ := trodAll_cons h
   have ht0 := ht t (by simp)
   exact trodAll_cons_mk (WideElems.Trod_stays hl ht0.1 ht0.2 h1 (fun x hx => hb.same (hlt x (by simp [hx]))) (fun x hx => hsp x (by simp [hx])))
    (args_stay hl hb (fun t' h' => ht t' (by simp [h'])) h2 (fun x hx => hlt x (by simp [hx])) (fun x hx => hsp x (by simp [hx])))

set_option maxRecDepth 100000 in
theorem law_post {f : Func} {s : ChangeSpec} {tb : TypeId} {W W' : World} {args : Array Value} {ds gs : List (DataW H)} {before : List MemPlace}
 (hl : laidOutB P = true) (hvars : s.vars = []) (hpar0 : f.params.toList.all (fun t => P.readableRec t && decide (t < P.types.size)) = true) (hr : f.resultTypes = #[tb]) (hbool : P.underlying tb = some .bool)
 (hW : DataW.Whole enc P f.params.toList s.vars false W args.toList ds gs before) (hfn : s.fn H ds = { results := [.lit (.bool true)], args := ds }) (hb : Below W.heap.size W W') :
 s.post enc P f false true false false W args (.bool true) W' := by
 have hlt : ∀ x ∈ before, x.block < W.heap.size := fun x hx => hW.lt x hx
 have hpar : ∀ t ∈ f.params.toList, P.readableRec t = true ∧ t < P.types.size := fun t ht => by
  have := List.all_eq_true.1 hpar0 t ht
  simpa using this
 obtain ⟨p, q, hA, hV, hp, hfz, hnd⟩ := hW
 have hV' := hV
 rw [hvars] at hV'
 obtain ⟨rfl, rfl⟩ := trodVars_none hV'
 have hpp : before = p := by rw [hp, List.append_nil]
 subst hpp
 have hds : ds ++ [] = ds := List.append_nil ds
 refine ⟨ds, [], before, [], before, [], ⟨before, [], hA, hV, hp, hfz, hnd⟩, ?_, ?_, ?_, World.keptBut_mono (fun x hx => ⟨hx, .inr (.inl hx)⟩) (hb.frame (· ∈ before)), fun h => by cases h⟩
 · rw [hds, hfn, hr]
   exact trodAll_cons_mk (shut_bool hbool _) trodAll_mk0
 · rw [hds, hfn]
   exact args_stay hl hb hpar hA hlt (fun x hx => by simpa using hlt x hx)
 · rw [hds, hfn, hvars]
   exact rfl
end
end Go.Proofs.YtcnlgbjkjlbmbaaGreat

namespace Go.Proofs.YtcnlgbjkjlbmbaaGreat
open Go.RowKit

set_option maxRecDepth 100000 in
theorem rmany_any (w : World) (n : Nat) (hn : n ≤ 1000000) : Calls Tryz.prog 88 #[.int .i64 n] w fun e w' => e = .returned (.int .i64 (many n : Nat)) ∧ w = w' := by
 have hm : 48 * many n < n + 52 ∧ n + 4 ≤ 48 * many n := by unfold many; omega
 have hp := many_pos n
 generalize many n = m at *
 have HM := Lib.hid hm
 clear hm
 go_enter Tryz.func88, Tryz.ntmps88
 go_wp2_with fail
 go_loop [3] (fun i => ∃ k : Nat, i = .int .i64 k ∧ 1 ≤ k ∧ k ≤ m) (fun i => m - (intOf i).toNat)
 case atStart => exact ⟨1, rfl, Nat.le_refl _, hp⟩
 case round =>
  obtain ⟨k, rfl, hk1, hk⟩ := hrel
  have hk9 : k ≤ 1000000 := by have := HM.out; omega
  by_cases hlt : k < m
  · have ht : (48 : Int) * (k : Int) < 4 + (n : Int) := by have := HM.out; omega
    have HL := Lib.hid hlt
    clear hlt hk
    go_wp2_with fail
    exact ⟨⟨k + 1, by go_num, by omega, HL.out⟩, by have := HL.out; simp [intOf]; omega⟩
  · obtain rfl : k = m := by omega
    have ht : ¬ (48 : Int) * (k : Int) < 4 + (n : Int) := by have := HM.out; omega
    clear hlt hk
    go_wp2_with fail
    go_ret
    exact ⟨rfl, rfl⟩
set_option maxRecDepth 100000 in
theorem rneed_any (w : World) (n : Int) : Calls Tryz.prog 56 #[.int .i64 n] w fun e w' => e = .returned (.int .i64 (needN n : Nat)) ∧ w = w' := by
 by_cases h0 : n < 0
 · have : needN n = 0 := by simp [needN, h0]
   rw [this]
   go_enter Tryz.func56, Tryz.ntmps56
   go_wp2_with fail
   go_ret
   exact ⟨rfl, rfl⟩
 by_cases h1 : 32768 < n
 · have : needN n = 0 := by simp [needN, h1]
   rw [this]
   go_enter Tryz.func56, Tryz.ntmps56
   go_wp2_with fail
   go_ret
   exact ⟨rfl, rfl⟩
 obtain ⟨k, rfl⟩ := Int.eq_ofNat_of_zero_le (Int.not_lt.1 h0)
 have hn : needN (k : Int) = (many k + 1) / 2 := by simp [needN]; omega
 rw [hn]
 have hm : many k ≤ 1000 := by unfold many; omega
 have HM := Lib.hid (rmany_any w k (by omega))
 generalize many k = m at *
 go_enter Tryz.func56, Tryz.ntmps56
 go_wp2_with fail
 (with_reducible refine HM.out.mono ?_)
 rintro e w1 ⟨rfl, rfl⟩
 go_wp2_with fail
 (with_reducible refine HM.out.mono ?_)
 rintro e w1 ⟨rfl, rfl⟩
 go_wp2_with fail
 go_ret
 exact ⟨congrArg (fun z => Ending.returned (Value.int .i64 z)) (by omega : (m : Int) / 2 + (m : Int) % 2 = (((m + 1) / 2 : Nat) : Int)), rfl⟩

end Go.Proofs.YtcnlgbjkjlbmbaaGreat

namespace Go.Proofs.YtcnlgbjkjlbmbaaGreat
open Go.ChangeShapes Go.WideShapes Go.ChangeAt Go.RowKit

end Go.Proofs.YtcnlgbjkjlbmbaaGreat

namespace Go.Proofs.YtcnlgbjkjlbmbaaGreat
open Go.RowKit

set_option maxRecDepth 100000 in
theorem one_byte (w : World) (t : TypeId) (c : UInt8) : Rd (w.alloc (.cells #[.int .u8 (c.toNat : Int)] t)) (some ⟨w.heap.size, 0, none⟩) 1 [c] := by
 refine ⟨rfl, fun _ => ⟨_, rfl, fun j d hj => ?_⟩⟩
 cases j with
 | zero =>
   simp at hj
   subst hj
   exact (Blk.new w t #[.int .u8 (c.toNat : Int)]).cell 0
 | succ j => simp at hj

section
variable {ops : Array Oper} {o : Oper} {a : Act} {Q : Exit → Act → World → Prop}
set_option maxRecDepth 100000 in
theorem wpList_more {rest : List Oper} {w : World} (hg : o.guard = none) (s x : Operand) (hop : o.op = Op.call { callee := Callee.builtin Builtin.append, args := #[s, x], argTypes := #[46, 46] })
 (base : Nat) (v : Value) (xs l : List UInt8) (hs : a.eval s = v) (hown : w.ownsRow base 5 1 v xs.length (cellsB xs)) (A : Option Addr) (m c : Nat) (hx : a.eval x = .slice A m c) (hr : Rd w A m l)
 (hb : xs.length + m ≤ 140737488355328) (hbase : base ≤ w.heap.size)
 (hK : ∀ v' w', w'.ownsRow base 5 1 v' (xs ++ l).length (cellsB (xs ++ l)) → w.grownBy w' v.ownBlock → (v'.ownBlock = v.ownBlock ∨ v'.ownBlock = some w.heap.size) → wpList Tryz.prog ops Q rest (a.put o.dst v') w') : wpList Tryz.prog ops Q (o :: rest) a w := by
 obtain ⟨i0, hi, hz0, hz1, hz2⟩ := info_parts infoU8
 exact wpList_append_bytes w hg s x 46 hop base 5 i0 (.int .u8 0) Tryz.underlying46 hi hz0 hz1 hz2 rfl v xs l hs hown A m c hx hr hb hbase hK
end
end Go.Proofs.YtcnlgbjkjlbmbaaGreat

namespace Go.Proofs.YtcnlgbjkjlbmbaaGreat
open Go.RowKit

end Go.Proofs.YtcnlgbjkjlbmbaaGreat

namespace Go.Proofs.YtcnlgbjkjlbmbaaGreat
open Go.RowKit Go.Maps

def DAt (w : World) (B : Nat) (P : Nat → Prop) (g : Nat) (d : DS) : Prop := (∃ R M D val, DiskW w P g R M D val d) ∧ ∀ b, P b → B ≤ b ∧ b < w.heap.size
section
variable {w w' : World} {B g : Nat} {P G : Nat → Prop} {d : DS}
set_option maxRecDepth 100000 in
theorem DAt.keep (h : DAt w B P g d) (f : Fr G w w') (hG : ∀ i, P i → ¬ G i) : DAt w' B P g d := by
 obtain ⟨⟨R, M, D, val, h1⟩, h2⟩ := h
 exact ⟨⟨R, M, D, val, h1.keep f hG⟩, fun b hb => ⟨(h2 b hb).1, Nat.lt_of_lt_of_le (h2 b hb).2 f.size⟩⟩
set_option maxRecDepth 100000 in
theorem DAt.new (h : DAt w B P g d) (f : Fr (fun _ => False) w w') : DAt w' B P g d := h.keep f (fun _ _ q => q)
set_option maxRecDepth 100000 in
theorem DAt.of (h : ∃ R M D val, DiskW w' (fun b => P b ∨ w.heap.size ≤ b) g R M D val d) (hB : B ≤ w.heap.size) (hP : ∀ b, P b → B ≤ b ∧ b < w.heap.size) (hs : w.heap.size ≤ w'.heap.size) :
 ∃ P', DAt w' B P' g d ∧ ∀ b, P' b → P b ∨ w.heap.size ≤ b := by
 obtain ⟨R, M, D, val, h⟩ := h
 refine ⟨fun b => (P b ∨ w.heap.size ≤ b) ∧ b < w'.heap.size, ⟨⟨R, M, D, val, ?_⟩, fun b hb => ⟨?_, hb.2⟩⟩, fun b hb => hb.1⟩
 · exact { h with
    fg := ⟨h.fg, h.lt.1⟩
    fR := ⟨h.fR, h.lt.2.1⟩
    fM := ⟨h.fM, h.lt.2.2⟩
    own := fun i b hi hv hb => ⟨⟨(h.own i b hi hv hb).1, h.own_lt hi hv hb⟩, (h.own i b hi hv hb).2⟩ }
 · rcases hb.1 with q | q
   · exact (hP b q).1
   · omega
set_option maxRecDepth 100000 in
theorem DAt.of_same (h : ∃ R M D val, DiskW w' P g R M D val d) (hP : ∀ b, P b → B ≤ b ∧ b < w.heap.size) (hs : w.heap.size ≤ w'.heap.size) : DAt w' B P g d :=
 ⟨h, fun b hb => ⟨(hP b hb).1, Nat.lt_of_lt_of_le (hP b hb).2 hs⟩⟩
set_option maxRecDepth 100000 in
theorem DAt.g_lt (h : DAt w B P g d) : P g ∧ B ≤ w.heap.size := by
 obtain ⟨⟨R, M, D, val, h1⟩, h2⟩ := h
 have := h2 g h1.fg
 exact ⟨h1.fg, by omega⟩

def DS.alive (d : DS) : Bool := !deadS d.fu d.lf d.dd
def DS.write (d : DS) (i : Nat) (s : List UInt8) : DS := if d.alive then d.step.put i (if d.vs i = [] then [d.rd.getD i []] else d.vs i) s else d.step
def DS.flushed (d : DS) : DS := if d.alive then d.flush else d.step
def DS.most (d : DS) (N : Nat) : Prop := ∀ i, (d.vs i).length ≤ N
set_option maxRecDepth 100000 in
theorem write_most {N i : Nat} {s : List UInt8} (h : d.most N) (h1 : 1 ≤ N) : (d.write i s).most (N + 1) := by
 intro j
 unfold DS.write
 split
 · simp only [DS.put]
   split
   · split
     · simp; omega
     · have := h i
       simp; omega
   · exact Nat.le_succ_of_le (h j)
 · exact Nat.le_succ_of_le (h j)
set_option maxRecDepth 100000 in
theorem write_len {i : Nat} {s : List UInt8} : (d.write i s).rd.length = d.rd.length := by
 unfold DS.write
 split <;> simp [DS.put, DS.step]
set_option maxRecDepth 100000 in
theorem flushed_len : d.flushed.rd.length = d.rd.length := by
 unfold DS.flushed
 split <;> simp [DS.flush, DS.step]

set_option maxRecDepth 100000 in
theorem awrite_any (h : DAt w B P g d) {i : Nat} (hi : i < d.rd.length) {s : List UInt8} (hs : s.length = 128) (hN : (d.vs i).length ≤ 10000) :
 Calls Tryz.prog 89 #[.pointer (some ⟨g, 0, none⟩), .int .i64 i, av s] w fun e w' => e = .returned (.int .i64 (if d.alive then 0 else 10)) ∧ (∃ P', DAt w' B P' g (d.write i s) ∧ ∀ b, P' b → P b ∨ w.heap.size ≤ b) ∧ Fr P w w' := by
 have hB := h.g_lt.2
 obtain ⟨⟨R, M, D, val, h1⟩, h2⟩ := h
 unfold DS.write DS.alive
 cases hd : deadS d.fu d.lf d.dd with
 | true =>
   refine (dwrite_dead h1 hi hd).mono ?_
   rintro e w1 ⟨rfl, k1, f1⟩
   exact ⟨rfl, ⟨P, DAt.of_same ⟨R, M, D, val, k1⟩ h2 f1.size, fun b hb => .inl hb⟩, f1⟩
 | false =>
   have hx : d.rd[i]? = some (d.rd.getD i []) := by simp [hi]
   refine (dwrite_any h1 hi hs hx hN hd).mono ?_
   rintro e w1 ⟨rfl, ⟨D', val', k1⟩, f1⟩
   exact ⟨rfl, DAt.of ⟨R, M, D', val', k1⟩ hB h2 f1.size, f1⟩
set_option maxRecDepth 100000 in
theorem awrite_bad (h : DAt w B P g d) {i : Int} (hi : i < 0 ∨ (d.rd.length : Int) ≤ i) {s : List UInt8} :
 Calls Tryz.prog 89 #[.pointer (some ⟨g, 0, none⟩), .int .i64 i, av s] w fun e w' => e = .returned (.int .i64 2) ∧ Fr (fun _ => False) w w' := by
 obtain ⟨⟨R, M, D, val, h1⟩, h2⟩ := h
 refine write_err (by omega) fun w1 hf => ?_
 have := has_any (h1.blk.keep hf (fun q => q)) i
 have he : hasE d.rd.length i = 2 := by unfold hasE; rw [if_neg (by have := h1.n0; omega), if_pos hi]
 rw [he] at this
 exact this
set_option maxRecDepth 100000 in
theorem aflush_any (h : DAt w B P g d) :
 Calls Tryz.prog 90 #[.pointer (some ⟨g, 0, none⟩)] w fun e w' => e = .returned (.int .i64 (if d.alive then 0 else 10)) ∧ DAt w' B P g d.flushed ∧ Fr P w w' := by
 obtain ⟨⟨R, M, D, val, h1⟩, h2⟩ := h
 unfold DS.flushed DS.alive
 cases hd : deadS d.fu d.lf d.dd with
 | true =>
   refine (dflush_dead h1 hd).mono ?_
   rintro e w1 ⟨rfl, k1, f1⟩
   exact ⟨rfl, DAt.of_same ⟨R, M, D, val, k1⟩ h2 f1.size, f1⟩
 | false =>
   refine (dflush_any h1 hd).mono ?_
   rintro e w1 ⟨rfl, ⟨D', k1⟩, f1⟩
   exact ⟨rfl, DAt.of_same ⟨R, M, D', val, k1⟩ h2 f1.size, f1⟩
set_option maxRecDepth 100000 in
theorem afuse_any (h : DAt w B P g d) (k : Int) (h0 : ¬ k < 0) (h1 : k ≤ 9223372036854775807) :
 Calls Tryz.prog 11 #[.pointer (some ⟨g, 0, none⟩), .int .i64 k] w fun e w' => e = .returned (.int .i64 0) ∧ DAt w' B P g { d with fu := true, lf := k } ∧ Fr P w w' := by
 obtain ⟨⟨R, M, D, val, k1⟩, k2⟩ := h
 refine (dfuse_any k1 k h0 h1).mono ?_
 rintro e w1 ⟨rfl, j1, f1⟩
 have f2 : Fr P w w1 := f1.mono (fun i _ e => by have e' : i = g := e; rw [e']; exact k1.fg)
 exact ⟨rfl, DAt.of_same ⟨R, M, D, val, j1⟩ k2 f1.size, f2⟩
set_option maxRecDepth 100000 in
theorem adead_any (h : DAt w B P g d) : Calls Tryz.prog 34 #[.pointer (some ⟨g, 0, none⟩)] w fun e w' => e = .returned (.bool d.dd) ∧ w = w' := by
 obtain ⟨⟨R, M, D, val, k1⟩, k2⟩ := h
 have := dead_any k1.blk
 rw [decide_eq_false (by have := k1.n0; omega)] at this
 simpa using this
set_option maxRecDepth 100000 in
theorem aread_any (h : DAt w B P g d) {k : Nat} (hk : k < d.rd.length) : Calls Tryz.prog 116 #[.pointer (some ⟨g, 0, none⟩), .int .i64 k] w fun e w' => e = .returned (.tuple #[av (d.rd.getD k []), .int .i64 0]) ∧ Fr (fun _ => False) w w' := by
 obtain ⟨⟨R, M, D, val, k1⟩, k2⟩ := h
 exact dread_any k1 (by simp [hk])
end

end Go.Proofs.YtcnlgbjkjlbmbaaGreat


