/- The two iterators: a row's pieces, sectors' halves. -/
import Derived.Test.YtbnegiiombnnaaaTag
import Derived.RangeFuncNested
import Derived.RangeFuncBound
import Derived.RangeFuncCalls
import Derived.RangeFuncLeaves
import Derived.RangeFuncBox
import Derived.WalkKit
import Derived.OwnWalkIn
import Derived.TacticsInMore
import Derived.LoopNIn
import Derived.LoopIn
namespace Go.Proofs.Ytbnegiiombnnaaa
open Go.RowKit
attribute [local go_sem] Oper.semAt_some

theorem Fr.grow {w w' : World} (h : Fr (fun _ => False) w w') : w.grownBy w' none := ⟨h.os, h.tape, h.output, h.size, fun k hk _ => h.block k hk id⟩

/-- A place, and bytes of so many. -/
abbrev Pl (N sz : Nat) := { x : Nat × List UInt8 // x.1 < N ∧ x.2.length = sz }
abbrev encPl {N sz : Nat} (x : Pl N sz) : Array Value := #[.int .i64 (x.1.1 : Nat), av x.1.2]

/-- What has come when k rounds are over. -/
def upto {α : Type} (f : Nat → α) (k : Nat) : List α := (List.range k).map f
theorem upto_succ {α : Type} (f : Nat → α) (k : Nat) : upto f (k + 1) = upto f k ++ [f k] := by simp [upto, List.range_succ]
theorem upto_len {α : Type} (f : Nat → α) (k : Nat) : (upto f k).length = k := by simp [upto]

section
variable {ops : Array Oper} {rest : List Oper} {op : Oper} {a : Act} {w : World} {Q : Exit → Act → World → Prop} {F : Fence} {n : Nat} {P : Program}
theorem wpListIn_load_mid (hgd : op.guard = none) (ty : TypeId) (x : Operand) (ho : op.op = .load ty x)
    (b o : Nat) (hx : a.eval x = .pointer (some ⟨b, o, none⟩)) (cs : List Value) (d : TypeDesc) (hc : w.rangeAt b o cs)
    (hu : P.underlying ty = some d) (hd : d.isRow = true) (hi : (P.info? ty).map (·.size) = some cs.length)
    (h : wpListIn F n P ops Q rest (a.put op.dst (.agg cs.toArray)) w) : wpListIn F n P ops Q (op :: rest) a w := by
  refine wpListIn_plain hgd fun K hK => ?_
  have hl := run_loadVar_mid w b o ty cs d hc hu hd hi
  have hs : op.semAt F.round a.eval = execOp a.eval op := Oper.semAt_plain F _ _ (fun c h => by rw [ho] at h; cases h)
  unfold Oper.wpIn
  rw [hs]
  unfold execOp
  simp only [ho, hx, Instr.loadAt, Instr.sureAddr, Sem.run_bind, Sem.run_pure, Result.andThen_ok, hl, Oper.uponIn]
  refine ⟨fun f hf => ?_, hK _ _ h⟩
  simp [Oper.about, ho] at hf
end

/-- From the place off of block b on stand the sectors ss. -/
def SecsAt (w : World) (b off : Nat) (ss : List (List UInt8)) : Prop := ∀ i s, ss[i]? = some s → s.length = 128 ∧ w.rangeAt b (off + i * 128) (cellsB s)

set_option maxRecDepth 100000 in
set_option maxHeartbeats 4000000 in
theorem halves1_in (F : Nat → Prop) (l Bs b off cap : Nat) (ss : List (List UInt8)) (hreach : ss.length ≤ 1099511627776) (hb : ¬ F b) (fh : Nat → Pl (2 * ss.length) 64)
    (hfh : ∀ k s, ss[k / 2]? = some s → (fh k).1.1 = k ∧ (fh k).1.2 = (s.drop (64 * (k % 2))).take 64) (J Jx : List (Pl (2 * ss.length) 64) → World → Prop)
    (hJ : ∀ s W W', J s W → W.grownBy W' none → J s W')
    (hY : ∀ pre x W, J pre W → pre.length < 2 * ss.length → YieldAt Fence.wide 8 Try.prog l (encPl x) W fun e W' =>
      (e = .returned (.bool true) ∧ J (pre ++ [x]) W' ∧ Fr F W W') ∨ (e = .returned (.bool false) ∧ Jx (pre ++ [x]) W'))
    (W : World) (hBn : ¬ F Bs) (hBs : W.cell? ⟨Bs, 0, none⟩ = some (.slice (some ⟨b, off, none⟩) ss.length cap)) (hc : SecsAt W b off ss) (h0 : J [] W) :
    CallsIn Fence.wide 9 Try.prog 40 #[.func (.yield l) #[] #[], .pointer (some ⟨Bs, 0, none⟩)] W fun e W' => (∃ v, e = .returned v) ∧
      ((∃ ys, ys = upto fh (2 * ss.length) ∧ J ys W') ∨ (∃ pre, (∃ k, k ≤ 2 * ss.length ∧ pre = upto fh k) ∧ Jx pre W')) := by
  refine callsIn_of_wp Try.func40 rfl trivial ?_ rfl
  simp only [Try.ntmps40, List.size_toArray, List.length_cons, List.length_nil, Nat.reduceAdd, Nat.reduceSub, Array.replicate_succ, Array.replicate_zero, List.push_toArray, List.append_toArray, List.nil_append, List.cons_append]
  have HC := Lib.hid hc
  clear hc
  gi_wp2
  gi_loopw [7] (fun i wr => ∃ k : Nat, k ≤ 2 * ss.length ∧ i = .int .i64 k ∧ J (upto fh k) wr ∧ Fr F W wr)
    (fun i _ => 2 * ss.length - (intOf i).toNat)
  case atStart => exact ⟨0, Nat.zero_le _, rfl, h0, Fr.refl _ _⟩
  case round =>
    obtain ⟨k, hk, rfl, hJs, hnx⟩ := hrel
    by_cases hlt : k < 2 * ss.length
    · obtain ⟨s, hs⟩ : ∃ s, ss[k / 2]? = some s := ⟨_, List.getElem?_eq_getElem (by omega)⟩
      obtain ⟨hs128, hrg⟩ := HC.out (k / 2) s hs
      obtain ⟨hx1, hx2⟩ := hfh k s hs
      have hil : k / 2 < ss.length := by omega
      have hr2 : k % 2 < 2 := by omega
      have hq : (k : Int) / 2 = ((k / 2 : Nat) : Int) := by omega
      have hrm : (k : Int) % 2 = ((k % 2 : Nat) : Int) := by omega
      have hB2 := (hnx.cell (p := ⟨Bs, 0, none⟩) (World.block_lt_of_cell? W _ hBs) hBn).trans hBs
      have hrg2 : wr.rangeAt b (off + k / 2 * 128) (cellsB s) := fun j v hv => (hnx.cell (p := ⟨b, off + k / 2 * 128 + j, none⟩) (World.block_lt_of_cell? W _ (hrg j v hv)) hb).trans (hrg j v hv)
      have HRG := Lib.hid hrg2
      have HCUT := Lib.hid (cut_any wr s hs128 (k % 2) hr2)
      have HS := Lib.hid (And.intro hs (And.intro hx1 hx2))
      clear hs hrg hrg2 hx1 hx2
      generalize k / 2 = i at *
      generalize k % 2 = r at *
      have hi0 : (0 : Int) ≤ (i : Int) := by omega
      have hi1 : (i : Int) < (ss.length : Int) := by omega
      gi_wp2_with (refine wpListIn_load_mid rfl 37 _ rfl b (off + i * 128) rfl (cellsB s) _ HRG.out Try.underlying37 rfl (by rw [infoSector, cellsB_len, hs128]) ?_)
      refine ⟨trivial, (callsIn_wide.2 HCUT.out).mono ?_⟩
      rintro e w2 ⟨rfl, hf⟩
      have hJ2 := hJ _ _ _ hJs hf.grow
      obtain ⟨fn, tmps, assign, body, hy, hR⟩ := hY (upto fh k) (fh k) w2 hJ2 (by rw [upto_len]; exact hlt)
      have hk2 : Fr F W w2 := hnx.trans hf (fun _ _ q => q.elim)
      dsimp only [encPl] at hy
      rw [HS.out.2.1, HS.out.2.2] at hy
      clear hq hrm hB2 hJ2
      gi_wp2
      refine hR.mono ?_
      rintro e W3 (⟨rfl, hJ3, hk3⟩ | ⟨rfl, hJx3⟩)
      · gi_wp2
        go_roundw
        case rel => exact ⟨k + 1, by omega, by simp, by rw [upto_succ]; exact hJ3, hk2.trans hk3 (fun _ _ q => q)⟩
        case measure => simp [intOf]; omega
      · gi_wp2
        refine bodyPost_ret (results_none rfl _ _ _) rfl ?_
        exact ⟨⟨_, rfl⟩, .inr ⟨_, ⟨k + 1, by omega, (upto_succ _ _).symm⟩, hJx3⟩⟩
    · obtain rfl : k = 2 * ss.length := by omega
      gi_wp2
      go_end0
      exact ⟨⟨_, rfl⟩, .inl ⟨_, rfl, hJs⟩⟩

set_option maxRecDepth 100000 in
set_option maxHeartbeats 4000000 in
theorem pieces1_in (F : Nat → Prop) (l Bs b N cap : Nat) (t : TypeId) (all : List UInt8) (hN : all.length = N * 48) (hreach : N ≤ 1099511627776) (hb : ¬ F b) (fp : Nat → Pl N 48)
    (hfp : ∀ k, k < N → (fp k).1.1 = k ∧ (fp k).1.2 = (all.drop (48 * k)).take 48) (J Jx : List (Pl N 48) → World → Prop)
    (hY : ∀ pre x W, J pre W → pre.length < N → YieldAt Fence.wide 8 Try.prog l (encPl x) W fun e W' =>
      (e = .returned (.bool true) ∧ J (pre ++ [x]) W' ∧ Fr F W W') ∨ (e = .returned (.bool false) ∧ Jx (pre ++ [x]) W'))
    (W : World) (hBn : ¬ F Bs) (hBs : W.cell? ⟨Bs, 0, none⟩ = some (.slice (some ⟨b, 0, none⟩) (N * 48) cap)) (hcap : N * 48 ≤ cap) (hblk : Blk W b t (cellsB all).toArray) (h0 : J [] W) :
    CallsIn Fence.wide 9 Try.prog 36 #[.func (.yield l) #[] #[], .pointer (some ⟨Bs, 0, none⟩)] W fun e W' => (∃ v, e = .returned v) ∧
      ((∃ ys, ys = upto fp N ∧ J ys W') ∨ (∃ pre, (∃ k, k ≤ N ∧ pre = upto fp k) ∧ Jx pre W')) := by
  refine callsIn_of_wp Try.func36 rfl trivial ?_ rfl
  simp only [Try.ntmps36, List.size_toArray, List.length_cons, List.length_nil, Nat.reduceAdd, Nat.reduceSub, Array.replicate_succ, Array.replicate_zero, List.push_toArray, List.append_toArray, List.nil_append, List.cons_append]
  have HC := Lib.hid hblk
  clear hblk
  have hdiv : (N : Int) * 48 / 48 = (N : Int) := by omega
  gi_wp2
  gi_loopw [9] (fun i wr => ∃ k : Nat, k ≤ N ∧ i = .int .i64 k ∧ J (upto fp k) wr ∧ Fr F W wr)
    (fun i _ => N - (intOf i).toNat)
  case atStart => exact ⟨0, Nat.zero_le _, rfl, h0, Fr.refl _ _⟩
  case round =>
    obtain ⟨k, hk, rfl, hJs, hnx⟩ := hrel
    by_cases hlt : k < N
    · obtain ⟨hx1, hx2⟩ := hfp k hlt
      have hB2 := (hnx.cell (p := ⟨Bs, 0, none⟩) (World.block_lt_of_cell? W _ hBs) hBn).trans hBs
      have hrg2 : wr.rangeAt b (48 * k) (cellsB ((all.drop (48 * k)).take 48)) := fun j v hv => (hnx.cell (p := ⟨b, 48 * k + j, none⟩) (World.block_lt_of_cell? W _ (HC.out.range (48 * k) 48 j v hv)) hb).trans (HC.out.range (48 * k) 48 j v hv)
      have hpl : ((all.drop (48 * k)).take 48).length = 48 := by rw [List.length_take, List.length_drop]; omega
      have HRG := Lib.hid hrg2
      have HS := Lib.hid (And.intro hx1 hx2)
      have hat := at_piece
      have hs2 : ∀ W, (Instr.slice 25 (.slice (some ⟨b, 0, none⟩) (N * 48) cap) (some (.int .i64 ((k : Int) * 48))) (some (.int .i64 (((k : Int) + 1) * 48))) (some (.int .i64 (((k : Int) + 1) * 48)))).run Try.prog W = .ok (.slice (some ⟨b, 48 * k, none⟩) 48 48) W := fun W => by
        have h := run_slice_lhm (P := Try.prog) (w := W) (t := 25) (a := some ⟨b, 0, none⟩) (len := N * 48) (cap := cap) Try.underlying25 .i64 .i64 .i64 ((k : Int) * 48) (((k : Int) + 1) * 48) (((k : Int) + 1) * 48) (by omega) (by omega) (by omega) (by omega)
        have hz : (sizeOf (Try.prog.elem 25)).run Try.prog W = .ok 1 W := by go_simp
        have e1 : ((k : Int) * 48).toNat = 48 * k := by omega
        have e2 : (((k : Int) + 1) * 48).toNat = 48 * k + 48 := by omega
        rw [h, hz]
        simp [Result.andThen, sliced, e1, e2, Addr.add_mid]
      clear hx1 hx2 hrg2
      generalize (all.drop (48 * k)).take 48 = p at *
      obtain ⟨fn, tmps, assign, body, hy, hR⟩ := hY (upto fp k) (fp k) wr hJs (by rw [upto_len]; exact hlt)
      dsimp only [encPl] at hy
      rw [HS.out.1, HS.out.2] at hy
      gi_wp2_with (refine wpListIn_load_mid rfl 59 _ rfl b (48 * k) rfl (cellsB p) _ HRG.out Try.underlying59 rfl (by rw [infoPiece, cellsB_len, hpl]) ?_)
      refine hR.mono ?_
      rintro e W3 (⟨rfl, hJ3, hk3⟩ | ⟨rfl, hJx3⟩)
      · gi_wp2
        go_roundw
        case rel => exact ⟨k + 1, by omega, by simp, by rw [upto_succ]; exact hJ3, hnx.trans hk3 (fun _ _ q => q)⟩
        case measure => simp [intOf]; omega
      · gi_wp2
        refine bodyPost_ret (results_none rfl _ _ _) rfl ?_
        exact ⟨⟨_, rfl⟩, .inr ⟨_, ⟨k + 1, by omega, (upto_succ _ _).symm⟩, hJx3⟩⟩
    · obtain rfl : k = N := by omega
      gi_wp2
      go_end0
      exact ⟨⟨_, rfl⟩, .inl ⟨_, rfl, hJs⟩⟩
end Go.Proofs.Ytbnegiiombnnaaa
