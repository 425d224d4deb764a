/- The laws' known rows. -/
import Derived.Test.YtbnegiiombnnaaaThy
import Derived.Great.BuildSlice
namespace Go.Proofs.Ytbnegiiombnnaaa
open Go.RowKit

/-- Split of a tag that may be, of few bytes; the row lies in a block of its own. -/
def SplitR (w : World) (c n : Nat) (b : List UInt8) (e : Ending) (w' : World) : Prop :=
  ∃ R, e = .returned (.tuple #[.slice (some ⟨R, 0, none⟩) ((many b.length + 1) / 2) ((many b.length + 1) / 2), .int .i64 0]) ∧ w.heap.size ≤ R ∧ Blk w' R 37 (cellsB (rowB c n b)).toArray ∧ Fr (fun _ => False) w w'
theorem split_any {w : World} {A : Option Addr} {cb : Nat} {b : List UInt8} (hr : Rd w A b.length b) (hk : b.length ≤ 32768) (c n : Nat) (h : mayT c (n : Int) = true) :
    Calls Try.prog 7 #[.agg #[.int .u64 c, .int .i64 n], .slice A b.length cb] w (SplitR w c n b) := by
  have hN : needN (b.length : Int) = (many b.length + 1) / 2 := by simp [needN]; omega
  have h1 := split_ok (cb := cb) hr hk c n h
  rw [hN] at h1
  exact h1
theorem fold_set : ∀ (l : List Value) (k : Nat) (acc : Array Value), k + l.length ≤ acc.size → ((l.zipIdx k).foldl (fun cs (x : Value × Nat) => cs.setIfInBounds (0 + x.2) x.1) acc) = (acc.toList.take k ++ (l ++ acc.toList.drop (k + l.length))).toArray
  | [], k, acc, _ => by simp
  | x :: l, k, acc, h => by
    simp only [List.length_cons] at h
    rw [List.zipIdx_cons, List.foldl_cons, fold_set l (k + 1) _ (by simp; omega)]
    simp only [Nat.zero_add, Array.toList_setIfInBounds]
    have h1 : k < acc.toList.length := by simp; omega
    have e1 : (acc.toList.set k x).take (k + 1) = acc.toList.take k ++ [x] := by
      rw [List.take_set, List.take_succ_eq_append_getElem h1]
      have h4 : (acc.toList.take k).length = k := by rw [List.length_take]; omega
      rw [List.set_append_right _ _ (by omega), h4, Nat.sub_self]
      rfl
    have e2 : (acc.toList.set k x).drop (k + 1 + l.length) = acc.toList.drop (k + (l.length + 1)) := by
      rw [List.drop_set_of_lt (by omega)]
      congr 1
      omega
    rw [e1, e2]
    simp
theorem fill_one {cs base : List Value} (h : cs.length = base.length) (K : Nat) (hK : cs.length = K) : Instr.fill (fun i => some (i * K, K)) base.toArray [(0, .agg cs.toArray)] = some cs.toArray := by
  have h1 := fold_set cs 0 base.toArray (by simp [h])
  have h2 : base.drop (0 + cs.length) = [] := List.drop_eq_nil_of_le (by omega)
  rw [List.toList_toArray, h2] at h1
  simp only [Instr.fill, Value.cells, Nat.zero_mul]
  rw [if_neg (by simp; omega)]
  rw [← Array.foldl_toList, Array.toList_zipIdx, List.toList_toArray, h1]
  simp
theorem slice_of_one {l : List UInt8} (hl : l.length = 128) (w : World) : (Instr.buildSlice 27 1 #[(0, .agg (cellsB l).toArray)]).run Try.prog w = .ok (.slice (some ⟨w.heap.size, 0, none⟩) 1 1) (w.alloc (.cells (cellsB l).toArray 37)) := by
  obtain ⟨i0, hi, hz0, hz1, hz2⟩ := info_parts infoSec
  refine run_buildSlice w 27 37 1 _ _ i0 _ Try.underlying27 hi hz0 (by rw [hz1]; omega) (by rw [hz1]; omega) ?_
  rw [hz1]
  have hb : ((Array.range (1 * 128)).map ((av (nought 128)).cells[· % (av (nought 128)).cells.size]!)) = (cellsB (nought 128)).toArray := made_bytes (av (nought 128)).cells 128 (1 * 128) rfl (by omega)
  rw [hb]
  exact fill_one (by simp [cellsB_len, hl, nought_len]) 128 (by rw [cellsB_len, hl])
theorem build_sector (w : World) : (Instr.build 37 #[]).run Try.prog w = .ok (av (nought 128)) w := by
  unfold Instr.build
  obtain ⟨i0, hi, hz0, hz1, hz2⟩ := info_parts infoU8
  rw [Sem.run_bind, zeroSector]
  simp [run_underlying Try.underlying37, Instr.fill, Value.cells, sizeOf, typeInfo, hi]
theorem many60 : many 60 = 2 := rfl

set_option maxRecDepth 100000 in
set_option maxHeartbeats 2000000 in
theorem known_any (w : World) : Calls Try.prog 6 #[] w fun e w' => e = .returned (.bool true) ∧ Fr (fun _ => False) w w' := by
  have hmk := make_bytes w 60 (by omega)
  have hmk' : (Instr.makeSlice 25 (.int .i64 60) (.int .i64 60)).run Try.prog w = .ok (.slice (some ⟨w.heap.size, 0, none⟩) 60 60) (w.alloc (.cells (cellsB (nought 60)).toArray 5)) := hmk
  clear hmk
  have hb0 := Blk.new w 5 (cellsB (nought 60)).toArray
  have hrd : Rd (w.alloc (.cells (cellsB (nought 60)).toArray 5)) (some ⟨w.heap.size, 0, none⟩) (nought 60).length (nought 60) := hb0.rd (by rw [nought_len]; omega)
  have HS := Lib.hid (split_any (cb := 60) hrd (by rw [nought_len]; omega) 1 0 (by decide))
  have HF0 : Hid (Fr (fun _ => False) w (w.alloc (.cells (cellsB (nought 60)).toArray 5))) := Lib.hid ((Fr.refl _ w).alloc _)
  clear hb0 hrd
  go_enter Try.func6, Try.ntmps6
  go_wp2_with fail
  refine HS.out.mono ?_
  rintro e w1 ⟨R, rfl, hR, hbl, hf⟩
  have hN : (many (nought 60).length + 1) / 2 = 1 := rfl
  rw [hN]
  have HB := Lib.hid (And.intro hR (And.intro hbl (HF0.out.trans hf (fun _ _ q => q))))
  clear hN hR hbl hf HS HF0 hmk'
  go_wp2_with fail
  refine (need_any _ 0).mono ?_
  rintro e w2 ⟨rfl, rfl⟩
  have n0 : needN 0 = 1 := rfl
  rw [n0]
  go_wp2_with fail
  refine (need_any _ 44).mono ?_
  rintro e w2 ⟨rfl, rfl⟩
  have n1 : needN 44 = 1 := rfl
  rw [n1]
  go_wp2_with fail
  refine (need_any _ 92).mono ?_
  rintro e w2 ⟨rfl, rfl⟩
  have n2 : needN 92 = 1 := rfl
  rw [n2]
  go_wp2_with fail
  refine (need_any _ 93).mono ?_
  rintro e w2 ⟨rfl, rfl⟩
  have n3 : needN 93 = 2 := rfl
  rw [n3]
  have hrl : (rowB 1 0 (nought 60)).length = 128 := by rw [rowB_len]; rfl
  have hra : w1.rangeAt R 0 (cellsB (rowB 1 0 (nought 60))) := by
    have := HB.out.2.1.range 0 128
    rw [List.drop_zero, List.take_of_length_le (Nat.le_of_eq hrl)] at this
    exact this
  have HR := Lib.hid (And.intro hrl hra)
  have htl : (tornOf (rowB 1 0 (nought 60)) (nought 128)).length = 128 := by
    unfold tornOf
    rw [List.length_append, List.length_take, hrl, nought_drop, nought_len]
    rfl
  have hbs := slice_of_one htl
  have hb0 : ∀ w, (zeroValue 37).run Try.prog w = .ok (.agg (cellsB (nought 128)).toArray) w := zeroSector
  have HTL := Lib.hid htl
  have HTO := Lib.hid fun w => torn_any w (rowB 1 0 (nought 60)) (nought 128) hrl (nought_len _)
  have HJT := Lib.hid (join_torn (c := 1) (n := 0) (b := nought 60) (by decide) rfl)
  have hjr := join_row (c := 1) (n := 0) (b := nought 60) (by rw [nought_len]; omega) (by decide) []
  rw [List.append_nil] at hjr
  have HJR := Lib.hid hjr
  clear n0 n1 n2 n3 hrl hra htl hjr
  go_wp2_with (refine wpList_load_mid rfl 37 _ rfl R 0 rfl (cellsB (rowB 1 0 (nought 60))) _ HR.out.2 Try.underlying37 rfl (by rw [infoSector, cellsB_len, HR.out.1]) ?_)
  refine (HTO.out _).mono ?_
  rintro e w2 ⟨rfl, hf2⟩
  have b1 := HB.out.2.1.keep hf2 (fun q => q)
  have hf02 := HB.out.2.2.trans hf2 (fun _ _ q => q)
  have HB2 := Lib.hid (And.intro b1 hf02)
  clear b1 hf02 hf2
  go_wp2_with fail
  have hin : SecIn (w2.alloc (.cells (cellsB (tornOf (rowB 1 0 (nought 60)) (nought 128))).toArray 37)) (.slice (some ⟨w2.heap.size, 0, none⟩) 1 1) [tornOf (rowB 1 0 (nought 60)) (nought 128)] := by
    refine .inr ⟨_, 0, 1, rfl, by simp, fun i s hi => ?_⟩
    cases i with
    | zero =>
      simp at hi
      subst hi
      refine ⟨HTL.out, ?_⟩
      have := (Blk.new w2 37 (cellsB (tornOf (rowB 1 0 (nought 60)) (nought 128))).toArray).range 0 128
      rw [List.drop_zero, List.take_of_length_le (Nat.le_of_eq HTL.out)] at this
      simpa using this
    | succ i => simp at hi
  refine (join_any hin (by simp)).mono ?_
  rintro e w3 ⟨j1, _, hf3⟩
  obtain rfl := j1 HJT.out
  have hfa : Fr (fun _ => False) w2 w3 := ((Fr.refl (fun _ => False) w2).alloc _).trans hf3 (fun _ _ q => q)
  have b1 := HB2.out.1.keep hfa (fun q => q)
  have HB3 := Lib.hid (And.intro b1 (HB2.out.2.trans hfa (fun _ _ q => q)))
  clear hin j1 hf3 hfa b1 hbs hb0
  go_wp2_with fail
  have fal : Fr (fun _ => False) w3 (w3.alloc (.cells #[.int .u64 0, .int .i64 0] 24)) := (Fr.refl _ w3).alloc _
  have hin : SecIn (w3.alloc (.cells #[.int .u64 0, .int .i64 0] 24)) (.slice (some ⟨R, 0, none⟩) 1 1) (secs (rowB 1 0 (nought 60)) 1) := secIn_row (N := 1) (HB3.out.1.keep fal (fun q => q)) (by rw [HR.out.1]) (Nat.le_refl _)
  refine (join_any hin (by rw [secs_len]; omega)).mono ?_
  rintro e w4 ⟨_, j2, hf4⟩
  have hjr : tagAt (secs (rowB 1 0 (nought 60)) 1) = (1, 0) ∧ joinOf (secs (rowB 1 0 (nought 60)) 1) = some (nought 60) := HJR.out
  obtain ⟨A', rfl, _⟩ := j2 _ hjr.2
  rw [hjr.1]
  have hn : needN ((nought 60).length : Nat) = 1 := rfl
  have HB4 := Lib.hid ((HB3.out.2.trans fal (fun _ _ q => q)).trans hf4 (fun _ _ q => q))
  clear hin j2 hf4 hjr fal
  rw [hn]
  go_wp2_with fail
  go_ret
  exact ⟨rfl, HB4.out.alloc _⟩
end Go.Proofs.Ytbnegiiombnnaaa
