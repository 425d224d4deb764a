/- P1: laid together out of Vnu Vhd Vho Vne Vse Vfo Vfm Vrd Vre. -/
import Derived.Maps.OwnIn
import Derived.Test.YtcnlgbjkjlbmbaaGreatW9
namespace Go.Proofs.YtcnlgbjkjlbmbaaGreat
open Go.RowKit

set_option maxRecDepth 100000 in
set_option maxHeartbeats 1000000 in
theorem appnum_any {w : World} {base : Nat} {v : Value} {xs : List UInt8} (ho : w.ownsRow base 5 1 v xs.length (cellsB xs)) (hbase : base ≤ w.heap.size) (x s : Nat) (hx : x ≤ 18446744073709551615) (hs : s ≤ 8) (hb : xs.length ≤ 1000000000) :
 Calls Tryz.prog 104 #[v, .int .u64 x, .int .i64 s] w fun e w' => ∃ v', e = .returned v' ∧ w'.ownsRow base 5 1 v' (xs ++ be x s).length (cellsB (xs ++ be x s)) ∧ Fr (fun b => v.ownBlock = some b) w w' ∧ (v'.ownBlock = v.ownBlock ∨ ∀ b, v'.ownBlock = some b → w.heap.size ≤ b) := by
 have HO0 := Lib.hid ho
 have HB := Lib.hid (And.intro hx (And.intro hb hbase))
 clear ho hx hb hbase
 go_enter Tryz.func104, Tryz.ntmps104
 go_wp2_with fail
 go_loopw [0, 9] (fun t i wr => ∃ (k : Nat) (u : Value), u = t ∧ i = .int .i64 k ∧ k ≤ s ∧ Hid (wr.ownsRow base 5 1 u (xs ++ (be x s).take k).length (cellsB (xs ++ (be x s).take k))) ∧ Hid (Fr (fun b => v.ownBlock = some b) w wr) ∧ Hid (u.ownBlock = v.ownBlock ∨ ∀ b, u.ownBlock = some b → w.heap.size ≤ b)) (fun _ i _ => s - (intOf i).toNat)
 case atStart => exact ⟨0, _, rfl, rfl, Nat.zero_le _, by simpa using HO0, Lib.hid (Fr.refl _ _), Lib.hid (.inl rfl)⟩
 case round =>
  obtain ⟨k, u, rfl, rfl, hk, HO, HF, HV⟩ := hrel
  by_cases hlt : k < s
  · obtain ⟨j, hj⟩ : ∃ j, j = s - 1 - k := ⟨_, rfl⟩
    have e1 : ((s : Int) - 1 - (k : Int)) = (j : Int) := by omega
    have hcv := shr_byte x j
    have hrd := one_byte wr 5 (UInt8.ofNat (x / 256 ^ j % 256))
    rw [← hcv] at hrd
    have HR := Lib.hid hrd
    have HON := Lib.hid (World.ownsRow.alloc HO.out (.cells #[.int .u8 ((x : Int) / 2 ^ (8 * j) % 256)] 5))
    have hln : (xs ++ (be x s).take k).length + 1 ≤ 140737488355328 := by
     have h1 := HB.out.2.1
     rw [List.length_append, List.length_take, be_len]; omega
    have HLN := Lib.hid hln
    have HBS : Hid (base ≤ (wr.alloc (.cells #[.int .u8 ((x : Int) / 2 ^ (8 * j) % 256)] 5)).heap.size) := Lib.hid (by have h1 := HF.out.size; have h2 := HB.out.2.2; simp; omega)
    have hbe := be_at x s k hlt
    rw [← hj] at hbe
    have HBE := Lib.hid hbe
    have HJ := Lib.hid hj
    have hj7 : j ≤ 7 := by omega
    clear hcv hrd hln hbe hj
    go_wp2_with (refine wpList_more rfl _ _ rfl base u (xs ++ (be x s).take k) [UInt8.ofNat (x / 256 ^ j % 256)] rfl HON.out _ 1 1 rfl HR.out HLN.out HBS.out ?_; intro v3 w3 ho3 hg3 hat3; have H4 := Lib.hid (And.intro ho3 (And.intro hg3 hat3)); clear ho3 hg3 hat3)
    have ho := H4.out.1
    rw [List.append_assoc, ← HBE.out] at ho
    refine ⟨⟨k + 1, v3, rfl, by go_num, hlt, Lib.hid ho, Lib.hid ?_, Lib.hid ?_⟩, by simp [intOf]; omega⟩
    · refine (HF.out.alloc _).grown H4.out.2.1 (fun b hb => ?_)
      rcases HV.out with q | q
      · exact .inl (q ▸ hb)
      · exact .inr (q b hb)
    · rcases H4.out.2.2 with q | q
      · rcases HV.out with r | r
        · exact .inl (q.trans r)
        · exact .inr (fun b hb => r b (q ▸ hb))
      · refine .inr (fun b hb => ?_)
        rw [q] at hb
        injection hb with hb
        have := HF.out.size
        simp at hb
        omega
  · obtain rfl : k = s := by omega
    have ht : (be x k).take k = be x k := by rw [List.take_of_length_le]; rw [be_len]; exact Nat.le_refl _
    rw [ht] at HO
    clear ht hlt hk
    go_wp2_with fail
    go_ret
    exact ⟨_, rfl, HO.out, HF.out, HV.out⟩
set_option maxRecDepth 100000 in
theorem numberOf_any {w : World} {A : Option Addr} {n c : Nat} {l : List UInt8} (hr : Rd w A n l) (hn : n ≤ 8) :
 Calls Tryz.prog 99 #[.slice A n c] w fun e w' => e = .returned (.int .u64 (numOf l : Nat)) ∧ w = w' := by
 have hl := hr.len
 have HR := Lib.hid hr
 clear hr
 go_enter Tryz.func99, Tryz.ntmps99
 go_wp2_with fail
 go_loopw [3, 8] (fun m i wr => ∃ k : Nat, i = .int .i64 k ∧ k ≤ n ∧ m = .int .u64 (numOf (l.take k) : Nat) ∧ wr = w) (fun _ i _ => n - (intOf i).toNat)
 case atStart => exact ⟨0, rfl, Nat.zero_le _, rfl, rfl⟩
 case round =>
  obtain ⟨k, rfl, hk, rfl, rfl⟩ := hrel
  by_cases hlt : k < n
  · obtain ⟨ad, x, hA1, hx, hcell⟩ := HR.out.at_ (k := k) hlt
    subst hA1
    have hi0 : (0 : Int) ≤ (k : Int) := by omega
    have hi1 : (k : Int) < (n : Int) := by omega
    have HST := Lib.hid (numOf_step hx hlt hn)
    go_wp2_with fail
    exact ⟨⟨k + 1, by go_num, hlt, congrArg _ HST.out, trivial⟩, by simp [intOf]; omega⟩
  · obtain rfl : k = n := by omega
    rw [List.take_of_length_le (by omega)]
    clear hlt hk
    go_wp2_with fail
    go_ret
    exact ⟨rfl, rfl⟩
set_option maxRecDepth 100000 in
theorem wtaker_any (w : World) (A : Option Addr) (n c : Nat) :
 Calls Tryz.prog 98 #[.slice A n c] w fun e w' => e = .returned (.func (.func 121) #[] #[.pointer (some ⟨w.heap.size, 0, none⟩)]) ∧ w' = w.alloc (.cells #[.slice A n c] 46) := by
 go_enter Tryz.func98, Tryz.ntmps98
 go_wp2_with fail
 go_ret
 exact ⟨rfl, rfl⟩
set_option maxRecDepth 100000 in
theorem slice_top {w : World} {A : Option Addr} {n c : Nat} {l : List UInt8} (hr : Rd w A n l) (k : Nat) (hk : k ≤ n) (hc : n ≤ c) :
 (∀ W, (Instr.slice 46 (.slice A n c) none (some (.int .i64 (k : Int))) (some (.int .i64 (k : Int)))).run Tryz.prog W = .ok (.slice A k k) W) ∧ Rd w A k (l.take k) := by
 refine ⟨fun W => ?_, hr.take hk⟩
 have h := run_slice_hm (P := Tryz.prog) (w := W) (t := 46) (a := A) (len := n) (cap := c) Tryz.underlying46 .i64 .i64 k k (by omega) (by omega) (by omega)
 have hz : (sizeOf (Tryz.prog.elem 46)).run Tryz.prog W = .ok 1 W := by go_simp
 rw [h, hz]
 have h0 : A.map (fun x => x.add 0) = A := by cases A <;> simp [Addr.add]
 simp [Result.andThen, sliced, h0]
set_option maxRecDepth 100000 in
theorem wtake_any {w : World} {g : Nat} {A : Option Addr} {n c : Nat} {l : List UInt8} (h : BoxR w g A n c l) (s : Nat) (hn : s ≤ n) :
 Calls Tryz.prog 121 #[.int .i64 s, .pointer (some ⟨g, 0, none⟩)] w fun e w' => e = .returned (.slice A s s) ∧ Rd w' A s (l.take s) ∧ (∃ A', BoxR w' g A' (n - s) (c - s) (l.drop s) ∧ ∀ ad, A' = some ad → ∃ ad0, A = some ad0 ∧ ad.block = ad0.block) ∧ Fr (fun k => k = g) w w' := by
 obtain ⟨h1, h2, hnc, hA, hne⟩ := h
 have hl := h2.len
 have hc0 := h1.cell 0
 have hf0 := h1.frozen 0
 simp at hc0
 have hst := slice_top h2 s hn hnc
 obtain ⟨A', hsf, hrf, hAf, hbf⟩ := slice_from (P := Tryz.prog) (t := 46) Tryz.underlying46 (fun w => by go_simp) h2 hnc hA s hn
 have hs1 := hst.1
 have HR := Lib.hid (And.intro h1 (And.intro h2 (And.intro hst.2 (And.intro hrf (And.intro hAf hbf)))))
 clear hst hrf hAf hbf h1 h2
 go_enter Tryz.func121, Tryz.ntmps121
 go_wp2_with fail
 go_ret
 obtain ⟨q1, q2, q3, q4, q5, q6⟩ := HR.out
 have hf : Fr (fun i => i = g) w (w.setCell ⟨g, 0, none⟩ (.slice A' (n - s) (c - s))) := (Fr.refl (fun i => i = g) w).setCell (p := ⟨g, 0, none⟩) (.inl rfl) _
 have hne' : ∀ ad, A' = some ad → ad.block ≠ g := fun ad e => by
  obtain ⟨ad0, e0, e1⟩ := q6 ad e
  rw [e1]
  exact hne ad0 e0
 exact ⟨rfl, q3.keep hf hne, ⟨A', ⟨q1.set_ 0 _, q4.keep hf hne', by omega, q5, hne'⟩, q6⟩, hf⟩
end Go.Proofs.YtcnlgbjkjlbmbaaGreat

namespace Go.Proofs.YtcnlgbjkjlbmbaaGreat
open Go.RowKit

def markL : List UInt8 := [67, 80, 76, 71]
def hd20 (c s : Nat) : List UInt8 := markL ++ (be c 8 ++ be s 8)
def hdS (c s : Nat) : List UInt8 := hd20 c s ++ nought 108
set_option maxRecDepth 100000 in
theorem hd20_len (c s : Nat) : (hd20 c s).length = 20 := by simp [hd20, markL, be_len]
set_option maxRecDepth 100000 in
theorem hdS_len (c s : Nat) : (hdS c s).length = 128 := by simp [hdS, hd20_len, nought_len]
set_option maxRecDepth 100000 in
theorem hdS_is (c s : Nat) : patch (nought 128) 0 (hd20 c s) = hdS c s := by
 unfold patch hdS
 rw [List.take_zero, List.nil_append, hd20_len, Nat.zero_add, nought_drop]
abbrev hV (c s : Nat) : Value := .agg #[.int .u64 (c : Nat), .int .u64 (s : Nat)]
set_option maxRecDepth 100000 in
theorem alloc2 (w : World) (C0 C1 : Array Value) (t0 t1 : TypeId) : ∃ W, W = (w.alloc (.cells C0 t0)).alloc (.cells C1 t1) ∧ Blk W w.heap.size t0 C0 ∧ Blk W (w.heap.size + 1) t1 C1 ∧ W.heap.size = w.heap.size + 2 ∧ Fr (fun _ => False) w W :=
 ⟨_, rfl, (Blk.new w t0 C0).keep (F := fun _ => False) ((Fr.refl _ _).alloc _) (fun q => q), by simpa using Blk.new (w.alloc (.cells C0 t0)) t1 C1, by simp, ((Fr.refl _ w).alloc _).alloc _⟩

section
variable {ops : Array Oper} {o : Oper} {a : Act} {Q : Exit → Act → World → Prop}
set_option maxRecDepth 100000 in
theorem run_mark (w : World) (ty : TypeId) : ∃ c w', (Builtin.append_ #[46, 9] ty #[.slice none 0 0, .string { data := #[67, 80, 76, 71] }]).run Tryz.prog w = .ok (.slice (some ⟨w.heap.size, 0, none⟩) 4 c) w' ∧ w'.ownsRow w.heap.size 5 1 (.slice (some ⟨w.heap.size, 0, none⟩) 4 c) markL.length (cellsB markL) ∧ Fr (fun _ => False) w w' := by
 obtain ⟨i0, hi, hz0, hz1, hz2⟩ := info_parts infoU8
 have h := run_append_nil_string (P := Tryz.prog) w 46 9 ty 5 i0 (.int .u8 0) Tryz.underlying46 Tryz.underlying9 hi hz0 { data := #[67, 80, 76, 71] } (by decide) (by decide) (by rw [hz2]; decide)
 have hsz : ({ data := #[67, 80, 76, 71] } : ByteArray).size = 4 := rfl
 rw [hsz] at h
 have hg := grownCap_ge w 4 0 5
 have hm : grownCap w 4 0 5 ≤ maxLen := grownCap_le_maxLen _ _ _ _ (by simp [maxLen])
 generalize hC : (Array.map (fun b => Value.int IntKind.u8 (b.toNat : Int)) ({ data := #[67, 80, 76, 71] } : ByteArray).data ++ Builtin.zeroCells (Value.int IntKind.u8 0).cells (grownCap w 4 0 5 - 4)) = C at h
 have h1 : C.size = grownCap w 4 0 5 := by
  rw [← hC]
  simp [Builtin.zeroCells, Value.cells]
  omega
 have h2 : C.toList.take 4 = cellsB markL := by
  rw [← hC]
  simp [markL, cellsB]
 exact ⟨_, _, h, ⟨by simp [markL, cellsB], .inr ⟨w.heap.size, _, C, rfl, Nat.le_refl _, Blk.new w.drew _ _, hg, hm, by omega, h2⟩⟩, ((Fr.refl _ w).drew).alloc _⟩
set_option maxRecDepth 100000 in
theorem wpList_mark {rest : List Oper} {w : World} (hg : o.guard = none) (hop : o.op = Op.call { callee := Callee.builtin Builtin.append, args := #[.const (.slice none 0 0), .const (.string { data := #[67, 80, 76, 71] })], argTypes := #[46, 9] })
 (hK : ∀ v' w', w'.ownsRow w.heap.size 5 1 v' markL.length (cellsB markL) → Fr (fun _ => False) w w' → wpList Tryz.prog ops Q rest (a.put o.dst v') w') : wpList Tryz.prog ops Q (o :: rest) a w := by
 refine wpList_plain hg fun K hK' => ?_
 obtain ⟨c, w', hrun, h2, h3⟩ := run_mark w o.type
 unfold Oper.wp
 simp [execOp, hop, resolve, invoke, builtin, Act.eval, hrun, Result.andThen]
 exact hK' _ _ (hK _ w' h2 h3)
end

set_option maxRecDepth 100000 in
theorem own_low {w : World} {base e size n k : Nat} {v : Value} {xs : List Value} (h : w.ownsRow base e size v n xs) (hk : v.ownBlock = some k) : base ≤ k := by
 obtain ⟨-, h | ⟨b, c, cs, rfl, h1, -⟩⟩ := h
 · obtain ⟨rfl, -⟩ := h
   cases hk
 · injection hk with hk
   subst hk
   exact h1
set_option maxRecDepth 100000 in
set_option maxHeartbeats 1000000 in
theorem sector_any (w : World) (c s : Nat) (hc : c ≤ 18446744073709551615) (hs : s ≤ 18446744073709551615) : Calls Tryz.prog 76 #[hV c s] w fun e w' => e = .returned (av (hdS c s)) ∧ Fr (fun _ => False) w w' := by
 have HC := Lib.hid (And.intro hc hs)
 clear hc hs
 go_enter Tryz.func76, Tryz.ntmps76
 obtain ⟨W, hW, k0, k1, hsz, hfr⟩ := alloc2 w #[.int .u64 (c : Nat), .int .u64 (s : Nat)] (cellsB (nought 128)).toArray 114 83
 have HK := Lib.hid (And.intro k0 (And.intro k1 (And.intro hsz hfr)))
 clear k0 k1 hsz hfr
 go_wp2_with (first
  | (refine wpList_zero rfl 83 rfl zeroSector ?_)
  | (rw [← hW]; refine wpList_mark rfl rfl ?_; intro v1 w1 ho1 hf1; have H1 := Lib.hid (And.intro ho1 hf1); have b1 := (HK.out.1.keep hf1 (fun q => q)); have c0 := b1.cell 0; simp at c0; clear ho1 hf1 b1))
 refine (appnum_any H1.out.1 H1.out.2.size c 8 HC.out.1 (by omega) (by simp [markL])).mono ?_
 rintro e w2 ⟨v2, rfl, ho2, hf2, hb2⟩
 have g2 : Fr (fun _ => False) W w2 := H1.out.2.trans hf2 (fun i hi q => absurd (own_low H1.out.1 q) (by omega))
 have c1 := (HK.out.1.keep g2 (fun q => q)).cell 1
 simp at c1
 have H2 := Lib.hid (And.intro ho2 g2)
 clear ho2 hf2 hb2 g2 H1 c0
 go_wp2_with fail
 refine (appnum_any H2.out.1 H2.out.2.size s 8 HC.out.2 (by omega) (by simp [markL, be_len])).mono ?_
 rintro e w3 ⟨v3, rfl, ho3, hf3, hb3⟩
 have g3 : Fr (fun _ => False) W w3 := H2.out.2.trans hf3 (fun i hi q => absurd (own_low H2.out.1 q) (by omega))
 rw [List.append_assoc, show markL ++ (be c 8 ++ be s 8) = hd20 c s from rfl, hd20_len] at ho3
 have H3 := Lib.hid (And.intro ho3 g3)
 clear ho3 hf3 hb3 g3 H2 c1
 obtain ⟨A, cp, rfl, hcp1, hcp2⟩ := own_slice H3.out.1
 have hR := Rd.of_own H3.out.1
 obtain ⟨ad, rfl, hlt⟩ := hR.lt (by omega)
 obtain ⟨w6, hcp, t1, t2⟩ : ∃ w6, (∀ ty, (Builtin.copy_ #[46, 46] ty #[.slice (some ⟨w3.heap.size, 0, none⟩) 128 128, .slice (some ad) 20 cp]).run Tryz.prog (w3.alloc (.cells (cellsB (nought 128)).toArray 83)) = .ok (goInt 20) w6) ∧ Blk w6 w3.heap.size 83 (cellsB (hdS c s)).toArray ∧ Fr (fun _ => False) w3 w6 := by
  obtain ⟨W5, hW5, hb5, hf5⟩ : ∃ W5, W5 = w3.alloc (.cells (cellsB (nought 128)).toArray 83) ∧ Blk W5 w3.heap.size 83 (cellsB (nought 128)).toArray ∧ Fr (fun _ => False) w3 W5 := ⟨_, rfl, Blk.new w3 _ _, (Fr.refl _ _).alloc _⟩
  rw [← hW5]
  obtain ⟨ad', e, hc⟩ := (hR.keep hf5 (fun _ _ q => q)).cellsB (by omega)
  injection e with e
  subst e
  refine ⟨W5.setCells w3.heap.size 0 (cellsB (hd20 c s)), fun ty => ?_, ?_, Fr.setCells (.inr (Nat.le_refl _)) hf5⟩
  · have h := run_copy_cells (P := Tryz.prog) W5 46 46 ty 5 w3.heap.size 0 128 128 ad 20 cp (cellsB (hd20 c s)) Tryz.underlying46 (by kernel_rfl) (by rw [cellsB_len, hd20_len]; rfl)
     (fun j v hv => hc j v hv) (fun j hj => ((hb5.there (o := 0) (n := 20) (by simp [cellsB_len, nought_len])) j (by rw [cellsB_len, hd20_len] at hj; exact hj)).1) (fun j hj => ((hb5.there (o := 0) (n := 20) (by simp [cellsB_len, nought_len])) j (by rw [cellsB_len, hd20_len] at hj; exact hj)).2) (cellsB_one _)
    rw [cellsB_len, hd20_len] at h
    exact h
  · have t1 := Blk.over (w := W5) (o := 0) (m := hd20 c s) hb5 (by rw [nought_len, hd20_len]; omega)
    rw [hdS_is] at t1
    exact t1
 clear hcp1 hcp2 hlt hR
 have z3 : w.heap.size + 2 ≤ w3.heap.size := by have := HK.out.2.2.1; have := H3.out.2.size; omega
 have HR : Hid (w6.rangeAt w3.heap.size 0 (cellsB (hdS c s))) := Lib.hid (by
  have := t1.range 0 128
  rw [List.drop_zero, List.take_of_length_le (Nat.le_of_eq (hdS_len c s))] at this
  exact this)
 have H6 := Lib.hid (And.intro ((HK.out.2.2.2.trans H3.out.2 (fun _ _ q => q)).trans t2 (fun _ _ q => q)) ((HK.out.2.1.keep H3.out.2 (fun q => q)).keep t2 (fun q => q)))
 clear t1 t2
 obtain ⟨z, hz⟩ : ∃ z, z = hdS c s := ⟨_, rfl⟩
 have hzl : z.length = 128 := hz ▸ hdS_len c s
 rw [← hz] at HR
 go_wp2_with (first
  | (refine wpList_zero rfl 83 rfl zeroSector ?_)
  | (refine wpList_load_mid rfl 83 _ rfl w3.heap.size 0 rfl (cellsB z) _ HR.out Tryz.underlying83 rfl (by rw [infoSector, cellsB_len, hzl]) ?_)
  | (refine wpList_store_mid rfl 83 _ _ rfl (w.heap.size + 1) 0 (cellsB z).toArray rfl rfl (H6.out.2.there (by simp [cellsB_len, nought_len, hzl])) (by rw [infoSector]; simp [cellsB_len, hzl]) (all_oneCell_toArray (cellsB_one _)) ?_))
 refine bodyPost_ret (results_cell_row rfl _ _ (w.heap.size + 1) 83 (cellsB z).toArray (0, 0) _ rfl ?_ Tryz.underlying83 rfl (by rw [infoSector]; simp [cellsB_len, hzl])) rfl ?_
 · have := H6.out.2.over (o := 0) (m := z) (by rw [nought_len, hzl]; omega)
   rw [patch_all (by rw [nought_len, hzl])] at this
   exact this
 · exact ⟨by rw [hz], Fr.setCells (.inr (by omega)) H6.out.1⟩
end Go.Proofs.YtcnlgbjkjlbmbaaGreat

namespace Go.Proofs.YtcnlgbjkjlbmbaaGreat
open Go.RowKit

def cntOf (x : List UInt8) : Nat := numOf ((x.drop 4).take 8)
def sinOf (x : List UInt8) : Nat := numOf ((x.drop 12).take 8)
def isHd (x : List UInt8) : Bool := decide (1 ≤ sinOf x) && (decide (sinOf x ≤ cntOf x) && (decide (cntOf x ≤ 4611686018427387904) && decide (tornOf x (nought 128) = hdS (cntOf x) (sinOf x))))
def hdVal (x : List UInt8) : Value := if isHd x then hV (cntOf x) (sinOf x) else hV 0 0
set_option maxRecDepth 100000 in
theorem zc76 : Value.agg Tryz.zeroCells83 = av (nought 128) := by kernel_rfl
set_option maxRecDepth 100000 in
theorem infoHd2 : (Tryz.prog.info? 114).map (·.size) = some 2 := by kernel_rfl
set_option maxRecDepth 100000 in
theorem results_hd2 {fn : Func} {p q : Tmp} (h : fn.results = #[.cell p 114, .tmp q]) (tmps : Array Value) (w : World) (b : Nat) (c s : Nat) (v : Value) (hp : tmps.getD p undef = .pointer (some ⟨b, 0, none⟩)) (hq : tmps.getD q undef = v)
 (hb : Blk w b 114 #[.int .u64 (c : Nat), .int .u64 (s : Nat)]) : (results fn tmps).run Tryz.prog w = .ok (.tuple #[hV c s, v]) w := by
 have e := run_loadVar_row (P := Tryz.prog) w b 114 114 #[.int .u64 (c : Nat), .int .u64 (s : Nat)] (0, 0) _ hb Tryz.underlying114 rfl infoHd2
 have hp' : tmps[p]?.getD undef = .pointer (some ⟨b, 0, none⟩) := by simpa using hp
 have hq' : tmps[q]?.getD undef = v := by simpa using hq
 simp [results, h, hp', hq', asAddr, e]
set_option maxRecDepth 100000 in
theorem run_load_flat2 {o : Oper} {a : Act} {w : World} {b c s : Nat} (q : Blk w b 114 #[.int .u64 (c : Nat), .int .u64 (s : Nat)]) (ho : o.op = .load 114 (.tmp 7)) (hx : a.eval (.tmp 7) = .pointer (some ⟨b, 0, none⟩)) : (execOp a.eval o).run Tryz.prog w = .ok (.value (hV c s)) w := by
 have e := run_loadVar_row (P := Tryz.prog) w b 114 114 #[.int .u64 (c : Nat), .int .u64 (s : Nat)] (0, 0) _ q Tryz.underlying114 rfl infoHd2
 unfold execOp
 simp only [ho, hx, Instr.loadAt, Instr.sureAddr, Sem.run_bind, Sem.run_pure, Result.andThen_ok, e]
set_option maxRecDepth 100000 in
theorem wtake_is {w : World} {g : Nat} {A : Option Addr} {n c : Nat} {l l1 l' : List UInt8} (h : BoxR w g A n c l) (s : Nat) (hn : s ≤ n) (e : l.take s = l1 ∧ l.drop s = l') :
 Calls Tryz.prog 121 #[.int .i64 s, .pointer (some ⟨g, 0, none⟩)] w fun e w' => e = .returned (.slice A s s) ∧ Rd w' A s l1 ∧ (∃ A', BoxR w' g A' (n - s) (c - s) l' ∧ ∀ ad, A' = some ad → ∃ ad0, A = some ad0 ∧ ad.block = ad0.block) ∧ Fr (fun k => k = g) w w' := by
 have := wtake_any h s hn
 rw [e.1, e.2] at this
 exact this
set_option maxRecDepth 100000 in
theorem numberOf_is {w : World} {A : Option Addr} {n c N : Nat} {l : List UInt8} (hr : Rd w A n l) (hn : n ≤ 8) (e : numOf l = N) :
 Calls Tryz.prog 99 #[.slice A n c] w fun e w' => e = .returned (.int .u64 (N : Nat)) ∧ w = w' := e ▸ numberOf_any hr hn
set_option maxRecDepth 100000 in
theorem drop_drop' (x : List UInt8) (a b : Nat) : (x.drop a).drop b = x.drop (a + b) := by rw [List.drop_drop]
set_option maxRecDepth 100000 in
theorem num8_le (l : List UInt8) (h : l.length ≤ 8) : numOf l ≤ 18446744073709551615 := by
 have h1 := numOf_lt l
 have h2 : 256 ^ l.length ≤ 256 ^ 8 := Nat.pow_le_pow_right (by omega) h
 have h3 : (256 : Nat) ^ 8 = 18446744073709551616 := by decide
 omega

set_option maxRecDepth 100000 in
set_option maxHeartbeats 2000000 in
theorem whd_any (w : World) (x : List UInt8) (hx : x.length = 128) : Calls Tryz.prog 72 #[av x] w fun e w' => e = .returned (.tuple #[hdVal x, .bool (isHd x)]) ∧ Fr (fun _ => False) w w' := by
 obtain ⟨c, s, l0, l1, l2, l3, l4, q0, q1, q2, q3, q4, hE⟩ : ∃ c s l0 l1 l2 l3 l4, x.drop 4 = l0 ∧ (l0.take 8 = l1 ∧ l0.drop 8 = l2) ∧ (l2.take 8 = l3 ∧ l2.drop 8 = l4) ∧ numOf l1 = c ∧ numOf l3 = s ∧ (cntOf x = c ∧ sinOf x = s ∧ c ≤ 18446744073709551615 ∧ s ≤ 18446744073709551615) := by
  refine ⟨_, _, _, _, _, _, _, rfl, ⟨rfl, rfl⟩, ⟨rfl, rfl⟩, rfl, rfl, rfl, ?_, num8_le _ (by simp; omega), num8_le _ (by simp; omega)⟩
  unfold sinOf
  rw [drop_drop']
 have HX := Lib.hid hx
 have Q := Lib.hid (And.intro q0 (And.intro q1 (And.intro q2 (And.intro q3 (And.intro q4 hE)))))
 have HLE := Lib.hid hE.2.2
 clear hx q0 q1 q2 q3 q4 hE
 go_enter Tryz.func72, Tryz.ntmps72
 obtain ⟨W, hW, k0, k1, hsz, hfr⟩ := alloc2 w (cellsB x).toArray #[.int .u64 0, .int .u64 0] 83 114
 have HK := Lib.hid (And.intro k0 (And.intro k1 (And.intro hsz hfr)))
 clear k0 k1 hsz hfr
 go_wp2_with (first
  | (refine wpList_put rfl 83 _ rfl _ rfl ?_))
 rw [← hW]
 clear hW
 have HR : Hid (Rd W (some ⟨w.heap.size, 4, none⟩) 124 l0) := Lib.hid (by
  have h1 := HK.out.1.rd (by rw [HX.out]; omega)
  rw [HX.out] at h1
  have h2 := h1.drop (k := 4) (cap := 128) (by omega) (by omega)
  rw [Q.out.1] at h2
  simpa [Addr.add] using h2)
 refine (wtaker_any _ _ _ _).mono ?_
 rintro e w1 ⟨rfl, rfl⟩
 have hne : w.heap.size ≠ W.heap.size := by have := HK.out.2.2.1; omega
 have HB := Lib.hid (show BoxR (W.alloc (.cells #[.slice (some ⟨w.heap.size, 4, none⟩) 124 124] 46)) W.heap.size (some ⟨w.heap.size, 4, none⟩) 124 124 l0 from
  ⟨Blk.new W _ _, HR.out.keep (F := fun _ => False) ((Fr.refl _ W).alloc _) (fun _ _ q => q), Nat.le_refl _, (fun e => by cases e), fun ad e => by injection e with e; rw [← e]; exact hne⟩)
 go_wp2_with fail
 refine (wtake_is HB.out 8 (by omega) Q.out.2.1).mono ?_
 rintro e w2 ⟨rfl, hr2, ⟨A1, hb1, ha1⟩, hf1⟩
 have H1 := Lib.hid (And.intro hb1 (And.intro ha1 hf1))
 have HR2 := Lib.hid hr2
 clear hb1 ha1 hf1 hr2
 go_wp2_with fail
 refine (numberOf_is HR2.out (by omega) Q.out.2.2.2.1).mono ?_
 rintro e w2' ⟨rfl, rfl⟩
 go_wp2_with fail
 refine (wtake_is H1.out.1 8 (by omega) Q.out.2.2.1).mono ?_
 rintro e w3 ⟨rfl, hr3, ⟨A2, hb2, ha2⟩, hf2⟩
 have H2 := Lib.hid hf2
 have HR3 := Lib.hid hr3
 clear hb2 ha2 hf2 hr3
 go_wp2_with fail
 refine (numberOf_is HR3.out (by omega) Q.out.2.2.2.2.1).mono ?_
 rintro e w3' ⟨rfl, rfl⟩
 have HF3 : Hid (Fr (fun k => k = W.heap.size) W w3) := Lib.hid ((((Fr.refl (fun k => k = W.heap.size) W).alloc _).trans H1.out.2.2 (fun _ _ q => q)).trans H2.out (fun _ _ q => q))
 clear HB H1 H2 HR2 HR3 HR hne
 go_wp2_with fail
 have hb2 := (((HK.out.2.1.keep HF3.out (by have := HK.out.2.2.1; omega))).keep ((Fr.refl (fun _ => False) w3).alloc (.cells #[.int .u64 (c : Nat), .int .u64 (s : Nat)] 114)) (fun q => q))
 have hb1 := (((HK.out.1.keep HF3.out (by have := HK.out.2.2.1; omega))).keep ((Fr.refl (fun _ => False) w3).alloc (.cells #[.int .u64 (c : Nat), .int .u64 (s : Nat)] 114)) (fun q => q))
 have hb7 := Blk.new w3 114 #[.int .u64 (c : Nat), .int .u64 (s : Nat)]
 have hf6 : Fr (fun _ => False) w (w3.alloc (.cells #[.int .u64 (c : Nat), .int .u64 (s : Nat)] 114)) := (HK.out.2.2.2.trans HF3.out (fun i hi q => by have := HK.out.2.2.1; omega)).alloc _
 have hz3 : w.heap.size + 2 ≤ w3.heap.size := by have := HK.out.2.2.1; have := HF3.out.size; omega
 generalize w3.alloc (.cells #[.int .u64 (c : Nat), .int .u64 (s : Nat)] 114) = w6 at *
 generalize w3.heap.size = g7 at *
 have HB6 := Lib.hid (And.intro hb1 (And.intro hb2 hb7))
 have HF6 := Lib.hid hf6
 have HC : Hid (∀ w', Fr (fun _ => False) w6 w' → w'.rangeAt w.heap.size 0 (cellsB x) ∧ Blk w' g7 114 #[.int .u64 (c : Nat), .int .u64 (s : Nat)]) := Lib.hid fun w' f =>
  ⟨by have q := Blk.range (HB6.out.1.keep f (fun q => q)) 0 128; rwa [List.drop_zero, List.take_of_length_le (Nat.le_of_eq HX.out)] at q, HB6.out.2.2.keep f (fun q => q)⟩
 have hE := Q.out.2.2.2.2.2
 clear hb1 hb2 hb7 hf6 HK HF3
 by_cases hA : s < 1
 · have hA' : (s : Int) < 1 := by omega
   have HV : Hid (isHd x = false) := Lib.hid (by unfold isHd; rw [hE.2.1]; simp; omega)
   clear hE
   refine wp_region_held_drew (S := fun w' => Fr (fun _ => False) w6 w') (by kernel_rfl) ((Fr.refl _ _).drew) (fun hS0 => ?_)
   refine anyH_tk 0 19 (.int .u64 (s : Nat)) rfl rfl (.inl ⟨by rfl, fun w'' hS => by go_simp⟩) hS0 ?_
   (simp only [sA, sB, sC])
   refine anyH_tk 1 20 (.bool true) rfl rfl (.inl ⟨by rfl, fun w'' hS => by go_simp⟩) hS0 ?_
   (simp only [sA, sB, sC])
   refine anyH_tk 2 21 (.bool true) rfl rfl (.inl ⟨by rfl, fun w'' hS => by go_simp⟩) hS0 ?_
   (simp only [sA, sB, sC])
   refine anyH_tk 3 22 undef rfl rfl (.inr ⟨by rfl, rfl⟩) hS0 ?_
   (simp only [sA, sB, sC])
   refine anyH_tk 4 23 undef rfl rfl (.inr ⟨by rfl, rfl⟩) hS0 ?_
   (simp only [sA, sB, sC])
   refine anyH_tk 5 24 undef rfl rfl (.inr ⟨by rfl, rfl⟩) hS0 ?_
   (simp only [sA, sB, sC])
   refine anyH_tk 6 25 (.bool true) rfl rfl (.inl ⟨by rfl, fun w'' hS => by go_simp⟩) hS0 ?_
   (simp only [sA, sB, sC])
   refine anyH_tk 7 26 (.bool true) rfl rfl (.inl ⟨by rfl, fun w'' hS => by go_simp⟩) hS0 ?_
   (simp only [sA, sB, sC])
   refine anyH_tk 8 27 undef rfl rfl (.inr ⟨by rfl, rfl⟩) hS0 ?_
   (simp only [sA, sB, sC])
   refine anyH_tk 9 28 undef rfl rfl (.inr ⟨by rfl, rfl⟩) hS0 ?_
   (simp only [sA, sB, sC])
   refine anyH_tk 10 29 (.bool true) rfl rfl (.inl ⟨by rfl, fun w'' hS => by go_simp⟩) hS0 ?_
   (simp only [sA, sB, sC])
   refine anyH_tk 11 30 (.bool true) rfl rfl (.inl ⟨by rfl, fun w'' hS => by go_simp⟩) hS0 ?_
   (simp only [sA, sB, sC])
   refine anyH_tk 12 31 undef rfl rfl (.inr ⟨by rfl, rfl⟩) hS0 ?_
   (simp only [sA, sB, sC])
   refine anyH_tk 13 32 undef rfl rfl (.inr ⟨by rfl, rfl⟩) hS0 ?_
   (simp only [sA, sB, sC])
   refine anyH_tk 14 33 undef rfl rfl (.inr ⟨by rfl, rfl⟩) hS0 ?_
   (simp only [sA, sB, sC])
   refine anyH_tk 15 34 undef rfl rfl (.inr ⟨by rfl, rfl⟩) hS0 ?_
   (simp only [sA, sB, sC])
   refine anyH_tk 16 35 undef rfl rfl (.inr ⟨by rfl, rfl⟩) hS0 ?_
   (simp only [sA, sB, sC])
   refine anyH_tk 17 36 undef rfl rfl (.inr ⟨by rfl, rfl⟩) hS0 ?_
   (simp only [sA, sB, sC])
   refine anyH_tk 18 37 (.bool true) rfl rfl (.inl ⟨by rfl, fun w'' hS => by go_simp⟩) hS0 ?_
   (simp only [sA, sB, sC])
   refine wpAnyH_done (by kernel_rfl) ?_ _
   have g := HF6.out.trans hS0 (fun _ _ q => q)
   have b2 := HB6.out.2.1.keep hS0 (fun q => q)
   have b7 := HB6.out.2.2.keep hS0 (fun q => q)
   have H9 := Lib.hid (And.intro g (And.intro b2 b7))
   have c70 := b7.cell 0
   have c71 := b7.cell 1
   have e20 := b2.cell 0
   have e21 := b2.cell 1
   have f20 := b2.frozen 0
   have f21 := b2.frozen 1
   simp at c70 c71 e20 e21
   try simp at f20 f21
   clear g b2 b7 hS0
   go_wp2_with fail
   refine bodyPost_ret (results_hd2 rfl _ _ (w.heap.size + 1) 0 0 (.bool false) rfl rfl ?_) rfl ?_
   · exact (H9.out.2.1.set_ 0 (.int .u64 (0 : Nat))).set_ 1 (.int .u64 (0 : Nat))
   · exact ⟨by simp only [hdVal, HV.out, Bool.false_eq_true, if_false], (H9.out.1.setCell (p := ⟨w.heap.size + 1, 0, none⟩) (.inr (Nat.le_succ _)) _).setCell (p := ⟨w.heap.size + 1, 1, none⟩) (.inr (Nat.le_succ _)) _⟩
 by_cases hB : c < s
 · have hA' : ¬ (s : Int) < 1 := by omega
   have hB' : (c : Int) < (s : Int) := by omega
   have HV : Hid (isHd x = false) := Lib.hid (by unfold isHd; rw [hE.2.1, hE.1]; simp; omega)
   clear hE
   refine wp_region_held_drew (S := fun w' => Fr (fun _ => False) w6 w') (by kernel_rfl) ((Fr.refl _ _).drew) (fun hS0 => ?_)
   refine anyH_tk 0 19 (.int .u64 (s : Nat)) rfl rfl (.inl ⟨by rfl, fun w'' hS => by go_simp⟩) hS0 ?_
   (simp only [sA, sB, sC])
   refine anyH_tk 1 20 (.bool false) rfl rfl (.inl ⟨by rfl, fun w'' hS => by go_simp⟩) hS0 ?_
   (simp only [sA, sB, sC])
   refine anyH_tk 2 21 (.bool false) rfl rfl (.inl ⟨by rfl, fun w'' hS => by go_simp⟩) hS0 ?_
   (simp only [sA, sB, sC])
   refine anyH_tk 3 22 (.int .u64 (s : Nat)) rfl rfl (.inl ⟨by rfl, fun w'' hS => by go_simp⟩) hS0 ?_
   (simp only [sA, sB, sC])
   refine anyH_tk 4 23 (.int .u64 (c : Nat)) rfl rfl (.inl ⟨by rfl, fun w'' hS => by go_simp⟩) hS0 ?_
   (simp only [sA, sB, sC])
   refine anyH_tk 5 24 (.bool true) rfl rfl (.inl ⟨by rfl, fun w'' hS => by go_simp⟩) hS0 ?_
   (simp only [sA, sB, sC])
   refine anyH_tk 6 25 (.bool true) rfl rfl (.inl ⟨by rfl, fun w'' hS => by go_simp⟩) hS0 ?_
   (simp only [sA, sB, sC])
   refine anyH_tk 7 26 (.bool true) rfl rfl (.inl ⟨by rfl, fun w'' hS => by go_simp⟩) hS0 ?_
   (simp only [sA, sB, sC])
   refine anyH_tk 8 27 undef rfl rfl (.inr ⟨by rfl, rfl⟩) hS0 ?_
   (simp only [sA, sB, sC])
   refine anyH_tk 9 28 undef rfl rfl (.inr ⟨by rfl, rfl⟩) hS0 ?_
   (simp only [sA, sB, sC])
   refine anyH_tk 10 29 (.bool true) rfl rfl (.inl ⟨by rfl, fun w'' hS => by go_simp⟩) hS0 ?_
   (simp only [sA, sB, sC])
   refine anyH_tk 11 30 (.bool true) rfl rfl (.inl ⟨by rfl, fun w'' hS => by go_simp⟩) hS0 ?_
   (simp only [sA, sB, sC])
   refine anyH_tk 12 31 undef rfl rfl (.inr ⟨by rfl, rfl⟩) hS0 ?_
   (simp only [sA, sB, sC])
   refine anyH_tk 13 32 undef rfl rfl (.inr ⟨by rfl, rfl⟩) hS0 ?_
   (simp only [sA, sB, sC])
   refine anyH_tk 14 33 undef rfl rfl (.inr ⟨by rfl, rfl⟩) hS0 ?_
   (simp only [sA, sB, sC])
   refine anyH_tk 15 34 undef rfl rfl (.inr ⟨by rfl, rfl⟩) hS0 ?_
   (simp only [sA, sB, sC])
   refine anyH_tk 16 35 undef rfl rfl (.inr ⟨by rfl, rfl⟩) hS0 ?_
   (simp only [sA, sB, sC])
   refine anyH_tk 17 36 undef rfl rfl (.inr ⟨by rfl, rfl⟩) hS0 ?_
   (simp only [sA, sB, sC])
   refine anyH_tk 18 37 (.bool true) rfl rfl (.inl ⟨by rfl, fun w'' hS => by go_simp⟩) hS0 ?_
   (simp only [sA, sB, sC])
   refine wpAnyH_done (by kernel_rfl) ?_ _
   have g := HF6.out.trans hS0 (fun _ _ q => q)
   have b2 := HB6.out.2.1.keep hS0 (fun q => q)
   have b7 := HB6.out.2.2.keep hS0 (fun q => q)
   have H9 := Lib.hid (And.intro g (And.intro b2 b7))
   have c70 := b7.cell 0
   have c71 := b7.cell 1
   have e20 := b2.cell 0
   have e21 := b2.cell 1
   have f20 := b2.frozen 0
   have f21 := b2.frozen 1
   simp at c70 c71 e20 e21
   try simp at f20 f21
   clear g b2 b7 hS0
   go_wp2_with fail
   refine bodyPost_ret (results_hd2 rfl _ _ (w.heap.size + 1) 0 0 (.bool false) rfl rfl ?_) rfl ?_
   · exact (H9.out.2.1.set_ 0 (.int .u64 (0 : Nat))).set_ 1 (.int .u64 (0 : Nat))
   · exact ⟨by simp only [hdVal, HV.out, Bool.false_eq_true, if_false], (H9.out.1.setCell (p := ⟨w.heap.size + 1, 0, none⟩) (.inr (Nat.le_succ _)) _).setCell (p := ⟨w.heap.size + 1, 1, none⟩) (.inr (Nat.le_succ _)) _⟩
 by_cases hC : 4611686018427387904 < c
 · have hA' : ¬ (s : Int) < 1 := by omega
   have hB' : ¬ (c : Int) < (s : Int) := by omega
   have hC' : 4611686018427387904 < (c : Int) := by omega
   have HV : Hid (isHd x = false) := Lib.hid (by unfold isHd; rw [hE.2.1, hE.1]; simp; omega)
   clear hE
   refine wp_region_held_drew (S := fun w' => Fr (fun _ => False) w6 w') (by kernel_rfl) ((Fr.refl _ _).drew) (fun hS0 => ?_)
   refine anyH_tk 0 19 (.int .u64 (s : Nat)) rfl rfl (.inl ⟨by rfl, fun w'' hS => by go_simp⟩) hS0 ?_
   (simp only [sA, sB, sC])
   refine anyH_tk 1 20 (.bool false) rfl rfl (.inl ⟨by rfl, fun w'' hS => by go_simp⟩) hS0 ?_
   (simp only [sA, sB, sC])
   refine anyH_tk 2 21 (.bool false) rfl rfl (.inl ⟨by rfl, fun w'' hS => by go_simp⟩) hS0 ?_
   (simp only [sA, sB, sC])
   refine anyH_tk 3 22 (.int .u64 (s : Nat)) rfl rfl (.inl ⟨by rfl, fun w'' hS => by go_simp⟩) hS0 ?_
   (simp only [sA, sB, sC])
   refine anyH_tk 4 23 (.int .u64 (c : Nat)) rfl rfl (.inl ⟨by rfl, fun w'' hS => by go_simp⟩) hS0 ?_
   (simp only [sA, sB, sC])
   refine anyH_tk 5 24 (.bool false) rfl rfl (.inl ⟨by rfl, fun w'' hS => by go_simp⟩) hS0 ?_
   (simp only [sA, sB, sC])
   refine anyH_tk 6 25 (.bool false) rfl rfl (.inl ⟨by rfl, fun w'' hS => by go_simp⟩) hS0 ?_
   (simp only [sA, sB, sC])
   refine anyH_tk 7 26 (.bool false) rfl rfl (.inl ⟨by rfl, fun w'' hS => by go_simp⟩) hS0 ?_
   (simp only [sA, sB, sC])
   refine anyH_tk 8 27 (.int .u64 (c : Nat)) rfl rfl (.inl ⟨by rfl, fun w'' hS => by go_simp⟩) hS0 ?_
   (simp only [sA, sB, sC])
   refine anyH_tk 9 28 (.bool true) rfl rfl (.inl ⟨by rfl, fun w'' hS => by go_simp⟩) hS0 ?_
   (simp only [sA, sB, sC])
   refine anyH_tk 10 29 (.bool true) rfl rfl (.inl ⟨by rfl, fun w'' hS => by go_simp⟩) hS0 ?_
   (simp only [sA, sB, sC])
   refine anyH_tk 11 30 (.bool true) rfl rfl (.inl ⟨by rfl, fun w'' hS => by go_simp⟩) hS0 ?_
   (simp only [sA, sB, sC])
   refine anyH_tk 12 31 undef rfl rfl (.inr ⟨by rfl, rfl⟩) hS0 ?_
   (simp only [sA, sB, sC])
   refine anyH_tk 13 32 undef rfl rfl (.inr ⟨by rfl, rfl⟩) hS0 ?_
   (simp only [sA, sB, sC])
   refine anyH_tk 14 33 undef rfl rfl (.inr ⟨by rfl, rfl⟩) hS0 ?_
   (simp only [sA, sB, sC])
   refine anyH_tk 15 34 undef rfl rfl (.inr ⟨by rfl, rfl⟩) hS0 ?_
   (simp only [sA, sB, sC])
   refine anyH_tk 16 35 undef rfl rfl (.inr ⟨by rfl, rfl⟩) hS0 ?_
   (simp only [sA, sB, sC])
   refine anyH_tk 17 36 undef rfl rfl (.inr ⟨by rfl, rfl⟩) hS0 ?_
   (simp only [sA, sB, sC])
   refine anyH_tk 18 37 (.bool true) rfl rfl (.inl ⟨by rfl, fun w'' hS => by go_simp⟩) hS0 ?_
   (simp only [sA, sB, sC])
   refine wpAnyH_done (by kernel_rfl) ?_ _
   have g := HF6.out.trans hS0 (fun _ _ q => q)
   have b2 := HB6.out.2.1.keep hS0 (fun q => q)
   have b7 := HB6.out.2.2.keep hS0 (fun q => q)
   have H9 := Lib.hid (And.intro g (And.intro b2 b7))
   have c70 := b7.cell 0
   have c71 := b7.cell 1
   have e20 := b2.cell 0
   have e21 := b2.cell 1
   have f20 := b2.frozen 0
   have f21 := b2.frozen 1
   simp at c70 c71 e20 e21
   try simp at f20 f21
   clear g b2 b7 hS0
   go_wp2_with fail
   refine bodyPost_ret (results_hd2 rfl _ _ (w.heap.size + 1) 0 0 (.bool false) rfl rfl ?_) rfl ?_
   · exact (H9.out.2.1.set_ 0 (.int .u64 (0 : Nat))).set_ 1 (.int .u64 (0 : Nat))
   · exact ⟨by simp only [hdVal, HV.out, Bool.false_eq_true, if_false], (H9.out.1.setCell (p := ⟨w.heap.size + 1, 0, none⟩) (.inr (Nat.le_succ _)) _).setCell (p := ⟨w.heap.size + 1, 1, none⟩) (.inr (Nat.le_succ _)) _⟩
 have hA' : ¬ (s : Int) < 1 := by omega
 have hB' : ¬ (c : Int) < (s : Int) := by omega
 have hC' : ¬ 4611686018427387904 < (c : Int) := by omega
 have hu := Tryz.underlying83
 have hszs : (Tryz.prog.info? 83).map (·.size) = some (cellsB x).length := by rw [infoSector, cellsB_len, HX.out]
 obtain ⟨bb, hbb⟩ : ∃ bb : Bool, bb = !decide (tornOf x (nought 128) = hdS c s) := ⟨_, rfl⟩
 have hneq : ∀ w, (binOp .neq 83 (.agg (cellsB (tornOf x (nought 128))).toArray) (.agg (cellsB (hdS c s)).toArray)).run Tryz.prog w = .ok (.bool bb) w := fun w => by
  have := sec_neq (tornOf x (nought 128)) (hdS c s) (by simp [tornOf, HX.out, nought_len]) (hdS_len c s) w
  rw [hbb]
  exact this
 have HV : Hid (isHd x = !bb) := Lib.hid (by
  unfold isHd
  rw [hE.2.1, hE.1, hbb, decide_eq_true (by omega : 1 ≤ s), decide_eq_true (by omega : s ≤ c), decide_eq_true (by omega : c ≤ 4611686018427387904)]
  simp)
 have HCE := Lib.hid (And.intro hE.1 hE.2.1)
 clear hE hbb
 refine wp_region_held_drew (S := fun w' => Fr (fun _ => False) w6 w') (by kernel_rfl) ((Fr.refl _ _).drew) (fun hS0 => ?_)
 refine anyH_tk 0 19 (.int .u64 (s : Nat)) rfl rfl (.inl ⟨by rfl, fun w'' hS => by go_simp⟩) hS0 ?_
 (simp only [sA, sB, sC])
 refine anyH_tk 1 20 (.bool false) rfl rfl (.inl ⟨by rfl, fun w'' hS => by go_simp⟩) hS0 ?_
 (simp only [sA, sB, sC])
 refine anyH_tk 2 21 (.bool false) rfl rfl (.inl ⟨by rfl, fun w'' hS => by go_simp⟩) hS0 ?_
 (simp only [sA, sB, sC])
 refine anyH_tk 3 22 (.int .u64 (s : Nat)) rfl rfl (.inl ⟨by rfl, fun w'' hS => by go_simp⟩) hS0 ?_
 (simp only [sA, sB, sC])
 refine anyH_tk 4 23 (.int .u64 (c : Nat)) rfl rfl (.inl ⟨by rfl, fun w'' hS => by go_simp⟩) hS0 ?_
 (simp only [sA, sB, sC])
 refine anyH_tk 5 24 (.bool false) rfl rfl (.inl ⟨by rfl, fun w'' hS => by go_simp⟩) hS0 ?_
 (simp only [sA, sB, sC])
 refine anyH_tk 6 25 (.bool false) rfl rfl (.inl ⟨by rfl, fun w'' hS => by go_simp⟩) hS0 ?_
 (simp only [sA, sB, sC])
 refine anyH_tk 7 26 (.bool false) rfl rfl (.inl ⟨by rfl, fun w'' hS => by go_simp⟩) hS0 ?_
 (simp only [sA, sB, sC])
 refine anyH_tk 8 27 (.int .u64 (c : Nat)) rfl rfl (.inl ⟨by rfl, fun w'' hS => by go_simp⟩) hS0 ?_
 (simp only [sA, sB, sC])
 refine anyH_tk 9 28 (.bool false) rfl rfl (.inl ⟨by rfl, fun w'' hS => by go_simp⟩) hS0 ?_
 (simp only [sA, sB, sC])
 refine anyH_tk 10 29 (.bool false) rfl rfl (.inl ⟨by rfl, fun w'' hS => by go_simp⟩) hS0 ?_
 (simp only [sA, sB, sC])
 refine anyH_tk 11 30 (.bool false) rfl rfl (.inl ⟨by rfl, fun w'' hS => by go_simp⟩) hS0 ?_
 (simp only [sA, sB, sC])
 refine anyH_tk 12 31 (.agg (cellsB x).toArray) rfl rfl (yieldsIf_load_mid (by rfl) _ _ rfl _ _ rfl _ _ (fun w' f => (HC.out w' f).1) hu rfl hszs) hS0 ?_
 (simp only [sA, sB, sC])
 refine anyH_tk 13 32 (av (nought 128)) rfl rfl (.inl ⟨by rfl, fun w'' hS => by have q := build_sector w''; go_simp; exact congrArg Value.cells zc76⟩) hS0 ?_
 (simp only [sA, sB, sC])
 refine anyH_tk 15 34 (hV c s) rfl rfl (.inl ⟨by rfl, fun w'' hS => by have q := (HC.out w'' hS).2; exact run_load_flat2 q rfl rfl⟩) hS0 ?_
 (simp only [sA, sB, sC])
 refine anyH_one 14 33 (av (tornOf x (nought 128))) (by kernel_rfl) (tame_call 33 rfl rfl (by rfl) (fun w'' hS => by go_simp) (fun w'' hS => ((torn_any w'' x (nought 128) HX.out (nought_len _)).mono fun e w3 he => ⟨he.1, hS.trans he.2 (fun _ _ q => q)⟩))) hS0 (fun w7 hS0 => ?_)
 (simp only [sA, sB, sC])
 refine anyH_one 16 35 (av (hdS c s)) (by kernel_rfl) (tame_call 35 rfl rfl (by rfl) (fun w'' hS => by go_simp) (fun w'' hS => ((sector_any w'' c s HLE.out.1 HLE.out.2).mono fun e w3 he => ⟨he.1, hS.trans he.2 (fun _ _ q => q)⟩))) hS0 (fun w8 hS0 => ?_)
 (simp only [sA, sB, sC])
 refine anyH_tk 17 36 (.bool bb) rfl rfl (.inl ⟨by rfl, fun w'' hS => by go_simp⟩) hS0 ?_
 (simp only [sA, sB, sC])
 refine anyH_tk 18 37 (.bool bb) rfl rfl (.inl ⟨by rfl, fun w'' hS => by go_simp⟩) hS0 ?_
 (simp only [sA, sB, sC])
 refine wpAnyH_done (by kernel_rfl) ?_ _
 clear hu hszs hneq HC
 cases bb with
 | true =>
   have g := HF6.out.trans hS0 (fun _ _ q => q)
   have b2 := HB6.out.2.1.keep hS0 (fun q => q)
   have b7 := HB6.out.2.2.keep hS0 (fun q => q)
   have H9 := Lib.hid (And.intro g (And.intro b2 b7))
   have c70 := b7.cell 0
   have c71 := b7.cell 1
   have e20 := b2.cell 0
   have e21 := b2.cell 1
   have f20 := b2.frozen 0
   have f21 := b2.frozen 1
   simp at c70 c71 e20 e21
   try simp at f20 f21
   clear g b2 b7 hS0
   go_wp2_with fail
   refine bodyPost_ret (results_hd2 rfl _ _ (w.heap.size + 1) 0 0 (.bool false) rfl rfl ?_) rfl ?_
   · exact (H9.out.2.1.set_ 0 (.int .u64 (0 : Nat))).set_ 1 (.int .u64 (0 : Nat))
   · exact ⟨by simp only [hdVal, HV.out, Bool.not_true, Bool.false_eq_true, if_false], (H9.out.1.setCell (p := ⟨w.heap.size + 1, 0, none⟩) (.inr (Nat.le_succ _)) _).setCell (p := ⟨w.heap.size + 1, 1, none⟩) (.inr (Nat.le_succ _)) _⟩
 | false =>
   have g := HF6.out.trans hS0 (fun _ _ q => q)
   have b2 := HB6.out.2.1.keep hS0 (fun q => q)
   have b7 := HB6.out.2.2.keep hS0 (fun q => q)
   have H9 := Lib.hid (And.intro g (And.intro b2 b7))
   have c70 := b7.cell 0
   have c71 := b7.cell 1
   have e20 := b2.cell 0
   have e21 := b2.cell 1
   have f20 := b2.frozen 0
   have f21 := b2.frozen 1
   simp at c70 c71 e20 e21
   try simp at f20 f21
   clear g b2 b7 hS0
   go_wp2_with fail
   refine bodyPost_ret (results_hd2 rfl _ _ (w.heap.size + 1) c s (.bool true) rfl rfl ?_) rfl ?_
   · exact (H9.out.2.1.set_ 0 (.int .u64 (c : Nat))).set_ 1 (.int .u64 (s : Nat))
   · exact ⟨by simp only [hdVal, HV.out, HCE.out.1, HCE.out.2, Bool.not_false, if_true], (H9.out.1.setCell (p := ⟨w.heap.size + 1, 0, none⟩) (.inr (Nat.le_succ _)) _).setCell (p := ⟨w.heap.size + 1, 1, none⟩) (.inr (Nat.le_succ _)) _⟩
end Go.Proofs.YtcnlgbjkjlbmbaaGreat

namespace Go.Proofs.YtcnlgbjkjlbmbaaGreat
open Go.RowKit

abbrev maxC : Nat := 4611686018427387904
set_option maxRecDepth 100000 in
set_option maxHeartbeats 1000000 in
theorem next_any (w : World) (c s : Nat) (hc : c < maxC) (hs : s ≤ maxC) : Calls Tryz.prog 73 #[hV c s] w fun e w' => e = .returned (.tuple #[hV (c + 1) s, .int .i64 0]) ∧ Fr (fun _ => False) w w' := by
 have hne : ¬ ((c : Int) = 4611686018427387904) := by unfold maxC at hc; omega
 have HC := Lib.hid (And.intro hc hs)
 clear hc hs
 go_enter Tryz.func73, Tryz.ntmps73
 obtain ⟨W, hW, k0, k1, hsz, hfr⟩ := alloc2 w #[.int .u64 (c : Nat), .int .u64 (s : Nat)] #[.int .u64 0, .int .u64 0] 114 114
 have c0 := k0.cell 0
 have c1 := k0.cell 1
 have d0 := k1.cell 0
 have d1 := k1.cell 1
 have f0 := k1.frozen 0
 have f1 := k1.frozen 1
 simp at c0 c1 d0 d1
 have HK := Lib.hid (And.intro k0 (And.intro k1 (And.intro hsz hfr)))
 clear k0 k1 hsz hfr
 have hov : ((c : Int) + 1) % 18446744073709551616 = ((c + 1 : Nat) : Int) := by have := HC.out.1; unfold maxC at this; omega
 rw [hW] at c0 c1 d0 d1 f0 f1
 go_wp2_with fail
 refine bodyPost_ret (results_hd2 rfl _ _ (w.heap.size + 1) (c + 1) s (.int .i64 0) rfl rfl ?_) rfl ?_
 · have := Blk.new (w.alloc (.cells #[.int .u64 (c : Nat), .int .u64 (s : Nat)] 114)) 114 #[.int .u64 ((c + 1) : Nat), .int .u64 (s : Nat)]
   simpa using this
 · exact ⟨rfl, ((Fr.refl _ w).alloc _).alloc _⟩
set_option maxRecDepth 100000 in
set_option maxHeartbeats 1000000 in
theorem next_full (w : World) (s : Nat) : Calls Tryz.prog 73 #[hV maxC s] w fun e w' => e = .returned (.tuple #[hV 0 0, .int .i64 8]) ∧ Fr (fun _ => False) w w' := by
 obtain ⟨c, hc⟩ : ∃ c : Nat, c = maxC := ⟨_, rfl⟩
 rw [← hc]
 have hne : (c : Int) = 4611686018427387904 := by rw [hc]; rfl
 clear hc
 go_enter Tryz.func73, Tryz.ntmps73
 obtain ⟨W, hW, k0, k1, hsz, hfr⟩ := alloc2 w #[.int .u64 (c : Nat), .int .u64 (s : Nat)] #[.int .u64 0, .int .u64 0] 114 114
 have c0 := k0.cell 0
 have c1 := k0.cell 1
 have d0 := k1.cell 0
 have d1 := k1.cell 1
 have f0 := k1.frozen 0
 have f1 := k1.frozen 1
 simp at c0 c1 d0 d1
 have HK := Lib.hid (And.intro k0 (And.intro k1 (And.intro hsz hfr)))
 clear k0 k1 hsz hfr
 rw [hW] at c0 c1 d0 d1 f0 f1
 go_wp2_with fail
 refine bodyPost_ret (results_hd2 rfl _ _ (w.heap.size + 1) 0 0 (.int .i64 8) rfl rfl ?_) rfl ?_
 · have := Blk.new (w.alloc (.cells #[.int .u64 (c : Nat), .int .u64 (s : Nat)] 114)) 114 #[.int .u64 (0 : Nat), .int .u64 (0 : Nat)]
   rw [← hne]
   simpa using this
 · exact ⟨rfl, ((Fr.refl _ w).alloc _).alloc _⟩
set_option maxRecDepth 100000 in
set_option maxHeartbeats 1000000 in
theorem trunc_any (w : World) (c s : Nat) (hc : c < maxC) (hs : s ≤ maxC) : Calls Tryz.prog 106 #[hV c s] w fun e w' => e = .returned (.tuple #[hV (c + 1) (c + 1), .int .i64 0]) ∧ Fr (fun _ => False) w w' := by
 have HC := Lib.hid (And.intro hc hs)
 clear hc hs
 go_enter Tryz.func106, Tryz.ntmps106
 obtain ⟨W, hW, k0, k1, hsz, hfr⟩ := alloc2 w #[.int .u64 (c : Nat), .int .u64 (s : Nat)] #[.int .u64 0, .int .u64 0] 114 114
 have c0 := k0.cell 0
 have c1 := k0.cell 1
 have d0 := k1.cell 0
 have d1 := k1.cell 1
 have f0 := k1.frozen 0
 have f1 := k1.frozen 1
 simp at c0 c1 d0 d1
 have HK := Lib.hid (And.intro k0 (And.intro k1 (And.intro hsz hfr)))
 clear k0 k1 hsz hfr
 have HC0 : Hid (∀ w1, Calls Tryz.prog 73 #[hV c s] w1 fun e w' => e = .returned (.tuple #[hV (c + 1) s, .int .i64 0]) ∧ Fr (fun _ => False) w1 w') := Lib.hid fun w1 => next_any w1 c s HC.out.1 HC.out.2
 rw [hW] at c0 c1 d0 d1 f0 f1
 go_wp2_with fail
 refine (HC0.out _).mono ?_
 rintro e w2 ⟨rfl, hf2⟩
 rw [← hW] at hf2
 have m1 := HK.out.2.1.keep hf2 (fun q => q)
 have hz2 : w.heap.size + 2 ≤ w2.heap.size := by have := HK.out.2.2.1; have := hf2.size; omega
 have H2 := Lib.hid (And.intro m1 (HK.out.2.2.2.trans hf2 (fun _ _ q => q)))
 have m2 := m1.keep ((Fr.refl (fun _ => False) w2).alloc (.cells #[.int .u64 ((c : Int) + 1), .int .u64 ((c : Int) + 1)] 114)) (fun q => q)
 have e0 := m2.cell 0
 have e1 := m2.cell 1
 have u0 := m2.frozen 0
 have u1 := m2.frozen 1
 simp at e0 e1
 clear m2
 clear m1 hf2 c0 c1 d0 d1 f0 f1
 go_wp2_with fail
 refine bodyPost_ret (results_hd2 rfl _ _ (w.heap.size + 1) (c + 1) (c + 1) (.int .i64 0) rfl rfl ?_) rfl ?_
 · have q := ((H2.out.1.keep ((Fr.refl (fun _ => False) w2).alloc (.cells #[.int .u64 ((c : Int) + 1), .int .u64 ((c : Int) + 1)] 114)) (fun q => q)).set_ 0 (.int .u64 ((c + 1) : Nat))).set_ 1 (.int .u64 ((c + 1) : Nat))
   simpa using q
 · exact ⟨rfl, (((H2.out.2.alloc _).setCell (p := ⟨w.heap.size + 1, 0, none⟩) (.inr (Nat.le_succ _)) _).setCell (p := ⟨w.heap.size + 1, 1, none⟩) (.inr (Nat.le_succ _)) _)⟩
set_option maxRecDepth 100000 in
set_option maxHeartbeats 1000000 in
theorem trunc_full (w : World) (c s : Nat) (hc : c = maxC) : Calls Tryz.prog 106 #[hV c s] w fun e w' => e = .returned (.tuple #[hV 0 0, .int .i64 8]) ∧ Fr (fun _ => False) w w' := by
 have HCE := Lib.hid hc
 clear hc
 go_enter Tryz.func106, Tryz.ntmps106
 obtain ⟨W, hW, k0, k1, hsz, hfr⟩ := alloc2 w #[.int .u64 (c : Nat), .int .u64 (s : Nat)] #[.int .u64 0, .int .u64 0] 114 114
 have c0 := k0.cell 0
 have c1 := k0.cell 1
 have d0 := k1.cell 0
 have d1 := k1.cell 1
 have f0 := k1.frozen 0
 have f1 := k1.frozen 1
 simp at c0 c1 d0 d1
 have HK := Lib.hid (And.intro k0 (And.intro k1 (And.intro hsz hfr)))
 clear k0 k1 hsz hfr
 have HC0 : Hid (∀ w1, Calls Tryz.prog 73 #[hV c s] w1 fun e w' => e = .returned (.tuple #[hV 0 0, .int .i64 8]) ∧ Fr (fun _ => False) w1 w') := Lib.hid fun w1 => (by rw [HCE.out]; exact next_full w1 s)
 rw [hW] at c0 c1 d0 d1 f0 f1
 go_wp2_with fail
 refine (HC0.out _).mono ?_
 rintro e w2 ⟨rfl, hf2⟩
 rw [← hW] at hf2
 have m1 := HK.out.2.1.keep hf2 (fun q => q)
 have hz2 : w.heap.size + 2 ≤ w2.heap.size := by have := HK.out.2.2.1; have := hf2.size; omega
 have H2 := Lib.hid (And.intro m1 (HK.out.2.2.2.trans hf2 (fun _ _ q => q)))
 have m2 := m1.keep ((Fr.refl (fun _ => False) w2).alloc (.cells #[.int .u64 0, .int .u64 0] 114)) (fun q => q)
 have e0 := m2.cell 0
 have e1 := m2.cell 1
 have u0 := m2.frozen 0
 have u1 := m2.frozen 1
 simp at e0 e1
 clear m2
 clear m1 hf2 c0 c1 d0 d1 f0 f1
 go_wp2_with fail
 refine bodyPost_ret (results_hd2 rfl _ _ (w.heap.size + 1) 0 0 (.int .i64 8) rfl rfl ?_) rfl ?_
 · have q := ((H2.out.1.keep ((Fr.refl (fun _ => False) w2).alloc (.cells #[.int .u64 0, .int .u64 0] 114)) (fun q => q)).set_ 0 (.int .u64 (0 : Nat))).set_ 1 (.int .u64 (0 : Nat))
   simpa using q
 · exact ⟨rfl, (((H2.out.2.alloc _).setCell (p := ⟨w.heap.size + 1, 0, none⟩) (.inr (Nat.le_succ _)) _).setCell (p := ⟨w.heap.size + 1, 1, none⟩) (.inr (Nat.le_succ _)) _)⟩
end Go.Proofs.YtcnlgbjkjlbmbaaGreat

namespace Go.Proofs.YtcnlgbjkjlbmbaaGreat
open Go.RowKit

def wneedN (n : Int) : Nat := if n < 1 ∨ 60 < n then 0 else needN (n * 516)
set_option maxRecDepth 100000 in
theorem wneed_any (w : World) (n : Int) : Calls Tryz.prog 52 #[.int .i64 n] w fun e w' => e = .returned (.int .i64 (wneedN n : Nat)) ∧ w = w' := by
 by_cases h0 : n < 1
 · have : wneedN n = 0 := by simp [wneedN, h0]
   rw [this]
   go_enter Tryz.func52, Tryz.ntmps52
   go_wp2_with fail
   go_ret
   exact ⟨rfl, rfl⟩
 by_cases h1 : 60 < n
 · have : wneedN n = 0 := by simp [wneedN, h1]
   rw [this]
   have h2 : n > 60 := h1
   go_enter Tryz.func52, Tryz.ntmps52
   go_wp2_with fail
   go_ret
   exact ⟨rfl, rfl⟩
 have hn : wneedN n = needN (n * 516) := by unfold wneedN; rw [if_neg (by omega)]
 have e1 : IntKind.i64.wrap (n * 516) = n * 516 := by simp [IntKind.wrap, IntKind.signed, IntKind.bits]; omega
 have h2 : ¬ n > 60 := by omega
 have HM := Lib.hid (need_any w (n * 516))
 rw [hn]
 generalize needN (n * 516) = m at *
 clear hn
 go_enter Tryz.func52, Tryz.ntmps52
 go_wp2_with fail
 (with_reducible refine HM.out.mono ?_)
 rintro e w1 ⟨rfl, rfl⟩
 go_wp2_with fail
 go_ret
 exact ⟨rfl, rfl⟩

def DS.lay (d : DS) (i : Nat) : List (List UInt8) → DS
 | [] => d
 | s :: ss => (d.write i s).lay (i + 1) ss
set_option maxRecDepth 100000 in
theorem lay_snoc (d : DS) (i : Nat) (ss : List (List UInt8)) (s : List UInt8) : d.lay i (ss ++ [s]) = (d.lay i ss).write (i + ss.length) s := by
 induction ss generalizing d i with
 | nil => rfl
 | cons t ts ih =>
   show (d.write i t).lay (i + 1) (ts ++ [s]) = _
   rw [ih]
   show _ = DS.write _ (i + (ts.length + 1)) s
   rw [show i + (ts.length + 1) = i + 1 + ts.length by omega]
   rfl
set_option maxRecDepth 100000 in
theorem lay_len (d : DS) (i : Nat) (ss : List (List UInt8)) : (d.lay i ss).rd.length = d.rd.length := by
 induction ss generalizing d i with
 | nil => rfl
 | cons t ts ih => exact (ih _ _).trans write_len
set_option maxRecDepth 100000 in
theorem write_vs {d : DS} {i j : Nat} {s : List UInt8} (h : j ≠ i) : (d.write i s).vs j = d.vs j := by
 unfold DS.write
 split <;> simp [DS.put, DS.step, h]
set_option maxRecDepth 100000 in
theorem lay_vs (d : DS) (i : Nat) (ss : List (List UInt8)) {j : Nat} (h : i + ss.length ≤ j) : (d.lay i ss).vs j = d.vs j := by
 induction ss generalizing d i with
 | nil => rfl
 | cons t ts ih =>
   simp at h
   exact (ih _ _ (by omega)).trans (write_vs (by omega))
set_option maxRecDepth 100000 in
theorem alive_step {d : DS} (h : d.alive = false) : d.step.alive = false ∧ d.step.step = d.step := by
 have hd : deadS d.fu d.lf d.dd = true := by simpa [DS.alive] using h
 have hd0 : d.step.dd = true := hd
 have h1 : deadS d.step.fu d.step.lf d.step.dd = true := by rw [hd0]; simp [deadS]
 refine ⟨by simp [DS.alive, h1], ?_⟩
 have h2 : d.step.dd = true := hd0
 have h3 : d.step.step = { d.step with lf := leftS d.step.fu d.step.lf d.step.dd, dd := deadS d.step.fu d.step.lf d.step.dd } := rfl
 rw [h3, h1, ← h2]
 have h4 : leftS d.step.fu d.step.lf d.step.dd = d.step.lf := by simp [leftS, h1]
 rw [h4]
set_option maxRecDepth 100000 in
theorem lay_dead {d : DS} (h : d.alive = false) (i : Nat) (ss : List (List UInt8)) : (d.lay i ss).alive = false ∧ (d.lay i ss).step = d.step := by
 induction ss generalizing d i with
 | nil => exact ⟨h, rfl⟩
 | cons t ts ih =>
   have e : d.write i t = d.step := by unfold DS.write; rw [if_neg (by rw [h]; decide)]
   have h1 := alive_step h
   have := ih (d := d.step) h1.1 (i + 1)
   rw [h1.2] at this
   show ((d.write i t).lay (i + 1) ts).alive = false ∧ ((d.write i t).lay (i + 1) ts).step = _
   rw [e]
   exact this
set_option maxRecDepth 100000 in
theorem lay_app (d : DS) (i : Nat) (ss ts : List (List UInt8)) : d.lay i (ss ++ ts) = (d.lay i ss).lay (i + ss.length) ts := by
 induction ss generalizing d i with
 | nil => rfl
 | cons t rs ih =>
   show (d.write i t).lay (i + 1) (rs ++ ts) = _
   rw [ih]
   show _ = ((d.write i t).lay (i + 1) rs).lay (i + (rs.length + 1)) ts
   rw [show i + (rs.length + 1) = i + 1 + rs.length by omega]
set_option maxRecDepth 100000 in
theorem lay_cut {d : DS} {i k : Nat} {ss : List (List UInt8)} (h : (d.lay i (ss.take k)).alive = false) : (d.lay i ss).alive = false ∧ (d.lay i ss).flushed = (d.lay i (ss.take k)).step := by
 have e : d.lay i ss = (d.lay i (ss.take k)).lay (i + (ss.take k).length) (ss.drop k) := by rw [← lay_app, List.take_append_drop]
 have h1 := lay_dead h (i + (ss.take k).length) (ss.drop k)
 rw [← e] at h1
 refine ⟨h1.1, ?_⟩
 unfold DS.flushed
 rw [if_neg (by rw [h1.1]; decide)]
 exact h1.2
def DS.settle (d : DS) (i : Nat) (ss : List (List UInt8)) : DS := (d.lay i ss).flushed
def DS.settles (d : DS) (i : Nat) (ss : List (List UInt8)) : Bool := (d.lay i ss).alive
set_option maxRecDepth 100000 in
theorem settle_len (d : DS) (i : Nat) (ss : List (List UInt8)) : (d.settle i ss).rd.length = d.rd.length := flushed_len.trans (lay_len d i ss)

section
variable {w : World} {B g : Nat} {P : Nat → Prop} {d : DS} {v : Value} {ss : List (List UInt8)}
set_option maxRecDepth 100000 in
set_option maxHeartbeats 2000000 in
theorem settle_any (h : DAt w B P g d) {i : Nat} (hv : SecV w v ss) (hvP : ∀ b, v.ownBlock = some b → ¬ P b) (hi : i + ss.length ≤ d.rd.length) (hlen : d.rd.length ≤ 8192) (hN : ∀ j, (d.vs j).length ≤ 10000) :
 Calls Tryz.prog 92 #[.pointer (some ⟨g, 0, none⟩), .int .i64 i, v] w fun e w' => e = .returned (.int .i64 (if d.settles i ss then 0 else 10)) ∧ (∃ P', DAt w' B P' g (d.settle i ss) ∧ ∀ b, P' b → P b ∨ w.heap.size ≤ b) ∧ Fr P w w' := by
 have hall := hv.all128
 obtain ⟨A, cap, rfl, hc1, hc2, hs⟩ := hv
 obtain ⟨n, hn⟩ : ∃ n, n = ss.length := ⟨_, rfl⟩
 rw [← hn] at hi hc1 hs ⊢
 obtain ⟨z, hz⟩ : ∃ z : Int, z = if d.settles i ss = true then 0 else 10 := ⟨_, rfl⟩
 rw [← hz]
 have HZ := Lib.hid hz
 clear hz
 have HH := Lib.hid (And.intro hn (And.intro hs (And.intro hvP (And.intro hall (And.intro hN (And.intro hi hlen))))))
 have HD := Lib.hid h
 have hn9 : n ≤ 8192 := by omega
 have hin : i + n ≤ 8192 := by omega
 clear hn hs hvP hi hlen hN h hc1 hc2 hall
 go_enter Tryz.func92, Tryz.ntmps92
 go_wp2_with fail
 go_loopw [12] (fun q wr => ∃ k : Nat, q = .int .i64 k ∧ k ≤ n ∧ Hid (∃ P', DAt wr B P' g (d.lay i (ss.take k)) ∧ ∀ b, P' b → P b ∨ w.heap.size ≤ b) ∧ Hid (Fr P w wr)) (fun q _ => n - (intOf q).toNat)
 case atStart => exact ⟨0, rfl, Nat.zero_le _, Lib.hid ⟨P, HD.out, fun b hb => .inl hb⟩, Lib.hid (Fr.refl _ _)⟩
 case round =>
  obtain ⟨k, rfl, hk, HP, HF⟩ := hrel
  by_cases hlt : k < n
  · obtain ⟨P', hP'⟩ := HP.out
    obtain ⟨s, hs⟩ : ∃ s, ss[k]? = some s := ⟨_, List.getElem?_eq_getElem (by have := HH.out.1; omega)⟩
    obtain ⟨b, off, rfl, hsec⟩ := HH.out.2.1 (by omega)
    have hnb : ¬ P b := HH.out.2.2.1 b rfl
    have hr := (hsec k s hs).2
    have hb9 : b < w.heap.size := by
     have hl := (hsec k s hs).1
     obtain ⟨c, hc⟩ : ∃ c, (cellsB s)[0]? = some c := ⟨_, List.getElem?_eq_getElem (by rw [cellsB_len]; omega)⟩
     exact World.block_lt_of_cell? w _ (hr 0 c hc)
    have hr' : wr.rangeAt b (off + k * 128) (cellsB s) := fun j c hj => (HF.out.cell (World.block_lt_of_cell? w _ (hr j c hj)) hnb).trans (hr j c hj)
    have HX := Lib.hid (And.intro hs (And.intro (hsec k s hs).1 (And.intro hr' hb9)))
    have HPP := Lib.hid hP'
    clear hs hsec hnb hr hr' hb9 hP' HP
    have hi0 : (0 : Int) ≤ (k : Int) := by omega
    have hi1 : (k : Int) < (n : Int) := by omega
    have hwrap : IntKind.i64.wrap ((i : Int) + (k : Int)) = ((i + k : Nat) : Int) := by simp [IntKind.wrap, IntKind.signed, IntKind.bits]; omega
    obtain ⟨W2, hW2, hb2, hf2, hth⟩ : ∃ W2, W2 = (wr.alloc (.cells (cellsB (nought 128)).toArray 83)).setCells wr.heap.size 0 (cellsB s) ∧ Blk W2 wr.heap.size 83 (cellsB s).toArray ∧ Fr (fun _ => False) wr W2 ∧ (wr.alloc (.cells (cellsB (nought 128)).toArray 83)).there wr.heap.size 0 (cellsB s).toArray.size := by
     have hbn := Blk.new wr 83 (cellsB (nought 128)).toArray
     refine ⟨_, rfl, ?_, Fr.setCells (.inr (Nat.le_refl _)) ((Fr.refl _ wr).alloc _), hbn.there (by simp [cellsB_len, nought_len, HX.out.2.1])⟩
     have q := hbn.over (o := 0) (m := s) (by rw [nought_len, HX.out.2.1]; omega)
     rwa [patch_all (by rw [nought_len, HX.out.2.1])] at q
    have hr2 : W2.rangeAt wr.heap.size 0 (cellsB s) := sec_range HX.out.2.1 hb2
    have HB2 := Lib.hid (And.intro hb2 (And.intro hf2 hr2))
    have HTH := Lib.hid hth
    clear hb2 hf2 hr2 hth
    go_wp2_with (first
     | (refine wpList_load_mid rfl 83 _ rfl b (off + k * 128) rfl (cellsB s) _ HX.out.2.2.1 Tryz.underlying83 rfl (by rw [infoSector, cellsB_len, HX.out.2.1]) ?_)
     | (refine wpList_zero rfl 83 rfl zeroSector ?_)
     | (refine wpList_store_mid rfl 83 _ _ rfl wr.heap.size 0 (cellsB s).toArray rfl rfl HTH.out (by rw [infoSector]; simp [cellsB_len, HX.out.2.1]) (all_oneCell_toArray (cellsB_one _)) ?_; rw [← hW2]; clear hW2)
     | (refine wpList_load_mid rfl 83 _ rfl wr.heap.size 0 rfl (cellsB s) _ HB2.out.2.2 Tryz.underlying83 rfl (by rw [infoSector, cellsB_len, HX.out.2.1]) ?_))
    have htl : (ss.take k).length = k := by rw [List.length_take, ← HH.out.1]; omega
    have hts : ss.take (k + 1) = ss.take k ++ [s] := by rw [List.take_add_one, HX.out.1]; rfl
    have hnx : (d.lay i (ss.take k)).write (i + k) s = d.lay i (ss.take (k + 1)) := by rw [hts, lay_snoc, htl]
    have hvs : ((d.lay i (ss.take k)).vs (i + k)).length ≤ 10000 := by rw [lay_vs _ _ _ (by rw [htl]; omega)]; exact HH.out.2.2.2.2.1 _
    have HW := Lib.hid (awrite_any (HPP.out.1.new HB2.out.2.1) (i := i + k) (s := s) (by rw [lay_len]; have := HH.out.2.2.2.2.2; omega) HX.out.2.1 hvs)
    rw [Int.natCast_add, hnx] at HW
    clear hvs hnx hts htl
    cases hal : (d.lay i (ss.take k)).alive with
    | true =>
      rw [hal] at HW
      refine HW.out.mono ?_
      rintro e w3 ⟨rfl, ⟨P3, hP3, hP4⟩, hf3⟩
      have H3 : Hid (∃ P', DAt w3 B P' g (d.lay i (ss.take (k + 1))) ∧ ∀ b, P' b → P b ∨ w.heap.size ≤ b) := Lib.hid ⟨P3, hP3, fun c hc => by
       rcases hP4 c hc with q | q
       · exact HPP.out.2 c q
       · exact .inr (by have := HF.out.size; have := HB2.out.2.1.size; omega)⟩
      have F3 : Hid (Fr P w w3) := Lib.hid ((HF.out.trans HB2.out.2.1 (fun _ _ q => q.elim)).trans hf3 (fun c hc q => (HPP.out.2 c q).resolve_right (by omega)))
      clear HW hP3 hP4 hf3 hal
      go_wp2_with fail
      exact ⟨⟨k + 1, by go_num, hlt, H3, F3⟩, by simp [intOf]; omega⟩
    | false =>
      rw [hal] at HW
      have hcut := lay_cut hal
      have hst : d.lay i (ss.take (k + 1)) = (d.lay i (ss.take k)).step := by
       have q := lay_cut (d := d) (i := i) (k := k) (ss := ss.take (k + 1)) (by rw [List.take_take, Nat.min_eq_left (by omega)]; exact hal)
       have q2 := lay_dead hal
       have hts : ss.take (k + 1) = ss.take k ++ [s] := by rw [List.take_add_one, HX.out.1]; rfl
       rw [hts, lay_snoc]
       unfold DS.write
       rw [if_neg (by rw [hal]; decide)]
      rw [hst, ← hcut.2] at HW
      have hs1 : d.settles i ss = false := hcut.1
      refine HW.out.mono ?_
      rintro e w3 ⟨rfl, ⟨P3, hP3, hP4⟩, hf3⟩
      have H3 : Hid (∃ P', DAt w3 B P' g (d.settle i ss) ∧ ∀ b, P' b → P b ∨ w.heap.size ≤ b) := Lib.hid ⟨P3, hP3, fun c hc => by
       rcases hP4 c hc with q | q
       · exact HPP.out.2 c q
       · exact .inr (by have := HF.out.size; have := HB2.out.2.1.size; omega)⟩
      have F3 : Hid (Fr P w w3) := Lib.hid ((HF.out.trans HB2.out.2.1 (fun _ _ q => q.elim)).trans hf3 (fun c hc q => (HPP.out.2 c q).resolve_right (by omega)))
      clear HW hP3 hP4 hf3 hal hst hcut
      go_wp2_with fail
      go_ret
      exact ⟨by rw [HZ.out, hs1]; rfl, H3.out, F3.out⟩
  · obtain rfl : k = n := by omega
    obtain ⟨P', hP'⟩ := HP.out
    rw [List.take_of_length_le (by rw [← HH.out.1]; omega)] at hP'
    have HW := Lib.hid (aflush_any hP'.1)
    rw [show (if (d.lay i ss).alive = true then (0 : Int) else 10) = z from HZ.out.symm] at HW
    have HPP := Lib.hid hP'.2
    clear hlt hk hP' HP
    go_wp2_with fail
    refine HW.out.mono ?_
    rintro e w3 ⟨rfl, h3, hf3⟩
    have F3 : Hid (Fr P w w3) := Lib.hid (HF.out.trans hf3 (fun c hc q => (HPP.out c q).resolve_right (by omega)))
    have H3 := Lib.hid h3
    clear h3 hf3 HW
    go_wp2_with fail
    go_ret
    exact ⟨rfl, ⟨P', H3.out, HPP.out⟩, F3.out⟩
end
end Go.Proofs.YtcnlgbjkjlbmbaaGreat

namespace Go.Proofs.YtcnlgbjkjlbmbaaGreat
open Go.RowKit

def fitE (n : Nat) (z : Int) : Int := if z < 4 ∨ 4000 < z ∨ (n : Int) < 1 + z then 2 else 0
section
variable {w : World} {B g : Nat} {P : Nat → Prop} {d : DS} {v : Value} {ss : List (List UInt8)}
set_option maxRecDepth 100000 in
theorem DAt.len (h : DAt w B P g d) : 0 < d.rd.length ∧ d.rd.length ≤ 8192 := by
 obtain ⟨⟨R, M, D, val, k1⟩, k2⟩ := h
 exact ⟨k1.n0, k1.n1⟩
set_option maxRecDepth 100000 in
theorem DAt.all128 (h : DAt w B P g d) : ∀ s ∈ d.rd, s.length = 128 := by
 obtain ⟨⟨R, M, D, val, k1⟩, k2⟩ := h
 exact k1.hl
set_option maxRecDepth 100000 in
theorem DAt.get128 (h : DAt w B P g d) {i : Nat} (hi : i < d.rd.length) : (d.rd.getD i []).length = 128 :=
 h.all128 _ (List.mem_of_getElem? (i := i) (by simp [hi]))
set_option maxRecDepth 100000 in
theorem asecs_any (h : DAt w B P g d) : Calls Tryz.prog 60 #[.pointer (some ⟨g, 0, none⟩)] w fun e w' => e = .returned (.int .i64 (d.rd.length : Nat)) ∧ w = w' := by
 obtain ⟨⟨R, M, D, val, k1⟩, k2⟩ := h
 exact sectors_any k1.blk
set_option maxRecDepth 100000 in
theorem fits_any (h : DAt w B P g d) (z : Int) (hz0 : -9223372036854775808 ≤ z) (hz1 : z ≤ 9223372036854775807) : Calls Tryz.prog 70 #[.pointer (some ⟨g, 0, none⟩), .int .i64 z] w fun e w' => e = .returned (.int .i64 (fitE d.rd.length z)) ∧ w = w' := by
 have hl := h.len
 have HS := Lib.hid (asecs_any h)
 obtain ⟨n, hn⟩ : ∃ n, n = d.rd.length := ⟨_, rfl⟩
 rw [← hn] at hl HS ⊢
 clear h hn
 have hn0 : ¬ ((n : Int) = 0) := by omega
 by_cases h1 : z < 4
 · rw [show fitE n z = 2 by unfold fitE; rw [if_pos (.inl h1)]]
   go_enter Tryz.func70, Tryz.ntmps70
   go_wp2_with (go_at_call 60; refine HS.out.mono ?_; rintro e w' ⟨rfl, rfl⟩)
   go_ret
   exact ⟨rfl, rfl⟩
 by_cases h2 : z > 4000
 · rw [show fitE n z = 2 by unfold fitE; rw [if_pos (.inr (.inl h2))]]
   go_enter Tryz.func70, Tryz.ntmps70
   go_wp2_with (go_at_call 60; refine HS.out.mono ?_; rintro e w' ⟨rfl, rfl⟩)
   go_ret
   exact ⟨rfl, rfl⟩
 have hw : IntKind.i64.wrap (1 + z) = 1 + z := by simp [IntKind.wrap, IntKind.signed, IntKind.bits]; omega
 by_cases h3 : 1 + z > (n : Int)
 · rw [show fitE n z = 2 by unfold fitE; rw [if_pos (.inr (.inr h3))]]
   go_enter Tryz.func70, Tryz.ntmps70
   go_wp2_with (go_at_call 60; refine HS.out.mono ?_; rintro e w' ⟨rfl, rfl⟩)
   go_ret
   exact ⟨rfl, rfl⟩
 · rw [show fitE n z = 0 by unfold fitE; rw [if_neg (by omega)]]
   go_enter Tryz.func70, Tryz.ntmps70
   go_wp2_with (go_at_call 60; refine HS.out.mono ?_; rintro e w' ⟨rfl, rfl⟩)
   go_ret
   exact ⟨rfl, rfl⟩

set_option maxRecDepth 100000 in
theorem SecV.one {w : World} {b : Nat} {s : List UInt8} (hb : Blk w b 83 (cellsB s).toArray) (hs : s.length = 128) : SecV w (.slice (some ⟨b, 0, none⟩) 1 1) [s] :=
 ⟨_, 1, rfl, Nat.le_refl _, by simp [maxLen], fun _ => ⟨b, 0, rfl, fun i x hi => by
  cases i with
  | zero =>
    injection hi with hi
    subst hi
    exact ⟨hs, by rw [Nat.zero_mul, Nat.zero_add]; exact sec_range hs hb⟩
  | succ i => simp at hi⟩⟩

set_option maxRecDepth 100000 in
theorem fresh_sec (w : World) {s : List UInt8} (hs : s.length = 128) : ∃ W, W = (w.alloc (.cells (cellsB (nought 128)).toArray 83)).setCells w.heap.size 0 (cellsB s) ∧ Blk W w.heap.size 83 (cellsB s).toArray ∧ Fr (fun _ => False) w W ∧
 (w.alloc (.cells (cellsB (nought 128)).toArray 83)).there w.heap.size 0 (cellsB s).toArray.size ∧ W.rangeAt w.heap.size 0 (cellsB s) := by
 have hbn := Blk.new w 83 (cellsB (nought 128)).toArray
 have q := hbn.over (o := 0) (m := s) (by rw [nought_len, hs]; omega)
 rw [patch_all (by rw [nought_len, hs])] at q
 exact ⟨_, rfl, q, Fr.setCells (.inr (Nat.le_refl _)) ((Fr.refl _ w).alloc _), hbn.there (by simp [cellsB_len, nought_len, hs]), sec_range hs q⟩
set_option maxRecDepth 100000 in
theorem sector_one (w : World) {c : Nat} (hc : c < maxC) : Calls Tryz.prog 76 #[.agg #[.int .u64 ((c : Int) + 1), .int .u64 ((c : Int) + 1)]] w fun e w' => e = .returned (av (hdS (c + 1) (c + 1))) ∧ Fr (fun _ => False) w w' :=
 sector_any w (c + 1) (c + 1) (by unfold maxC at hc; omega) (by unfold maxC at hc; omega)
def DS.head (d : DS) : List UInt8 := d.rd.getD 0 []
def DS.forgetting (d : DS) : Bool := isHd d.head && decide (cntOf d.head < maxC)
def DS.forget (d : DS) : DS := if d.forgetting then d.settle 0 [hdS (cntOf d.head + 1) (cntOf d.head + 1)] else d
def DS.forgets (d : DS) : Bool := if d.forgetting then d.settles 0 [hdS (cntOf d.head + 1) (cntOf d.head + 1)] else true
set_option maxRecDepth 100000 in
theorem isHd_le {x : List UInt8} (h : isHd x = true) : 1 ≤ sinOf x ∧ sinOf x ≤ cntOf x ∧ cntOf x ≤ maxC := by
 unfold isHd at h
 simp only [Bool.and_eq_true, decide_eq_true_eq] at h
 exact ⟨h.1, h.2.1, h.2.2.1⟩
set_option maxRecDepth 100000 in
set_option maxHeartbeats 2000000 in
theorem forget_any (h : DAt w B P g d) (hN : ∀ j, (d.vs j).length ≤ 10000) : Calls Tryz.prog 91 #[.pointer (some ⟨g, 0, none⟩)] w fun e w' =>
 e = .returned (.int .i64 (if d.forgets then 0 else 10)) ∧ (∃ P', DAt w' B P' g d.forget ∧ ∀ b, P' b → P b ∨ w.heap.size ≤ b) ∧ Fr P w w' := by
 have HR := Lib.hid (aread_any h (k := 0) h.len.1)
 have hx := h.get128 h.len.1
 obtain ⟨x, hxx⟩ : ∃ x, x = d.rd.getD 0 [] := ⟨_, rfl⟩
 rw [← hxx] at HR hx
 have HX := Lib.hid (And.intro hx (show d.head = x from hxx.symm))
 have HD := Lib.hid (And.intro h hN)
 obtain ⟨z, hz⟩ : ∃ z : Int, z = if d.forgets then 0 else 10 := ⟨_, rfl⟩
 rw [← hz]
 have HZ := Lib.hid hz
 clear h hN hx hxx hz
 go_enter Tryz.func91, Tryz.ntmps91
 go_wp2_with fail
 refine HR.out.mono ?_
 rintro e w1 ⟨rfl, f1⟩
 obtain ⟨W2, hW2, hb2, hf2, hth, hr2⟩ := fresh_sec w1 HX.out.1
 have HB2 := Lib.hid (And.intro hb2 (And.intro (f1.trans hf2 (fun _ _ q => q)) hr2))
 have HTH := Lib.hid hth
 clear hb2 hf2 hr2 hth f1 HR
 go_wp2_with (first
  | (refine wpList_zero rfl 83 rfl zeroSector ?_)
  | (refine wpList_store_mid rfl 83 _ _ rfl w1.heap.size 0 (cellsB x).toArray rfl rfl HTH.out (by rw [infoSector]; simp [cellsB_len, HX.out.1]) (all_oneCell_toArray (cellsB_one _)) ?_; rw [← hW2]; clear hW2)
  | (refine wpList_load_mid rfl 83 _ rfl w1.heap.size 0 rfl (cellsB x) _ HB2.out.2.2 Tryz.underlying83 rfl (by rw [infoSector, cellsB_len, HX.out.1]) ?_))
 refine (whd_any W2 x HX.out.1).mono ?_
 rintro e w3 ⟨rfl, f3⟩
 have HF3 := Lib.hid (HB2.out.2.1.trans f3 (fun _ _ q => q))
 clear f3 HB2 HTH
 cases his : isHd x with
 | false =>
   have hv : hdVal x = hV 0 0 := by simp [hdVal, his]
   rw [hv]
   have hfg : d.forgetting = false := by unfold DS.forgetting; rw [HX.out.2, his]; rfl
   have HE := Lib.hid (And.intro (show d.forget = d by unfold DS.forget; rw [hfg]; rfl) (show z = 0 by rw [HZ.out]; unfold DS.forgets; rw [hfg]; rfl))
   clear hv hfg his
   go_wp2_with fail
   refine (trunc_any _ 0 0 (by decide) (by decide)).mono ?_
   rintro e w4 ⟨rfl, f4⟩
   have HF4 := Lib.hid ((HF3.out.alloc (.cells #[.int .u64 0, .int .u64 0] 114)).trans f4 (fun _ _ q => q))
   clear f4 HF3
   go_wp2_with fail
   go_ret
   have f5 := HF4.out.alloc (.cells #[.int .u64 1, .int .u64 1] 114)
   rw [HE.out.1]
   exact ⟨by rw [HE.out.2]; rfl, ⟨P, HD.out.1.new f5, fun b hb => .inl hb⟩, f5.mono (fun _ _ q => q.elim)⟩
 | true =>
   have hle := isHd_le his
   have hv : hdVal x = hV (cntOf x) (sinOf x) := by simp [hdVal, his]
   rw [hv]
   have HI := Lib.hid his
   obtain ⟨c, hc⟩ : ∃ c, c = cntOf x := ⟨_, rfl⟩
   obtain ⟨si, hsi⟩ : ∃ si, si = sinOf x := ⟨_, rfl⟩
   rw [← hc, ← hsi] at hle ⊢
   have HL := Lib.hid hle
   clear hle hv his hsi
   by_cases hm : c = maxC
   · have hfg : d.forgetting = false := by unfold DS.forgetting; rw [HX.out.2, ← hc, hm]; simp
     have HE := Lib.hid (And.intro (show d.forget = d by unfold DS.forget; rw [hfg]; rfl) (show z = 0 by rw [HZ.out]; unfold DS.forgets; rw [hfg]; rfl))
     have HM := Lib.hid hm
     clear hfg hc hm
     go_wp2_with fail
     refine (trunc_full _ c si HM.out).mono ?_
     rintro e w4 ⟨rfl, f4⟩
     have HF4 := Lib.hid ((HF3.out.alloc (.cells #[.int .u64 (c : Nat), .int .u64 (si : Nat)] 114)).trans f4 (fun _ _ q => q))
     clear f4 HF3
     go_wp2_with fail
     go_ret
     have f5 := HF4.out.alloc (.cells #[.int .u64 0, .int .u64 0] 114)
     rw [HE.out.1]
     exact ⟨by rw [HE.out.2]; rfl, ⟨P, HD.out.1.new f5, fun b hb => .inl hb⟩, f5.mono (fun _ _ q => q.elim)⟩
   · have hlt : c < maxC := by have := HL.out.2.2; omega
     have hfg : d.forgetting = true := by unfold DS.forgetting; rw [HX.out.2, ← hc, HI.out]; simpa using hlt
     have HE := Lib.hid (And.intro (show d.forget = d.settle 0 [hdS (c + 1) (c + 1)] by unfold DS.forget; rw [hfg, HX.out.2, ← hc]; rfl) (show z = if d.settles 0 [hdS (c + 1) (c + 1)] then 0 else 10 by rw [HZ.out]; unfold DS.forgets; rw [hfg, HX.out.2, ← hc]; rfl))
     have HCL := Lib.hid hlt
     clear hfg hc hlt hm
     go_wp2_with fail
     refine (trunc_any _ c si HCL.out (Nat.le_trans HL.out.2.1 HL.out.2.2)).mono ?_
     rintro e w4 ⟨rfl, f4⟩
     have HF4 := Lib.hid ((HF3.out.alloc (.cells #[.int .u64 (c : Nat), .int .u64 (si : Nat)] 114)).trans f4 (fun _ _ q => q))
     clear f4 HF3
     go_wp2_with fail
     refine (sector_one _ HCL.out).mono ?_
     rintro e w5 ⟨rfl, f5⟩
     have f5' := (HF4.out.alloc (.cells #[.int .u64 ((c : Int) + 1), .int .u64 ((c : Int) + 1)] 114)).trans f5 (fun _ _ q => q)
     have f6 := f5'.alloc (.cells (cellsB (hdS (c + 1) (c + 1))).toArray 83)
     have hb6 := Blk.new w5 83 (cellsB (hdS (c + 1) (c + 1))).toArray
     have HS := Lib.hid (settle_any (HD.out.1.new f6) (i := 0) (SecV.one hb6 (hdS_len _ _)) (fun b hb q => by
      injection hb with hb
      have h1 := (HD.out.1.2 b q).2
      have h2 := f5'.size
      simp at hb
      omega) (by have := HD.out.1.len; simp; omega) HD.out.1.len.2 HD.out.2)
     have HF6 := Lib.hid f6
     clear f5 f5' f6 hb6 HF4
     go_wp2_with (refine wpList_build_sec rfl _ rfl (hdS_len (c + 1) (c + 1)) rfl ?_)
     rw [← HE.out.2] at HS
     refine HS.out.mono ?_
     rintro e w7 ⟨rfl, ⟨P', h7, h8⟩, f7⟩
     have H7 := Lib.hid (And.intro h7 (And.intro h8 f7))
     clear h7 h8 f7 HS
     go_wp2_with fail
     go_ret
     rw [HE.out.1]
     exact ⟨rfl, ⟨P', H7.out.1, fun b hb => (H7.out.2.1 b hb).imp id (fun q => Nat.le_trans HF6.out.size q)⟩, (HF6.out.mono (fun _ _ q => q.elim)).trans H7.out.2.2 (fun _ _ q => q)⟩
end
end Go.Proofs.YtcnlgbjkjlbmbaaGreat

namespace Go.Proofs.YtcnlgbjkjlbmbaaGreat
open Go.RowKit

set_option maxRecDepth 100000 in
theorem settle_dead {d : DS} {i : Nat} {ss : List (List UInt8)} (h : d.settles i ss = false) (j : Nat) (ts : List (List UInt8)) : (d.settle i ss).settles j ts = false ∧ (d.settle i ss).settle j ts = d.settle i ss := by
 have hd : (d.lay i ss).alive = false := h
 have e1 : d.settle i ss = (d.lay i ss).step := by unfold DS.settle DS.flushed; rw [if_neg (by rw [hd]; decide)]
 have h1 := alive_step hd
 have h2 := lay_dead h1.1 j ts
 rw [e1]
 refine ⟨h2.1, ?_⟩
 show ((d.lay i ss).step.lay j ts).flushed = _
 unfold DS.flushed
 rw [if_neg (by rw [h2.1]; decide), h2.2, h1.2]
set_option maxRecDepth 100000 in
theorem forget_dead {d : DS} (h : d.forgets = false) (j : Nat) (ts : List (List UInt8)) : d.forget.settles j ts = false ∧ d.forget.settle j ts = d.forget := by
 unfold DS.forgets at h
 unfold DS.forget
 split at h
 · rename_i hf
   rw [if_pos hf]
   exact settle_dead h j ts
 · cases h
set_option maxRecDepth 100000 in
theorem write_vs_le (d : DS) (i j : Nat) (s : List UInt8) : ((d.write i s).vs j).length ≤ (d.vs j).length + 2 := by
 unfold DS.write
 split
 · simp only [DS.put]
   split
   · rename_i e
     split
     · simp
     · subst e
       simp [DS.step]
   · simp [DS.step]
 · simp [DS.step]
set_option maxRecDepth 100000 in
theorem lay_vs_low (d : DS) (i : Nat) (ss : List (List UInt8)) {j : Nat} (h : j < i) : (d.lay i ss).vs j = d.vs j := by
 induction ss generalizing d i with
 | nil => rfl
 | cons t ts ih => exact (ih _ _ (by omega)).trans (write_vs (by omega))
set_option maxRecDepth 100000 in
theorem lay_vs_le (d : DS) (i : Nat) (ss : List (List UInt8)) (j : Nat) : ((d.lay i ss).vs j).length ≤ (d.vs j).length + 2 := by
 induction ss generalizing d i with
 | nil => exact Nat.le_add_right _ _
 | cons t ts ih =>
   show (((d.write i t).lay (i + 1) ts).vs j).length ≤ _
   by_cases h : j = i
   · rw [lay_vs_low _ _ _ (by omega)]
     exact write_vs_le d i j t
   · have := ih (d.write i t) (i + 1)
     rwa [write_vs h] at this
set_option maxRecDepth 100000 in
theorem settle_vs_le (d : DS) (i : Nat) (ss : List (List UInt8)) (j : Nat) : ((d.settle i ss).vs j).length ≤ (d.vs j).length + 2 := by
 unfold DS.settle DS.flushed
 split
 · simp [DS.flush]
 · exact lay_vs_le d i ss j
set_option maxRecDepth 100000 in
theorem forget_vs_le (d : DS) (j : Nat) : (d.forget.vs j).length ≤ (d.vs j).length + 2 := by
 unfold DS.forget
 split
 · exact settle_vs_le _ _ _ _
 · exact Nat.le_add_right _ _
set_option maxRecDepth 100000 in
theorem forget_len (d : DS) : d.forget.rd.length = d.rd.length := by
 unfold DS.forget
 split
 · exact settle_len _ _ _
 · rfl

def DS.format (d : DS) (z : Nat) : DS := (d.forget.settle 1 (List.replicate z (nought 128))).settle 0 [hdS 1 1]
def DS.formats (d : DS) (z : Nat) : Bool := (d.forget.settle 1 (List.replicate z (nought 128))).settles 0 [hdS 1 1]
section
variable {w : World} {B g : Nat} {P : Nat → Prop} {d : DS} {v : Value} {ss : List (List UInt8)}
set_option maxRecDepth 100000 in
theorem SecV.zeros {w : World} {b : Nat} (n : Nat) (hn : n ≤ 100000) (hb : Blk w b 83 (cellsB (nought (n * 128))).toArray) : SecV w (.slice (some ⟨b, 0, none⟩) n n) (List.replicate n (nought 128)) := by
 refine ⟨_, n, by rw [List.length_replicate], by rw [List.length_replicate]; exact Nat.le_refl _, by simp [maxLen]; omega, fun _ => ⟨b, 0, rfl, fun i x hi => ?_⟩⟩
 have hlt : i < n := by
  have := (List.getElem?_eq_some_iff.1 hi).1
  simpa using this
 have hx : x = nought 128 := by
  have := List.mem_of_getElem? hi
  exact (List.mem_replicate.1 this).2
 subst hx
 refine ⟨nought_len _, ?_⟩
 have := hb.range (i * 128) 128
 rw [Nat.zero_add]
 have e : ((nought (n * 128)).drop (i * 128)).take 128 = nought 128 := by
  unfold nought
  rw [List.drop_replicate, List.take_replicate]
  congr 1
  have : (i + 1) * 128 ≤ n * 128 := Nat.mul_le_mul_right _ (by omega)
  omega
 rwa [e] at this
set_option maxRecDepth 100000 in
theorem sector_11 (w : World) : Calls Tryz.prog 76 #[.agg #[.int .u64 1, .int .u64 1]] w fun e w' => e = .returned (av (hdS 1 1)) ∧ Fr (fun _ => False) w w' :=
 sector_any w 1 1 (by omega) (by omega)
set_option maxRecDepth 100000 in
set_option maxHeartbeats 2000000 in
theorem format_any (h : DAt w B P g d) (hN : ∀ j, (d.vs j).length ≤ 9990) {z : Nat} (h4 : 4 ≤ z) (hz : z ≤ 4000) (hzl : z + 1 ≤ d.rd.length) : Calls Tryz.prog 59 #[.pointer (some ⟨g, 0, none⟩), .int .i64 z] w fun e w' =>
 e = .returned (.int .i64 (if d.formats z then 0 else 10)) ∧ (∃ P', DAt w' B P' g (d.format z) ∧ ∀ b, P' b → P b ∨ w.heap.size ≤ b) ∧ Fr P w w' := by
 have HT := Lib.hid (fits_any h (z : Int) (by omega) (by omega))
 rw [show fitE d.rd.length (z : Int) = 0 by unfold fitE; rw [if_neg (by omega)]] at HT
 have HG := Lib.hid (forget_any h (fun j => Nat.le_trans (hN j) (by omega)))
 have HD := Lib.hid (And.intro h.len.2 (And.intro hN (And.intro hzl (And.intro h4 hz))))
 obtain ⟨r, hr⟩ : ∃ r : Int, r = if d.formats z then 0 else 10 := ⟨_, rfl⟩
 rw [← hr]
 have HR := Lib.hid hr
 clear h hN hr h4 hzl
 go_enter Tryz.func59, Tryz.ntmps59
 go_wp2_with fail
 refine HT.out.mono ?_
 rintro e w' ⟨rfl, rfl⟩
 clear HT
 go_wp2_with fail
 cases hfg : d.forgets with
 | false =>
   rw [hfg] at HG
   have q1 := forget_dead hfg 1 (List.replicate z (nought 128))
   have q2 := forget_dead hfg 0 [hdS 1 1]
   have HE := Lib.hid (show d.format z = d.forget ∧ r = 10 from ⟨by unfold DS.format; rw [q1.2, q2.2], by rw [HR.out]; unfold DS.formats; rw [q1.2, q2.1]; rfl⟩)
   refine HG.out.mono ?_
   rintro e w1 ⟨rfl, hp, hf⟩
   have H1 := Lib.hid (And.intro hp hf)
   clear hp hf HG hfg q1 q2
   go_wp2_with fail
   go_ret
   rw [HE.out.1, HE.out.2]
   exact ⟨rfl, H1.out.1, H1.out.2⟩
 | true =>
   rw [hfg] at HG
   refine HG.out.mono ?_
   rintro e w1 ⟨rfl, ⟨P1, hp1, hp2⟩, hf1⟩
   have H1 := Lib.hid (And.intro hp1 (And.intro hp2 hf1))
   clear hp1 hp2 hf1 HG hfg
   have hmk := make_sectors w1 z (by omega)
   have hz8 := hz
   go_wp2_with fail
   have hb2 := Blk.new w1 83 (cellsB (nought (z * 128))).toArray
   have f2 : Fr (fun _ => False) w1 (w1.alloc (.cells (cellsB (nought (z * 128))).toArray 83)) := (Fr.refl _ _).alloc _
   generalize w1.alloc (.cells (cellsB (nought (z * 128))).toArray 83) = w2 at *
   have HS := Lib.hid (settle_any (H1.out.1.new f2) (i := 1) (SecV.zeros z (by omega) hb2) (fun b hb q => by
    injection hb with hb
    have h1 := (H1.out.1.2 b q).2
    simp at hb
    omega) (by rw [List.length_replicate, forget_len]; have := HD.out.2.2.1; omega) (by rw [forget_len]; exact HD.out.1) (fun j => Nat.le_trans (forget_vs_le d j) (by have := HD.out.2.1 j; omega)))
   have HF2 := Lib.hid f2
   clear f2 hb2 hmk hz8
   cases hst : d.forget.settles 1 (List.replicate z (nought 128)) with
   | false =>
     rw [hst] at HS
     have q2 := settle_dead hst 0 [hdS 1 1]
     have HE := Lib.hid (show d.format z = d.forget.settle 1 (List.replicate z (nought 128)) ∧ r = 10 from ⟨by unfold DS.format; rw [q2.2], by rw [HR.out]; unfold DS.formats; rw [q2.1]; rfl⟩)
     refine HS.out.mono ?_
     rintro e w3 ⟨rfl, ⟨P3, hp1, hp2⟩, hf3⟩
     have H3 := Lib.hid (And.intro hp1 (And.intro hp2 hf3))
     clear hp1 hp2 hf3 HS hst q2
     go_wp2_with fail
     go_ret
     rw [HE.out.1, HE.out.2]
     refine ⟨rfl, ⟨P3, H3.out.1, fun b hb => ?_⟩, (H1.out.2.2.trans HF2.out (fun _ _ q => q.elim)).trans H3.out.2.2 (fun b hb q => (H1.out.2.1 b q).resolve_right (by omega))⟩
     rcases H3.out.2.1 b hb with q | q
     · exact H1.out.2.1 b q
     · exact .inr (Nat.le_trans (H1.out.2.2.trans HF2.out (fun _ _ q => q.elim)).size q)
   | true =>
     rw [hst] at HS
     refine HS.out.mono ?_
     rintro e w3 ⟨rfl, ⟨P3, hp1, hp2⟩, hf3⟩
     have H3 := Lib.hid (And.intro hp1 (And.intro hp2 hf3))
     have HF3 : Hid (Fr P w w3 ∧ ∀ b, P3 b → P b ∨ w.heap.size ≤ b) := Lib.hid ⟨(H1.out.2.2.trans HF2.out (fun _ _ q => q.elim)).trans H3.out.2.2 (fun b hb q => (H1.out.2.1 b q).resolve_right (by omega)), fun b hb => by
      rcases H3.out.2.1 b hb with q | q
      · exact H1.out.2.1 b q
      · exact .inr (Nat.le_trans (H1.out.2.2.trans HF2.out (fun _ _ q => q.elim)).size q)⟩
     clear hp1 hp2 hf3 HS hst
     go_wp2_with fail
     refine (sector_11 _).mono ?_
     rintro e w5 ⟨rfl, f5⟩
     have f6 := f5.alloc (.cells (cellsB (hdS 1 1)).toArray 83)
     have hb6 := Blk.new w5 83 (cellsB (hdS 1 1)).toArray
     have HS := Lib.hid (settle_any (H3.out.1.new f6) (i := 0) (SecV.one hb6 (hdS_len _ _)) (fun b hb q => by
      injection hb with hb
      have h1 := (H3.out.1.2 b q).2
      have h2 := f5.size
      simp at hb
      omega) (by rw [settle_len, forget_len]; have := HD.out.2.2.1; simp; omega) (by rw [settle_len, forget_len]; exact HD.out.1) (fun j => Nat.le_trans (settle_vs_le _ _ _ j) (by have := forget_vs_le d j; have := HD.out.2.1 j; omega)))
     have HF6 := Lib.hid f6
     clear f5 f6 hb6
     rw [show (if (d.forget.settle 1 (List.replicate z (nought 128))).settles 0 [hdS 1 1] = true then (0 : Int) else 10) = r from HR.out.symm] at HS
     go_wp2_with (refine wpList_build_sec rfl _ rfl (hdS_len 1 1) rfl ?_)
     refine HS.out.mono ?_
     rintro e w7 ⟨rfl, ⟨P', h7, h8⟩, f7⟩
     have H7 := Lib.hid (And.intro h7 (And.intro h8 f7))
     clear h7 h8 f7 HS
     go_wp2_with fail
     go_ret
     have f8 := HF3.out.1.trans HF6.out (fun _ _ q => q.elim)
     refine ⟨rfl, ⟨P', H7.out.1, fun b hb => ?_⟩, f8.trans H7.out.2.2 (fun b hb q => (HF3.out.2 b q).resolve_right (by omega))⟩
     rcases H7.out.2.1 b hb with q | q
     · exact HF3.out.2 b q
     · exact .inr (Nat.le_trans f8.size q)
end
end Go.Proofs.YtcnlgbjkjlbmbaaGreat

namespace Go.Proofs.YtcnlgbjkjlbmbaaGreat
open Go.RowKit
attribute [local go_sem] Oper.semAt_some

abbrev Sec := { s : List UInt8 // s.length = 128 }
abbrev encS (x : Sec) : Array Value := #[av x.1, .int .i64 0]
def secOf (d : DS) (k : Nat) : Sec := if h : (d.rd.getD k []).length = 128 then ⟨d.rd.getD k [], h⟩ else ⟨nought 128, nought_len 128⟩
set_option maxRecDepth 100000 in
theorem secOf_at {d : DS} (h : ∀ s ∈ d.rd, s.length = 128) {k : Nat} (hk : k < d.rd.length) : (secOf d k).1 = d.rd.getD k [] := by
 unfold secOf
 rw [dif_pos (h _ (List.mem_of_getElem? (i := k) (by simp [hk])))]
set_option maxRecDepth 100000 in
theorem sectorsOf_any (w : World) (g N : Nat) : Calls Tryz.prog 97 #[.pointer (some ⟨g, 0, none⟩), .int .i64 N] w fun e w' =>
 e = .returned (.func (.func 120) #[] #[.pointer (some ⟨w.heap.size + 1, 0, none⟩), .pointer (some ⟨w.heap.size, 0, none⟩)]) ∧ w' = (w.alloc (.cells #[.pointer (some ⟨g, 0, none⟩)] 30)).alloc (.cells #[.int .i64 (N : Nat)] 3) := by
 go_enter Tryz.func97, Tryz.ntmps97
 go_wp2_with fail
 go_ret
 exact ⟨by simp, rfl⟩

set_option maxRecDepth 100000 in
set_option maxHeartbeats 4000000 in
theorem sectors1_in (F : Nat → Prop) (l Bn Bd N g B : Nat) (P : Nat → Prop) (d : DS) (hN : N ≤ d.rd.length) (hP : ∀ b, P b → ¬ F b) (J Jx : List Sec → World → Prop)
 (hJ : ∀ s W W', J s W → W.grownBy W' none → J s W')
 (hY : ∀ pre x W, J pre W → pre.length < N → YieldAt Fence.wide 8 Tryz.prog l (encS x) W fun e W' =>
   (e = .returned (.bool true) ∧ J (pre ++ [x]) W' ∧ Fr F W W') ∨ (e = .returned (.bool false) ∧ Jx (pre ++ [x]) W'))
 (W : World) (hBn : ¬ F Bn) (hBd : ¬ F Bd) (hcn : W.cell? ⟨Bn, 0, none⟩ = some (.int .i64 (N : Nat))) (hcd : W.cell? ⟨Bd, 0, none⟩ = some (.pointer (some ⟨g, 0, none⟩))) (hD : DAt W B P g d) (h0 : J [] W) :
 CallsIn Fence.wide 9 Tryz.prog 120 #[.func (.yield l) #[] #[], .pointer (some ⟨Bn, 0, none⟩), .pointer (some ⟨Bd, 0, none⟩)] W fun e W' => (∃ v, e = .returned v) ∧
  ((∃ ys, ys = upto (secOf d) N ∧ J ys W') ∨ (∃ pre, (∃ k, k ≤ N ∧ pre = upto (secOf d) k) ∧ Jx pre W')) := by
 refine callsIn_of_wp Tryz.func120 rfl trivial ?_ rfl
 simp only [Tryz.ntmps120, List.size_toArray, List.length_cons, List.length_nil, Nat.reduceAdd, Nat.reduceSub, Array.replicate_succ, Array.replicate_zero, List.push_toArray, List.append_toArray, List.nil_append, List.cons_append]
 have HC := Lib.hid hD
 have hlen := hD.len.2
 clear hD
 gi_wp2
 gi_loopw [6] (fun i wr => ∃ k : Nat, k ≤ N ∧ i = .int .i64 k ∧ J (upto (secOf d) k) wr ∧ Fr F W wr)
  (fun i _ => N - (intOf i).toNat)
 case atStart => exact ⟨0, Nat.zero_le _, rfl, h0, Fr.refl _ _⟩
 case round =>
  obtain ⟨k, hk, rfl, hJs, hnx⟩ := hrel
  by_cases hlt : k < N
  · have hB2 := (hnx.cell (p := ⟨Bd, 0, none⟩) (World.block_lt_of_cell? W _ hcd) hBd).trans hcd
    have hi0 : (0 : Int) ≤ (k : Int) := by omega
    have hi1 : (k : Int) < (N : Int) := by omega
    have HRD := Lib.hid (aread_any (HC.out.keep hnx (fun i hi => hP i hi)) (k := k) (by omega))
    have hxe := secOf_at HC.out.all128 (k := k) (by omega)
    rw [← hxe] at HRD
    gi_wp2
    refine ⟨trivial, (callsIn_wide.2 HRD.out).mono ?_⟩
    rintro e w2 ⟨rfl, hf⟩
    have hJ2 := hJ _ _ _ hJs hf.grow
    obtain ⟨fn, tmps, assign, body, hy, hR⟩ := hY (upto (secOf d) k) (secOf d k) w2 hJ2 (by rw [upto_len]; exact hlt)
    have hk2 : Fr F W w2 := hnx.trans hf (fun _ _ q => q.elim)
    dsimp only [encS] at hy
    clear hB2 hJ2 HRD hxe
    gi_wp2
    refine hR.mono ?_
    rintro e W3 (⟨rfl, hJ3, hk3⟩ | ⟨rfl, hJx3⟩)
    · gi_wp2
      go_roundw
      case rel => exact ⟨k + 1, by omega, by simp, by rw [upto_succ]; exact hJ3, hk2.trans hk3 (fun _ _ q => q)⟩
      case measure => simp [intOf]; omega
    · gi_wp2
      refine bodyPost_ret (results_none rfl _ _ _) rfl ?_
      exact ⟨⟨_, rfl⟩, .inr ⟨_, ⟨k + 1, by omega, (upto_succ _ _).symm⟩, hJx3⟩⟩
  · obtain rfl : k = N := by omega
    gi_wp2
    go_end0
    exact ⟨⟨_, rfl⟩, .inl ⟨_, rfl, hJs⟩⟩
set_option maxRecDepth 100000 in
theorem sectors_stops (F : Nat → Prop) (Bn Bd N g B : Nat) (P : Nat → Prop) (d : DS) (hN : N ≤ d.rd.length) (hP : ∀ b, P b → ¬ F b) (w : World) (hBn : ¬ F Bn) (hBd : ¬ F Bd)
 (hcn : Blk w Bn 3 #[.int .i64 (N : Nat)]) (hcd : Blk w Bd 30 #[.pointer (some ⟨g, 0, none⟩)]) (hD : DAt w B P g d) :
 SeqStopsK Fence.wide 9 Tryz.prog 120 #[.pointer (some ⟨Bn, 0, none⟩), .pointer (some ⟨Bd, 0, none⟩)] encS (Fr F) (fun ys => ys = upto (secOf d) N) (fun pre => ∃ k, k ≤ N ∧ pre = upto (secOf d) k) N w := fun l J Jx W hW hJ _ hY hj => by
 have hf : Fr (fun _ => False) w W := Fr.of_below hW
 have hc1 := (hcn.keep hf (fun q => q)).cell 0
 have hc2 := (hcd.keep hf (fun q => q)).cell 0
 exact sectors1_in F l Bn Bd N g B P d hN hP J Jx (fun s A B hsA hg => hJ s A B none hsA hg (fun r e => by cases e)) hY W hBn hBd (by simpa using hc1) (by simpa using hc2) (hD.new hf) hj
end Go.Proofs.YtcnlgbjkjlbmbaaGreat

namespace Go.Proofs.YtcnlgbjkjlbmbaaGreat
open Go.RowKit
attribute [local go_sem] Oper.semAt_some

set_option maxRecDepth 100000 in
theorem make_sectors0 (W : World) (N : Nat) (hN : N ≤ 1000000) : (Instr.makeSlice 71 (.int .i64 0) (.int .i64 (N : Nat))).run Tryz.prog W = .ok (.slice (some ⟨W.heap.size, 0, none⟩) 0 N) (W.alloc (.cells (cellsB (nought (N * 128))).toArray 83)) := by
 obtain ⟨i0, hi, hz0, hz1, hz2⟩ := info_parts infoSec
 have h := run_make (P := Tryz.prog) W 71 83 i0 (av (nought 128)) Tryz.underlying71 hi hz0 .i64 .i64 0 N (by omega) (by omega) (by rw [hz2]; omega) (by omega)
 rw [h, hz1, made_bytes (av (nought 128)).cells 128 _ rfl (by omega)]
 simp
set_option maxRecDepth 100000 in
theorem alloc6 (w : World) (C0 C1 C2 C3 C4 C5 : Array Value) (t0 t1 t2 t3 t4 t5 : TypeId) : ∃ W, W = (((((w.alloc (.cells C0 t0)).alloc (.cells C1 t1)).alloc (.cells C2 t2)).alloc (.cells C3 t3)).alloc (.cells C4 t4)).alloc (.cells C5 t5) ∧ Blk W w.heap.size t0 C0 ∧ Blk W (w.heap.size + 1) t1 C1 ∧ Blk W (w.heap.size + 1 + 1) t2 C2 ∧ Blk W (w.heap.size + 1 + 1 + 1) t3 C3 ∧ Blk W (w.heap.size + 1 + 1 + 1 + 1) t4 C4 ∧ Blk W (w.heap.size + 1 + 1 + 1 + 1 + 1) t5 C5 ∧ W.heap.size = w.heap.size + 6 ∧ Fr (fun _ => False) w W := by
 have k : ∀ {W : World} {g : Nat} {t : TypeId} {cs : Array Value} (o : Obj), Blk W g t cs → Blk (W.alloc o) g t cs := fun o h => h.keep (F := fun _ => False) ((Fr.refl _ _).alloc o) (fun q => q)
 have n : ∀ (W : World) (t : TypeId) (C : Array Value) (g : Nat), W.heap.size = g → Blk (W.alloc (.cells C t)) g t C := fun W t C g e => e ▸ Blk.new W t C
 refine ⟨_, rfl, k _ (k _ (k _ (k _ (k _ (n _ _ _ _ rfl))))), k _ (k _ (k _ (k _ (n _ _ _ _ (by simp))))), k _ (k _ (k _ (n _ _ _ _ (by simp)))), k _ (k _ (n _ _ _ _ (by simp))), k _ (n _ _ _ _ (by simp)), n _ _ _ _ (by simp), by simp, ((((((Fr.refl _ w).alloc _).alloc _).alloc _).alloc _).alloc _).alloc _⟩
def flatS (l : List Sec) : List UInt8 := (l.map (·.1)).flatten
set_option maxRecDepth 100000 in
theorem flatS_snoc (l : List Sec) (x : Sec) : flatS (l ++ [x]) = flatS l ++ x.1 := by simp [flatS]
set_option maxRecDepth 100000 in
theorem upto_secs {d : DS} (h : ∀ s ∈ d.rd, s.length = 128) : ∀ {N : Nat}, N ≤ d.rd.length → (upto (secOf d) N).map (·.1) = d.rd.take N
 | 0, _ => rfl
 | N + 1, hN => by
   rw [upto_succ, List.map_append, upto_secs h (by omega), List.take_add_one]
   have hx : d.rd[N]? = some d.rd[N] := List.getElem?_eq_getElem (by omega)
   simp [secOf_at h (show N < d.rd.length by omega), hx]
set_option maxRecDepth 100000 in
theorem results_read2 {tmps : Array Value} {w : World} {g4 g5 : Nat} {u v : Value} (h4 : tmps.getD 4 undef = .pointer (some ⟨g4, 0, none⟩)) (h5 : tmps.getD 5 undef = .pointer (some ⟨g5, 0, none⟩))
 (b4 : Blk w g4 71 #[u]) (b5 : Blk w g5 35 #[v]) : (results Tryz.f71 tmps).run Tryz.prog w = .ok (.tuple #[u, v]) w := by
 have c4 := b4.cell 0
 have c5 := b5.cell 0
 simp at c4 c5
 have h4' : tmps[4]?.getD undef = .pointer (some ⟨g4, 0, none⟩) := by simpa using h4
 have h5' : tmps[5]?.getD undef = .pointer (some ⟨g5, 0, none⟩) := by simpa using h5
 have e4 : (loadVar 71 ⟨g4, 0, none⟩).run Tryz.prog w = .ok u w := by go_simp
 have e5 : (loadVar 35 ⟨g5, 0, none⟩).run Tryz.prog w = .ok v w := by go_simp
 simp [results, Tryz.f71, h4', h5', asAddr, e4, e5]
set_option maxRecDepth 100000 in
theorem secV_of_own {w : World} {base : Nat} {v : Value} {ss : List (List UInt8)} (h : w.ownsRow base 83 128 v ss.length (cellsB ss.flatten)) (hall : ∀ s ∈ ss, s.length = 128) : SecV w v ss := by
 obtain ⟨A, cap, rfl, h1, h2⟩ := own_slice h
 refine ⟨A, cap, rfl, h1, h2, fun hn => ?_⟩
 rcases h.2 with ⟨_, h0⟩ | ⟨b, c, cur, hv, _⟩
 · omega
 · have hA : A = some ⟨b, 0, none⟩ := by injection hv
   subst hA
   refine ⟨b, 0, rfl, flat_secs hall (fun j u hj => ?_)⟩
   have := h.cells (g := b) rfl j u hj
   rw [Addr.add_mid] at this
   exact this
section
variable {ops : Array Oper} {rest : List Oper} {o : Oper} {a : Act} {w : World} {Q : Exit → Act → World → Prop} {F : Fence} {n : Nat}
set_option maxRecDepth 100000 in
theorem wpListIn_build_sec (hg : o.guard = none) (x : Operand) (hop : o.op = .buildSlice 71 1 #[(0, x)]) {l : List UInt8} (hl : l.length = 128) (hx : a.eval x = av l)
 (hK : wpListIn F n Tryz.prog ops Q rest (a.put o.dst (.slice (some ⟨w.heap.size, 0, none⟩) 1 1)) (w.alloc (.cells (cellsB l).toArray 83))) : wpListIn F n Tryz.prog ops Q (o :: rest) a w := by
 refine wpListIn_plain hg fun K hK' => ?_
 have hr := slice_of_one hl w
 have hs : o.semAt F.round a.eval = execOp a.eval o := Oper.semAt_plain F _ _ (fun c h => by rw [hop] at h; cases h)
 unfold Oper.wpIn
 rw [hs]
 unfold execOp
 simp only [hop, Array.map, hx]
 refine ⟨fun f hf => by simp [Oper.about, hop] at hf, ?_⟩
 simp [hr, hx, Result.andThen, Oper.uponIn]
 exact hK' _ _ hK
end
section
variable {w : World} {B g : Nat} {P : Nat → Prop} {d : DS}
set_option maxRecDepth 100000 in
set_option maxHeartbeats 4000000 in
theorem wread_any (h : DAt w B P g d) {N : Nat} (h0 : 0 < N) (hN : N ≤ d.rd.length) : Calls Tryz.prog 71 #[.pointer (some ⟨g, 0, none⟩), .int .i64 N] w fun e w' =>
 ∃ v, e = .returned (.tuple #[v, .int .i64 0]) ∧ SecV w' v (d.rd.take N) ∧ (∀ b, v.ownBlock = some b → w.heap.size ≤ b) ∧ Fr (fun _ => False) w w' := by
 have hlen := h.len.2
 have HD := Lib.hid h
 clear h
 obtain ⟨W1, hW1, hb4, hb5, hs1, hf1⟩ := alloc2 w #[.slice none 0 0] #[.int .i64 0] 71 35
 have hmk := make_sectors0 W1 N (by omega)
 refine callsIn_wide (n := 10).1 ?_
 refine callsIn_of_wp_marks Tryz.func71 rfl trivial ?_ rfl
 simp only [Tryz.ntmps71, List.size_toArray, List.length_cons, List.length_nil, Nat.reduceAdd, Nat.reduceSub, Array.replicate_succ, Array.replicate_zero, List.push_toArray, List.append_toArray, List.nil_append, List.cons_append]
 rw [hW1] at hmk
 gi_wp2
 clear hmk hW1 hb4 hb5 hs1 hf1 W1
 obtain ⟨W, hW, b0, b1, b2, b3, b4, b5, hsz, hf⟩ := alloc6 w #[.slice none 0 0] #[.int .i64 0] (cellsB (nought (N * 128))).toArray #[.slice (some ⟨w.heap.size + 1 + 1, 0, none⟩) 0 N] #[.pointer (some ⟨g, 0, none⟩)] #[.int .i64 (N : Nat)] 71 35 83 71 30 3
 refine ⟨trivial, (callsIn_wide.2 (sectorsOf_any _ g N)).mono ?_⟩
 rintro e w7 ⟨rfl, rfl⟩
 rw [← hW]
 have hs4 : ((((w.alloc (.cells #[.slice none 0 0] 71)).alloc (.cells #[.int .i64 0] 35)).alloc (.cells (cellsB (nought (N * 128))).toArray 83)).alloc (.cells #[.slice (some ⟨w.heap.size + 1 + 1, 0, none⟩) 0 N] 71)).heap.size = w.heap.size + 1 + 1 + 1 + 1 := by simp
 rw [hs4]
 clear hs4 hW
 have hDW := HD.out.new hf
 have hPw := HD.out.2
 have hsq := sectors_stops (fun j => j = w.heap.size + 1 + 1 + 1 ∨ j = w.heap.size + 1 + 1 ∨ W.heap.size ≤ j) (w.heap.size + 1 + 1 + 1 + 1 + 1) (w.heap.size + 1 + 1 + 1 + 1) N g B P d hN (fun b hb q => by have := hPw b hb; omega) W (by omega) (by omega) b5 b4 hDW
 have hown0 : W.ownsRow w.heap.size 83 128 (.slice (some ⟨w.heap.size + 1 + 1, 0, none⟩) 0 N) 0 [] := ⟨rfl, .inr ⟨w.heap.size + 1 + 1, N, _, rfl, by omega, b2, Nat.zero_le _, by simp [maxLen]; omega, by simp [cellsB_len, nought_len], rfl⟩⟩
 have HI0 := Lib.hid (And.intro b0 (And.intro b1 (And.intro b3 (And.intro hf (And.intro hsz hown0)))))
 have HSQ := Lib.hid hsq
 clear hsq b0 b1 b2 b3 b4 b5 hf hDW hPw hown0
 gi_wp2
 refine wpIn_rangeFunc_ownH rfl (by omega) (gf := 120) (lb := #[.pointer (some ⟨w.heap.size + 1 + 1 + 1 + 1 + 1, 0, none⟩), .pointer (some ⟨w.heap.size + 1 + 1 + 1 + 1, 0, none⟩)]) rfl trivial (enters_of Tryz.func120 (by kernel_rfl) rfl) HSQ.out (fun h k => h.trans k (fun _ _ q => q)) (fun W0 l o o' hl ho _ _ => frB (fun _ q => Or.inr (Or.inr q)) W0 l o o' hl ho) (Below.refl _ _) (fun _ => rfl)
  (fun pre X => Blk X w.heap.size 71 #[.slice none 0 0] ∧ Blk X (w.heap.size + 1) 35 #[.int .i64 0] ∧ (∃ v, Blk X (w.heap.size + 1 + 1 + 1) 71 #[v] ∧ X.ownsRow w.heap.size 83 128 v pre.length (cellsB (flatS pre)) ∧ ∀ j, v.ownBlock = some j → j = w.heap.size + 1 + 1 ∨ W.heap.size ≤ j) ∧ Fr (fun _ => False) w X ∧ W.heap.size ≤ X.heap.size ∧ pre.length ≤ N)
  (fun _ _ _ => False)
  (fun s X Y row hs hg hr' => by
    obtain ⟨h1, h2, ⟨v, h3, h4, h5⟩, h6, h7, h8⟩ := hs
    exact ⟨blk_own h1 hg hr', blk_own h2 hg hr', ⟨v, blk_own h3 hg hr', row_own h4 hg hr', h5⟩, fr_own h6 (by omega) hg hr', Nat.le_trans h7 hg.size, h8⟩)
  (fun c' s X Y row hs hg hr' => hs.elim)
  ⟨HI0.out.1, HI0.out.2.1, ⟨_, HI0.out.2.2.1, HI0.out.2.2.2.2.2, fun j hj => by injection hj with hj; exact .inl hj.symm⟩, HI0.out.2.2.2.1, Nat.le_refl _, Nat.zero_le _⟩
  (fun x a' X => ∃ Bx, w.heap.size + 5 < Bx ∧ Blk X Bx 83 (cellsB x.1).toArray ∧ a' = { tmps := #[.pointer (some ⟨g, 0, none⟩), .int .i64 (N : Nat), undef, undef, .pointer (some ⟨w.heap.size, 0, none⟩), .pointer (some ⟨w.heap.size + 1, 0, none⟩), .pointer (some ⟨w.heap.size + 1 + 1 + 1, 0, none⟩), .pointer (some ⟨Bx, 0, none⟩), .int .i64 0, .int .i64 (N : Nat), .slice (some ⟨w.heap.size + 1 + 1, 0, none⟩) 0 N, .pointer (some ⟨g, 0, none⟩), .int .i64 (N : Nat), .func (.func 120) #[] #[.pointer (some ⟨w.heap.size + 1 + 1 + 1 + 1 + 1, 0, none⟩), .pointer (some ⟨w.heap.size + 1 + 1 + 1 + 1, 0, none⟩)], av x.1, .int .i64 0, undef, undef, undef, undef, undef, undef, undef, undef], defers := [] })
  (fun x a' _ X Y row hs hg hr' => by obtain ⟨Bx, h1, h2, h3⟩ := hs; exact ⟨Bx, h1, blk_own h2 hg hr', h3⟩)
  ?assign ?body ?done ?stop
 case assign =>
  rintro l pre x X K ⟨h1, h2, ⟨v, h3, h4, h5⟩, h6, h7, h8⟩ hK
  have HI := Lib.hid (And.intro h1 (And.intro h2 (And.intro h3 (And.intro h4 (And.intro h5 (And.intro h6 (And.intro h7 h8)))))))
  have HXL := Lib.hid x.2
  have HNB := Lib.hid (Blk.new X 83 (cellsB (nought 128)).toArray)
  clear h1 h2 h3 h4 h5 h6 h7 h8
  simp only [encS, List.zip_toArray, List.zip_cons_cons, List.zip_nil_right, List.foldl_toArray, List.foldl_cons, List.foldl_nil, List.setIfInBounds_toArray, List.set_cons_succ, List.set_cons_zero]
  gi_wp2_with (first
   | (refine wpListIn_zero rfl 83 rfl zeroSector ?_)
   | (refine wpListIn_store_mid rfl 83 _ _ rfl X.heap.size 0 (cellsB x.1).toArray rfl rfl (HNB.out.there (by simp [cellsB_len, nought_len, HXL.out])) (by rw [infoSector]; simp [cellsB_len, HXL.out]) (all_oneCell_toArray (cellsB_one _)) ?_))
  have hfa : Fr (fun _ => False) X ((X.alloc (.cells (cellsB (nought 128)).toArray 83)).setCells X.heap.size 0 (cellsB x.1)) := Fr.setCells (.inr (Nat.le_refl _)) ((Fr.refl _ X).alloc _)
  have hbx := HNB.out.over (o := 0) (m := x.1) (by rw [nought_len, HXL.out]; omega)
  rw [patch_all (by rw [nought_len, HXL.out])] at hbx
  exact hK _ _ (((KeepsOthers.alloc X _).trans (KeepsOthers.setCells _ _ _ _)).from _) (hfa.mono (fun _ _ q => q.elim))
   ⟨HI.out.1.keep hfa (fun q => q), HI.out.2.1.keep hfa (fun q => q), ⟨v, HI.out.2.2.1.keep hfa (fun q => q), own_keep HI.out.2.2.2.1 hfa (fun _ _ q => q), HI.out.2.2.2.2.1⟩, HI.out.2.2.2.2.2.1.trans hfa (fun _ _ q => q), Nat.le_trans HI.out.2.2.2.2.2.2.1 hfa.size, HI.out.2.2.2.2.2.2.2⟩
   ⟨X.heap.size, by have := HI.out.2.2.2.2.2.2.1; omega, hbx, rfl⟩
 case body =>
  rintro l pre x a' X hl ⟨r, hr'⟩ ⟨h1, h2, ⟨v, h3, h4, h5⟩, h6, h7, h8⟩ ⟨Bx, hBx, hbx, rfl⟩ hlt
  clear hr' r hl
  have c6 := h3.cell 0
  have f6 := h3.frozen 0
  simp at c6
  have HI := Lib.hid (And.intro h1 (And.intro h2 (And.intro h3 (And.intro h4 (And.intro h5 (And.intro h6 (And.intro h7 hbx)))))))
  have HXR := Lib.hid (sec_range x.2 hbx)
  clear h1 h2 h3 h4 h5 h6 h7 hbx
  obtain ⟨i0, hi, hz0, hz1, hz2⟩ := info_parts infoSec
  have hbs := Blk.new X 83 (cellsB x.1).toArray
  have hfs : Fr (fun _ => False) X (X.alloc (.cells (cellsB x.1).toArray 83)) := (Fr.refl _ X).alloc _
  have hns : ∀ j u, (cellsB x.1)[j]? = some u → (X.alloc (.cells (cellsB x.1).toArray 83)).cell? ((⟨X.heap.size, 0, none⟩ : Addr).add j) = some u := fun j u hj => by
   rw [Addr.add_mid]
   exact (sec_range x.2 hbs) j u hj
  have HAP := Lib.hid (And.intro (own_keep HI.out.2.2.2.1 hfs (fun _ _ q => q)) (And.intro hns (And.intro hz0 (And.intro hz1 (And.intro hz2 (And.intro hi (And.intro hlt HI.out.2.2.2.2.2.1.size)))))))
  clear hbs hfs hns hz0 hz1 hz2 hi
  gi_wp2_with (first
   | (refine wpListIn_load_mid rfl 83 _ rfl Bx 0 rfl (cellsB x.1) _ HXR.out Tryz.underlying83 rfl (by rw [infoSector, cellsB_len, x.2]) ?_)
   | (refine wpListIn_build_sec rfl (.tmp 20) rfl x.2 rfl ?_)
   | (refine wpListIn_append_own_at _ rfl (.tmp 19) (.tmp 21) 71 rfl w.heap.size 83 i0 (av (nought 128)) 128 128 Tryz.underlying71 HAP.out.2.2.2.2.2.1 HAP.out.2.2.1 HAP.out.2.2.2.1 HAP.out.2.2.2.2.1 (by simp [Value.cells, cellsB_len, nought_len]) (by omega) v pre.length (cellsB (flatS pre)) rfl HAP.out.1 ⟨X.heap.size, 0, none⟩ 1 1 (cellsB x.1) rfl (by rw [cellsB_len, x.2]) HAP.out.2.1 (cellsB_one _) (by have := HAP.out.2.2.2.2.2.2.1; simp only [maxLen]; omega) (by have := HAP.out.2.2.2.2.2.2.1; omega) (by have := HAP.out.2.2.2.2.2.2.2; simp; omega) ?_; intro v' X3 ho3 hg3 _ hat3; obtain ⟨A3, n3, c3, rfl⟩ := own_form ho3; have H3 := Lib.hid (And.intro ho3 (And.intro hg3 hat3)); clear ho3 hg3 hat3; have fA : Fr (fun j => v.ownBlock = some j) (X.alloc (.cells (cellsB x.1).toArray 83)) X3 := (Fr.refl (fun j => v.ownBlock = some j) _).grown H3.out.2.1 (fun j e => .inl e); have b6 := (HI.out.2.2.1.keep ((Fr.refl (fun _ => False) X).alloc (.cells (cellsB x.1).toArray 83)) (fun q => q)).keep fA (own_ne HAP.out.1 (HI.out.2.2.1.keep ((Fr.refl (fun _ => False) X).alloc _) (fun q => q)) (by decide)); have d6 := b6.cell 0; have g6 := b6.frozen 0; simp at d6; clear c6 f6))
  have hX2 : Fr (fun _ => False) X (X.alloc (.cells (cellsB x.1).toArray 83)) := (Fr.refl _ X).alloc _
  have hvb : ∀ j, v.ownBlock = some j → j = w.heap.size + 1 + 1 ∨ W.heap.size ≤ j := HI.out.2.2.2.2.1
  have hX3 : Fr (fun j => v.ownBlock = some j) X X3 := (hX2.mono (fun _ _ q => q.elim)).trans fA (fun _ _ q => q)
  have fB : Fr (fun j => j = w.heap.size + 1 + 1 + 1) X3 (X3.setCell ⟨w.heap.size + 1 + 1 + 1, 0, none⟩ (.slice A3 n3 c3)) := (Fr.refl (fun j => j = w.heap.size + 1 + 1 + 1) X3).setCell (p := ⟨w.heap.size + 1 + 1 + 1, 0, none⟩) (.inl rfl) _
  have y1 := (HI.out.1.keep hX3 (own_ne HI.out.2.2.2.1 HI.out.1 (by decide))).keep fB (by omega)
  have y2 := (HI.out.2.1.keep hX3 (own_ne HI.out.2.2.2.1 HI.out.2.1 (by decide))).keep fB (by omega)
  have y3 : Blk (X3.setCell ⟨w.heap.size + 1 + 1 + 1, 0, none⟩ (.slice A3 n3 c3)) (w.heap.size + 1 + 1 + 1) 71 #[.slice A3 n3 c3] := b6.set_ 0 _
  have y4 := own_keep H3.out.1 fB (fun j hj e => own_ne H3.out.1 b6 (by decide) (by rw [hj, e]))
  have y6 : Fr (fun j => j = w.heap.size + 1 + 1 + 1 ∨ j = w.heap.size + 1 + 1 ∨ W.heap.size ≤ j) X (X3.setCell ⟨w.heap.size + 1 + 1 + 1, 0, none⟩ (.slice A3 n3 c3)) :=
   (hX3.mono (fun j _ q => Or.inr (hvb j q))).trans fB (fun j _ q => Or.inl q)
  have y7 : KeepsOthers X (X3.setCell ⟨w.heap.size + 1 + 1 + 1, 0, none⟩ (.slice A3 n3 c3)) := (((KeepsOthers.alloc X _)).trans (KeepsOthers.of_grownBy H3.out.2.1 (own_cells HAP.out.1))).trans (KeepsOthers.setCell _ _ _)
  have y8 : Fr (fun _ => False) w (X3.setCell ⟨w.heap.size + 1 + 1 + 1, 0, none⟩ (.slice A3 n3 c3)) := HI.out.2.2.2.2.2.1.trans y6 (fun j hj q => by omega)
  have hfl : flatS pre ++ x.1 = flatS (pre ++ [x]) := (flatS_snoc pre x).symm
  rw [← cellsB_app, hfl] at y4
  refine ⟨y7.from _, y6, y1, y2, ⟨_, y3, by rw [List.length_append]; exact y4, fun j hj => ?_⟩, y8, Nat.le_trans HI.out.2.2.2.2.2.2.1 y6.size, by rw [List.length_append]; simp; omega⟩
  rcases H3.out.2.2 with q | q
  · exact hvb j (q ▸ hj)
  · rw [q] at hj
    injection hj with hj
    have := HI.out.2.2.2.2.2.2.1
    simp at hj
    omega
 case done =>
  rintro D xs X hD rfl ⟨h1, h2, ⟨v, h3, h4, h5⟩, h6, h7, h8⟩ hK
  have c0 := h1.cell 0
  have f0 := h1.frozen 0
  have d0 := h2.cell 0
  have g0 := h2.frozen 0
  have e0 := h3.cell 0
  simp at c0 d0 e0
  obtain ⟨A3, n3, c3, rfl⟩ := own_form h4
  have HI := Lib.hid (And.intro h1 (And.intro h2 (And.intro h4 (And.intro h6 h8))))
  clear h1 h2 h3 h4 h5 h6 h7 h8
  gi_wp2
  have hYf : Fr (fun j => j = w.heap.size ∨ j = w.heap.size + 1) X ((X.setCell ⟨w.heap.size, 0, none⟩ (.slice A3 n3 c3)).setCell ⟨w.heap.size + 1, 0, none⟩ (.int .i64 0)) := ((Fr.refl (fun j => j = w.heap.size ∨ j = w.heap.size + 1) X).setCell (p := ⟨w.heap.size, 0, none⟩) (.inl (.inl rfl)) _).setCell (p := ⟨w.heap.size + 1, 0, none⟩) (.inl (.inr rfl)) _
  have hK1 := ((KeepsOthers.setCell X ⟨w.heap.size, 0, none⟩ (.slice A3 n3 c3)).trans (KeepsOthers.setCell _ ⟨w.heap.size + 1, 0, none⟩ (.int .i64 0))).same D _ hK rfl
  have z4 : Blk ((X.setCell ⟨w.heap.size, 0, none⟩ (.slice A3 n3 c3)).setCell ⟨w.heap.size + 1, 0, none⟩ (.int .i64 0)) w.heap.size 71 #[.slice A3 n3 c3] := (HI.out.1.set_ 0 (.slice A3 n3 c3)).keep ((Fr.refl (fun j => j = w.heap.size + 1) _).setCell (p := ⟨w.heap.size + 1, 0, none⟩) (.inl rfl) _) (by omega)
  have z5 : Blk ((X.setCell ⟨w.heap.size, 0, none⟩ (.slice A3 n3 c3)).setCell ⟨w.heap.size + 1, 0, none⟩ (.int .i64 0)) (w.heap.size + 1) 35 #[.int .i64 0] := (HI.out.2.1.keep ((Fr.refl (fun j => j = w.heap.size) X).setCell (p := ⟨w.heap.size, 0, none⟩) (.inl rfl) (.slice A3 n3 c3)) (by omega)).set_ 0 _
  have zo := own_keep HI.out.2.2.1 hYf (fun j hj q => by
   rcases q with q | q
   · exact own_ne HI.out.2.2.1 HI.out.1 (by decide) (by rw [hj, q])
   · exact own_ne HI.out.2.2.1 HI.out.2.1 (by decide) (by rw [hj, q]))
  have zf : Fr (fun _ => False) w ((X.setCell ⟨w.heap.size, 0, none⟩ (.slice A3 n3 c3)).setCell ⟨w.heap.size + 1, 0, none⟩ (.int .i64 0)) := HI.out.2.2.2.1.trans hYf (fun j hj q => by omega)
  obtain ⟨z1, z2, z3⟩ := fin_put hK1 hD (by omega) zf
  refine ⟨by simp, .inl ⟨_, _, rfl, run_takeDeferred hK1, ?_⟩⟩
  have hls := upto_secs HD.out.all128 hN
  have ho := z3 zo
  have hfl : flatS (upto (secOf d) N) = (d.rd.take N).flatten := by unfold flatS; rw [hls]
  have hll : (upto (secOf d) N).length = (d.rd.take N).length := by rw [← hls, List.length_map]
  rw [hfl, hll] at ho
  exact ⟨_, results_read2 rfl rfl (z2 z4) (z2 z5), _, rfl, secV_of_own ho (fun s hs => HD.out.all128 s (List.mem_of_mem_take hs)), fun b hb => own_low ho hb, z1⟩
 case stop => exact fun D c' pre X hD _ h => h.elim
end
end Go.Proofs.YtcnlgbjkjlbmbaaGreat


