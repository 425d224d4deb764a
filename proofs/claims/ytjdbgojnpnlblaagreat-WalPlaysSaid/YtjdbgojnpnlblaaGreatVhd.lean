/- wal: a head's sector, the head of a sector, the next one, the one without records. -/
import Derived.Test.YtjdbgojnpnlblaaGreatVnu
namespace Go.Proofs.YtjdbgojnpnlblaaGreat
open Go.RowKit

/-- The sector of a head. -/
def markL : List UInt8 := [67, 80, 76, 71]
def hd20 (c s : Nat) : List UInt8 := markL ++ (be c 8 ++ be s 8)
def hdS (c s : Nat) : List UInt8 := hd20 c s ++ nought 108
theorem hd20_len (c s : Nat) : (hd20 c s).length = 20 := by simp [hd20, markL, be_len]
theorem hdS_len (c s : Nat) : (hdS c s).length = 128 := by simp [hdS, hd20_len, nought_len]
theorem hdS_is (c s : Nat) : patch (nought 128) 0 (hd20 c s) = hdS c s := by
  unfold patch hdS
  rw [List.take_zero, List.nil_append, hd20_len, Nat.zero_add, nought_drop]
abbrev hV (c s : Nat) : Value := .agg #[.int .u64 (c : Nat), .int .u64 (s : Nat)]
theorem infoHd : (Tryz.prog.info? 78).map (·.size) = some 2 := by kernel_rfl
theorem alloc2 (w : World) (C0 C1 : Array Value) (t0 t1 : TypeId) : ∃ W, W = (w.alloc (.cells C0 t0)).alloc (.cells C1 t1) ∧ Blk W w.heap.size t0 C0 ∧ Blk W (w.heap.size + 1) t1 C1 ∧ W.heap.size = w.heap.size + 2 ∧ Fr (fun _ => False) w W :=
  ⟨_, rfl, (Blk.new w t0 C0).keep (F := fun _ => False) ((Fr.refl _ _).alloc _) (fun q => q), by simpa using Blk.new (w.alloc (.cells C0 t0)) t1 C1, by simp, ((Fr.refl _ w).alloc _).alloc _⟩

section
variable {ops : Array Oper} {o : Oper} {a : Act} {Q : Exit → Act → World → Prop}
theorem run_mark (w : World) (ty : TypeId) : ∃ c w', (Builtin.append_ #[68, 9] ty #[.slice none 0 0, .string { data := #[67, 80, 76, 71] }]).run Tryz.prog w = .ok (.slice (some ⟨w.heap.size, 0, none⟩) 4 c) w' ∧ w'.ownsRow w.heap.size 5 1 (.slice (some ⟨w.heap.size, 0, none⟩) 4 c) markL.length (cellsB markL) ∧ Fr (fun _ => False) w w' := by
  obtain ⟨i0, hi, hz0, hz1, hz2⟩ := info_parts infoU8
  have h := run_append_nil_string (P := Tryz.prog) w 68 9 ty 5 i0 (.int .u8 0) Tryz.underlying68 Tryz.underlying9 hi hz0 { data := #[67, 80, 76, 71] } (by decide) (by decide) (by rw [hz2]; decide)
  have hsz : ({ data := #[67, 80, 76, 71] } : ByteArray).size = 4 := rfl
  rw [hsz] at h
  have hg := grownCap_ge w 4 0 5
  have hm : grownCap w 4 0 5 ≤ maxLen := grownCap_le_maxLen _ _ _ _ (by simp [maxLen])
  generalize hC : (Array.map (fun b => Value.int IntKind.u8 (b.toNat : Int)) ({ data := #[67, 80, 76, 71] } : ByteArray).data ++ Builtin.zeroCells (Value.int IntKind.u8 0).cells (grownCap w 4 0 5 - 4)) = C at h
  have h1 : C.size = grownCap w 4 0 5 := by
    rw [← hC]
    simp [Builtin.zeroCells, Value.cells]
    omega
  have h2 : C.toList.take 4 = cellsB markL := by
    rw [← hC]
    simp [markL, cellsB]
  exact ⟨_, _, h, ⟨by simp [markL, cellsB], .inr ⟨w.heap.size, _, C, rfl, Nat.le_refl _, Blk.new w.drew _ _, hg, hm, by omega, h2⟩⟩, ((Fr.refl _ w).drew).alloc _⟩
theorem wpList_mark {rest : List Oper} {w : World} (hg : o.guard = none) (hop : o.op = Op.call { callee := Callee.builtin Builtin.append, args := #[.const (.slice none 0 0), .const (.string { data := #[67, 80, 76, 71] })], argTypes := #[68, 9] })
    (hK : ∀ v' w', w'.ownsRow w.heap.size 5 1 v' markL.length (cellsB markL) → Fr (fun _ => False) w w' → wpList Tryz.prog ops Q rest (a.put o.dst v') w') : wpList Tryz.prog ops Q (o :: rest) a w := by
  refine wpList_plain hg fun K hK' => ?_
  obtain ⟨c, w', hrun, h2, h3⟩ := run_mark w o.type
  unfold Oper.wp
  simp [execOp, hop, resolve, invoke, builtin, Act.eval, hrun, Result.andThen]
  exact hK' _ _ (hK _ w' h2 h3)
end

theorem own_low {w : World} {base e size n k : Nat} {v : Value} {xs : List Value} (h : w.ownsRow base e size v n xs) (hk : v.ownBlock = some k) : base ≤ k := by
  obtain ⟨-, h | ⟨b, c, cs, rfl, h1, -⟩⟩ := h
  · obtain ⟨rfl, -⟩ := h
    cases hk
  · injection hk with hk
    subst hk
    exact h1
set_option maxRecDepth 100000 in
set_option maxHeartbeats 1000000 in
theorem sector_any (w : World) (c s : Nat) (hc : c ≤ 18446744073709551615) (hs : s ≤ 18446744073709551615) : Calls Tryz.prog 41 #[hV c s] w fun e w' => e = .returned (av (hdS c s)) ∧ Fr (fun _ => False) w w' := by
  have HC := Lib.hid (And.intro hc hs)
  clear hc hs
  go_enter Tryz.func41, Tryz.ntmps41
  obtain ⟨W, hW, k0, k1, hsz, hfr⟩ := alloc2 w #[.int .u64 (c : Nat), .int .u64 (s : Nat)] (cellsB (nought 128)).toArray 78 45
  have HK := Lib.hid (And.intro k0 (And.intro k1 (And.intro hsz hfr)))
  clear k0 k1 hsz hfr
  go_wp2_with (first
    | (refine wpList_zero rfl 45 rfl zeroSector ?_)
    | (rw [← hW]; refine wpList_mark rfl rfl ?_; intro v1 w1 ho1 hf1; have H1 := Lib.hid (And.intro ho1 hf1); have b1 := (HK.out.1.keep hf1 (fun q => q)); have c0 := b1.cell 0; simp at c0; clear ho1 hf1 b1))
  refine (appnum_any H1.out.1 H1.out.2.size c 8 HC.out.1 (by omega) (by simp [markL])).mono ?_
  rintro e w2 ⟨v2, rfl, ho2, hf2, hb2⟩
  have g2 : Fr (fun _ => False) W w2 := H1.out.2.trans hf2 (fun i hi q => absurd (own_low H1.out.1 q) (by omega))
  have c1 := (HK.out.1.keep g2 (fun q => q)).cell 1
  simp at c1
  have H2 := Lib.hid (And.intro ho2 g2)
  clear ho2 hf2 hb2 g2 H1 c0
  go_wp2_with fail
  refine (appnum_any H2.out.1 H2.out.2.size s 8 HC.out.2 (by omega) (by simp [markL, be_len])).mono ?_
  rintro e w3 ⟨v3, rfl, ho3, hf3, hb3⟩
  have g3 : Fr (fun _ => False) W w3 := H2.out.2.trans hf3 (fun i hi q => absurd (own_low H2.out.1 q) (by omega))
  rw [List.append_assoc, show markL ++ (be c 8 ++ be s 8) = hd20 c s from rfl, hd20_len] at ho3
  have H3 := Lib.hid (And.intro ho3 g3)
  clear ho3 hf3 hb3 g3 H2 c1
  obtain ⟨A, cp, rfl, hcp1, hcp2⟩ := own_slice H3.out.1
  have hR := Rd.of_own H3.out.1
  obtain ⟨ad, rfl, hlt⟩ := hR.lt (by omega)
  obtain ⟨w6, hcp, t1, t2⟩ : ∃ w6, (∀ ty, (Builtin.copy_ #[68, 68] ty #[.slice (some ⟨w3.heap.size, 0, none⟩) 128 128, .slice (some ad) 20 cp]).run Tryz.prog (w3.alloc (.cells (cellsB (nought 128)).toArray 45)) = .ok (goInt 20) w6) ∧ Blk w6 w3.heap.size 45 (cellsB (hdS c s)).toArray ∧ Fr (fun _ => False) w3 w6 := by
    obtain ⟨W5, hW5, hb5, hf5⟩ : ∃ W5, W5 = w3.alloc (.cells (cellsB (nought 128)).toArray 45) ∧ Blk W5 w3.heap.size 45 (cellsB (nought 128)).toArray ∧ Fr (fun _ => False) w3 W5 := ⟨_, rfl, Blk.new w3 _ _, (Fr.refl _ _).alloc _⟩
    rw [← hW5]
    obtain ⟨ad', e, hc⟩ := (hR.keep hf5 (fun _ _ q => q)).cellsB (by omega)
    injection e with e
    subst e
    refine ⟨W5.setCells w3.heap.size 0 (cellsB (hd20 c s)), fun ty => ?_, ?_, Fr.setCells (.inr (Nat.le_refl _)) hf5⟩
    · have h := run_copy_cells (P := Tryz.prog) W5 68 68 ty 5 w3.heap.size 0 128 128 ad 20 cp (cellsB (hd20 c s)) Tryz.underlying68 (by kernel_rfl) (by rw [cellsB_len, hd20_len]; rfl)
        (fun j v hv => hc j v hv) (fun j hj => ((hb5.there (o := 0) (n := 20) (by simp [cellsB_len, nought_len])) j (by rw [cellsB_len, hd20_len] at hj; exact hj)).1) (fun j hj => ((hb5.there (o := 0) (n := 20) (by simp [cellsB_len, nought_len])) j (by rw [cellsB_len, hd20_len] at hj; exact hj)).2) (cellsB_one _)
      rw [cellsB_len, hd20_len] at h
      exact h
    · have t1 := Blk.over (w := W5) (o := 0) (m := hd20 c s) hb5 (by rw [nought_len, hd20_len]; omega)
      rw [hdS_is] at t1
      exact t1
  clear hcp1 hcp2 hlt hR
  have z3 : w.heap.size + 2 ≤ w3.heap.size := by have := HK.out.2.2.1; have := H3.out.2.size; omega
  have HR : Hid (w6.rangeAt w3.heap.size 0 (cellsB (hdS c s))) := Lib.hid (by
    have := t1.range 0 128
    rw [List.drop_zero, List.take_of_length_le (Nat.le_of_eq (hdS_len c s))] at this
    exact this)
  have H6 := Lib.hid (And.intro ((HK.out.2.2.2.trans H3.out.2 (fun _ _ q => q)).trans t2 (fun _ _ q => q)) ((HK.out.2.1.keep H3.out.2 (fun q => q)).keep t2 (fun q => q)))
  clear t1 t2
  obtain ⟨z, hz⟩ : ∃ z, z = hdS c s := ⟨_, rfl⟩
  have hzl : z.length = 128 := hz ▸ hdS_len c s
  rw [← hz] at HR
  go_wp2_with (first
    | (refine wpList_zero rfl 45 rfl zeroSector ?_)
    | (refine wpList_load_mid rfl 45 _ rfl w3.heap.size 0 rfl (cellsB z) _ HR.out Tryz.underlying45 rfl (by rw [infoSector, cellsB_len, hzl]) ?_)
    | (refine wpList_store_mid rfl 45 _ _ rfl (w.heap.size + 1) 0 (cellsB z).toArray rfl rfl (H6.out.2.there (by simp [cellsB_len, nought_len, hzl])) (by rw [infoSector]; simp [cellsB_len, hzl]) (all_oneCell_toArray (cellsB_one _)) ?_))
  refine bodyPost_ret (results_cell_row rfl _ _ (w.heap.size + 1) 45 (cellsB z).toArray (0, 0) _ rfl ?_ Tryz.underlying45 rfl (by rw [infoSector]; simp [cellsB_len, hzl])) rfl ?_
  · have := H6.out.2.over (o := 0) (m := z) (by rw [nought_len, hzl]; omega)
    rw [patch_all (by rw [nought_len, hzl])] at this
    exact this
  · exact ⟨by rw [hz], Fr.setCells (.inr (by omega)) H6.out.1⟩
end Go.Proofs.YtjdbgojnpnlblaaGreat
