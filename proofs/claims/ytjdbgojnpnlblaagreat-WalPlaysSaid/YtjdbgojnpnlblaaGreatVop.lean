/- wal: Open. -/
import Derived.Test.YtjdbgojnpnlblaaGreatVco
namespace Go.Proofs.YtjdbgojnpnlblaaGreat
open Go.RowKit
attribute [local go_sem] Oper.semAt_some

/-- Records, in memory. -/
def RcsV (w : World) (base : Nat) (v : Value) (rs : List (List Chg)) : Prop := ∃ vs : List Value, w.ownsRow base 60 1 v vs.length vs ∧ vs.length = rs.length ∧ ∀ (i : Nat) (u : Value) (r : List Chg), vs[i]? = some u → rs[i]? = some r → RcV w u r ∧ ∀ b, u.ownBlock = some b → base ≤ b ∧ ∃ cs, Blk w b 120 cs
theorem build_log (g z c s : Nat) (w : World) : (Instr.build 84 #[(0, .pointer (some ⟨g, 0, none⟩)), (1, .int .i64 (z : Nat)), (2, .agg #[.int .u64 (c : Nat), .int .u64 (s : Nat)])]).run Tryz.prog w = .ok (.agg (logC g z c s 0 0 false)) w := by kernel_rfl
set_option maxRecDepth 100000 in
set_option maxHeartbeats 4000000 in
theorem open_full {w : World} {B g z : Nat} {P : Nat → Prop} {d : DS} (h : DAt w B P g d) (h4 : 4 ≤ z) (hz : z ≤ 4000) (hzl : z + 1 ≤ d.rd.length) (hx : isHd d.head = true) (hm : cntOf d.head = maxC) : Calls Tryz.prog 8 #[.pointer (some ⟨g, 0, none⟩), .int .i64 z] w fun e w' =>
    e = .returned (.tuple #[.pointer none, .slice none 0 0, .int .i64 8]) ∧ Fr (fun _ => False) w w' := by
  have HT := Lib.hid (fits_any h (z : Int) (by omega) (by omega))
  rw [show fitE d.rd.length (z : Int) = 0 by unfold fitE; rw [if_neg (by omega)]] at HT
  have HR := Lib.hid (wread_any h (N := z + 1) (by omega) hzl)
  have hxl : d.head.length = 128 := h.get128 (i := 0) (by omega)
  have hvl : hdVal d.head = hV (cntOf d.head) (sinOf d.head) := by simp [hdVal, hx]
  have HW := Lib.hid fun w => whd_any w d.head hxl
  rw [hvl, hx] at HW
  have hd0 : (d.rd.take (z + 1))[0]? = some d.head := by
    unfold DS.head
    rw [List.getElem?_take, if_pos (by omega)]
    simp [show 0 < d.rd.length by omega]
  have hln : (d.rd.take (z + 1)).length = z + 1 := by rw [List.length_take]; omega
  obtain ⟨cc, hcc⟩ : ∃ cc, cc = cntOf d.head := ⟨_, rfl⟩
  obtain ⟨si, hsi⟩ : ∃ si, si = sinOf d.head := ⟨_, rfl⟩
  rw [← hcc, ← hsi] at HW
  rw [← hcc] at hm
  have HH := Lib.hid (And.intro hd0 (And.intro hln (And.intro hxl hm)))
  clear h h4 hzl hx hm hvl hd0 hln hcc hsi hxl
  have e1 : (1 : Int) + (z : Int) = ((z + 1 : Nat) : Int) := by omega
  rw [Int.natCast_add] at HR
  have e2 : ((z : Int) + ((1 : Nat) : Int)) = 1 + (z : Int) := by omega
  rw [e2] at HR
  clear e1 e2
  go_enter Tryz.func8, Tryz.ntmps8
  go_wp2_with fail
  refine HT.out.mono ?_
  rintro e w1 ⟨rfl, rfl⟩
  clear HT
  go_wp2_with fail
  refine HR.out.mono ?_
  rintro e w1 ⟨v, rfl, hv, _, hf1⟩
  obtain ⟨A, cap, rfl, hc1, hc2, h3⟩ := hv
  obtain ⟨b, off, rfl, hsec⟩ := h3 (by rw [HH.out.2.1]; omega)
  have hr0 := (hsec 0 _ HH.out.1).2
  rw [Nat.zero_mul, Nat.add_zero] at hr0
  rw [HH.out.2.1]
  have hz0 : (0 : Int) < ((z + 1 : Nat) : Int) := by omega
  have H1 := Lib.hid (And.intro hr0 hf1)
  clear h3 hsec hr0 hf1 hc1 hc2 HR
  go_wp2_with (first
    | (refine wpList_load_mid rfl 45 _ rfl b off rfl (cellsB d.head) _ H1.out.1 Tryz.underlying45 rfl (by rw [infoSector, cellsB_len, HH.out.2.2.1]) ?_))
  refine (HW.out _).mono ?_
  rintro e w2 ⟨rfl, hf2⟩
  have HF2 := Lib.hid (H1.out.2.trans hf2 (fun _ _ q => q))
  clear hf2 HW hz0
  go_wp2_with fail
  have hnx := next_full (w2.alloc (.cells #[.int .u64 (cc : Nat), .int .u64 (si : Nat)] 78)) si
  rw [← HH.out.2.2.2] at hnx
  refine hnx.mono ?_
  rintro e w3 ⟨rfl, hf3⟩
  have HF3 := Lib.hid ((HF2.out.alloc (.cells #[.int .u64 (cc : Nat), .int .u64 (si : Nat)] 78)).trans hf3 (fun _ _ q => q))
  clear hf3 hnx
  go_wp2_with fail
  refine bodyPost_ret (results_tmp3 rfl _ _ _) rfl ?_
  exact ⟨rfl, HF3.out.alloc _⟩
end Go.Proofs.YtjdbgojnpnlblaaGreat
