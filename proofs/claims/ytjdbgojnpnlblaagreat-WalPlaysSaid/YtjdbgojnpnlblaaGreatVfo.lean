/- wal: fits, forget, Format. -/
import Derived.Test.YtjdbgojnpnlblaaGreatVse
namespace Go.Proofs.YtjdbgojnpnlblaaGreat
open Go.RowKit

def fitE (n : Nat) (z : Int) : Int := if z < 4 ∨ 4000 < z ∨ (n : Int) < 1 + z then 2 else 0
section
variable {w : World} {B g : Nat} {P : Nat → Prop} {d : DS} {v : Value} {ss : List (List UInt8)}
theorem DAt.len (h : DAt w B P g d) : 0 < d.rd.length ∧ d.rd.length ≤ 8192 := by
  obtain ⟨⟨R, M, D, val, k1⟩, k2⟩ := h
  exact ⟨k1.n0, k1.n1⟩
theorem DAt.all128 (h : DAt w B P g d) : ∀ s ∈ d.rd, s.length = 128 := by
  obtain ⟨⟨R, M, D, val, k1⟩, k2⟩ := h
  exact k1.hl
theorem DAt.get128 (h : DAt w B P g d) {i : Nat} (hi : i < d.rd.length) : (d.rd.getD i []).length = 128 :=
  h.all128 _ (List.mem_of_getElem? (i := i) (by simp [hi]))
theorem asecs_any (h : DAt w B P g d) : Calls Tryz.prog 58 #[.pointer (some ⟨g, 0, none⟩)] w fun e w' => e = .returned (.int .i64 (d.rd.length : Nat)) ∧ w = w' := by
  obtain ⟨⟨R, M, D, val, k1⟩, k2⟩ := h
  exact sectors_any k1.blk
theorem fits_any (h : DAt w B P g d) (z : Int) (hz0 : -9223372036854775808 ≤ z) (hz1 : z ≤ 9223372036854775807) : Calls Tryz.prog 35 #[.pointer (some ⟨g, 0, none⟩), .int .i64 z] w fun e w' => e = .returned (.int .i64 (fitE d.rd.length z)) ∧ w = w' := by
  have hl := h.len
  have HS := Lib.hid (asecs_any h)
  obtain ⟨n, hn⟩ : ∃ n, n = d.rd.length := ⟨_, rfl⟩
  rw [← hn] at hl HS ⊢
  clear h hn
  have hn0 : ¬ ((n : Int) = 0) := by omega
  by_cases h1 : z < 4
  · rw [show fitE n z = 2 by unfold fitE; rw [if_pos (.inl h1)]]
    go_enter Tryz.func35, Tryz.ntmps35
    go_wp2_with (go_at_call 58; refine HS.out.mono ?_; rintro e w' ⟨rfl, rfl⟩)
    go_ret
    exact ⟨rfl, rfl⟩
  by_cases h2 : z > 4000
  · rw [show fitE n z = 2 by unfold fitE; rw [if_pos (.inr (.inl h2))]]
    go_enter Tryz.func35, Tryz.ntmps35
    go_wp2_with (go_at_call 58; refine HS.out.mono ?_; rintro e w' ⟨rfl, rfl⟩)
    go_ret
    exact ⟨rfl, rfl⟩
  have hw : IntKind.i64.wrap (1 + z) = 1 + z := by simp [IntKind.wrap, IntKind.signed, IntKind.bits]; omega
  by_cases h3 : 1 + z > (n : Int)
  · rw [show fitE n z = 2 by unfold fitE; rw [if_pos (.inr (.inr h3))]]
    go_enter Tryz.func35, Tryz.ntmps35
    go_wp2_with (go_at_call 58; refine HS.out.mono ?_; rintro e w' ⟨rfl, rfl⟩)
    go_ret
    exact ⟨rfl, rfl⟩
  · rw [show fitE n z = 0 by unfold fitE; rw [if_neg (by omega)]]
    go_enter Tryz.func35, Tryz.ntmps35
    go_wp2_with (go_at_call 58; refine HS.out.mono ?_; rintro e w' ⟨rfl, rfl⟩)
    go_ret
    exact ⟨rfl, rfl⟩

/-- What stands on one sector, one behind the other. -/
theorem SecV.one {w : World} {b : Nat} {s : List UInt8} (hb : Blk w b 45 (cellsB s).toArray) (hs : s.length = 128) : SecV w (.slice (some ⟨b, 0, none⟩) 1 1) [s] :=
  ⟨_, 1, rfl, Nat.le_refl _, by simp [maxLen], fun _ => ⟨b, 0, rfl, fun i x hi => by
    cases i with
    | zero =>
      injection hi with hi
      subst hi
      exact ⟨hs, by rw [Nat.zero_mul, Nat.zero_add]; exact sec_range hs hb⟩
    | succ i => simp at hi⟩⟩

/-- A sector boxed anew. -/
theorem fresh_sec (w : World) {s : List UInt8} (hs : s.length = 128) : ∃ W, W = (w.alloc (.cells (cellsB (nought 128)).toArray 45)).setCells w.heap.size 0 (cellsB s) ∧ Blk W w.heap.size 45 (cellsB s).toArray ∧ Fr (fun _ => False) w W ∧
    (w.alloc (.cells (cellsB (nought 128)).toArray 45)).there w.heap.size 0 (cellsB s).toArray.size ∧ W.rangeAt w.heap.size 0 (cellsB s) := by
  have hbn := Blk.new w 45 (cellsB (nought 128)).toArray
  have q := hbn.over (o := 0) (m := s) (by rw [nought_len, hs]; omega)
  rw [patch_all (by rw [nought_len, hs])] at q
  exact ⟨_, rfl, q, Fr.setCells (.inr (Nat.le_refl _)) ((Fr.refl _ w).alloc _), hbn.there (by simp [cellsB_len, nought_len, hs]), sec_range hs q⟩
theorem sector_one (w : World) {c : Nat} (hc : c < maxC) : Calls Tryz.prog 41 #[.agg #[.int .u64 ((c : Int) + 1), .int .u64 ((c : Int) + 1)]] w fun e w' => e = .returned (av (hdS (c + 1) (c + 1))) ∧ Fr (fun _ => False) w w' :=
  sector_any w (c + 1) (c + 1) (by unfold maxC at hc; omega) (by unfold maxC at hc; omega)
def DS.head (d : DS) : List UInt8 := d.rd.getD 0 []
def DS.forgetting (d : DS) : Bool := isHd d.head && decide (cntOf d.head < maxC)
def DS.forget (d : DS) : DS := if d.forgetting then d.settle 0 [hdS (cntOf d.head + 1) (cntOf d.head + 1)] else d
def DS.forgets (d : DS) : Bool := if d.forgetting then d.settles 0 [hdS (cntOf d.head + 1) (cntOf d.head + 1)] else true
theorem isHd_le {x : List UInt8} (h : isHd x = true) : 1 ≤ sinOf x ∧ sinOf x ≤ cntOf x ∧ cntOf x ≤ maxC := by
  unfold isHd at h
  simp only [Bool.and_eq_true, decide_eq_true_eq] at h
  exact ⟨h.1, h.2.1, h.2.2.1⟩
set_option maxRecDepth 100000 in
set_option maxHeartbeats 2000000 in
theorem forget_any (h : DAt w B P g d) (hN : ∀ j, (d.vs j).length ≤ 10000) : Calls Tryz.prog 47 #[.pointer (some ⟨g, 0, none⟩)] w fun e w' =>
    e = .returned (.int .i64 (if d.forgets then 0 else 10)) ∧ (∃ P', DAt w' B P' g d.forget ∧ ∀ b, P' b → P b ∨ w.heap.size ≤ b) ∧ Fr P w w' := by
  have HR := Lib.hid (aread_any h (k := 0) h.len.1)
  have hx := h.get128 h.len.1
  obtain ⟨x, hxx⟩ : ∃ x, x = d.rd.getD 0 [] := ⟨_, rfl⟩
  rw [← hxx] at HR hx
  have HX := Lib.hid (And.intro hx (show d.head = x from hxx.symm))
  have HD := Lib.hid (And.intro h hN)
  obtain ⟨z, hz⟩ : ∃ z : Int, z = if d.forgets then 0 else 10 := ⟨_, rfl⟩
  rw [← hz]
  have HZ := Lib.hid hz
  clear h hN hx hxx hz
  go_enter Tryz.func47, Tryz.ntmps47
  go_wp2_with fail
  refine HR.out.mono ?_
  rintro e w1 ⟨rfl, f1⟩
  obtain ⟨W2, hW2, hb2, hf2, hth, hr2⟩ := fresh_sec w1 HX.out.1
  have HB2 := Lib.hid (And.intro hb2 (And.intro (f1.trans hf2 (fun _ _ q => q)) hr2))
  have HTH := Lib.hid hth
  clear hb2 hf2 hr2 hth f1 HR
  go_wp2_with (first
    | (refine wpList_zero rfl 45 rfl zeroSector ?_)
    | (refine wpList_store_mid rfl 45 _ _ rfl w1.heap.size 0 (cellsB x).toArray rfl rfl HTH.out (by rw [infoSector]; simp [cellsB_len, HX.out.1]) (all_oneCell_toArray (cellsB_one _)) ?_; rw [← hW2]; clear hW2)
    | (refine wpList_load_mid rfl 45 _ rfl w1.heap.size 0 rfl (cellsB x) _ HB2.out.2.2 Tryz.underlying45 rfl (by rw [infoSector, cellsB_len, HX.out.1]) ?_))
  refine (whd_any W2 x HX.out.1).mono ?_
  rintro e w3 ⟨rfl, f3⟩
  have HF3 := Lib.hid (HB2.out.2.1.trans f3 (fun _ _ q => q))
  clear f3 HB2 HTH
  cases his : isHd x with
  | false =>
    have hv : hdVal x = hV 0 0 := by simp [hdVal, his]
    rw [hv]
    have hfg : d.forgetting = false := by unfold DS.forgetting; rw [HX.out.2, his]; rfl
    have HE := Lib.hid (And.intro (show d.forget = d by unfold DS.forget; rw [hfg]; rfl) (show z = 0 by rw [HZ.out]; unfold DS.forgets; rw [hfg]; rfl))
    clear hv hfg his
    go_wp2_with fail
    refine (trunc_any _ 0 0 (by decide) (by decide)).mono ?_
    rintro e w4 ⟨rfl, f4⟩
    have HF4 := Lib.hid ((HF3.out.alloc (.cells #[.int .u64 0, .int .u64 0] 78)).trans f4 (fun _ _ q => q))
    clear f4 HF3
    go_wp2_with fail
    go_ret
    have f5 := HF4.out.alloc (.cells #[.int .u64 1, .int .u64 1] 78)
    rw [HE.out.1]
    exact ⟨by rw [HE.out.2]; rfl, ⟨P, HD.out.1.new f5, fun b hb => .inl hb⟩, f5.mono (fun _ _ q => q.elim)⟩
  | true =>
    have hle := isHd_le his
    have hv : hdVal x = hV (cntOf x) (sinOf x) := by simp [hdVal, his]
    rw [hv]
    have HI := Lib.hid his
    obtain ⟨c, hc⟩ : ∃ c, c = cntOf x := ⟨_, rfl⟩
    obtain ⟨si, hsi⟩ : ∃ si, si = sinOf x := ⟨_, rfl⟩
    rw [← hc, ← hsi] at hle ⊢
    have HL := Lib.hid hle
    clear hle hv his hsi
    by_cases hm : c = maxC
    · have hfg : d.forgetting = false := by unfold DS.forgetting; rw [HX.out.2, ← hc, hm]; simp
      have HE := Lib.hid (And.intro (show d.forget = d by unfold DS.forget; rw [hfg]; rfl) (show z = 0 by rw [HZ.out]; unfold DS.forgets; rw [hfg]; rfl))
      have HM := Lib.hid hm
      clear hfg hc hm
      go_wp2_with fail
      refine (trunc_full _ c si HM.out).mono ?_
      rintro e w4 ⟨rfl, f4⟩
      have HF4 := Lib.hid ((HF3.out.alloc (.cells #[.int .u64 (c : Nat), .int .u64 (si : Nat)] 78)).trans f4 (fun _ _ q => q))
      clear f4 HF3
      go_wp2_with fail
      go_ret
      have f5 := HF4.out.alloc (.cells #[.int .u64 0, .int .u64 0] 78)
      rw [HE.out.1]
      exact ⟨by rw [HE.out.2]; rfl, ⟨P, HD.out.1.new f5, fun b hb => .inl hb⟩, f5.mono (fun _ _ q => q.elim)⟩
    · have hlt : c < maxC := by have := HL.out.2.2; omega
      have hfg : d.forgetting = true := by unfold DS.forgetting; rw [HX.out.2, ← hc, HI.out]; simpa using hlt
      have HE := Lib.hid (And.intro (show d.forget = d.settle 0 [hdS (c + 1) (c + 1)] by unfold DS.forget; rw [hfg, HX.out.2, ← hc]; rfl) (show z = if d.settles 0 [hdS (c + 1) (c + 1)] then 0 else 10 by rw [HZ.out]; unfold DS.forgets; rw [hfg, HX.out.2, ← hc]; rfl))
      have HCL := Lib.hid hlt
      clear hfg hc hlt hm
      go_wp2_with fail
      refine (trunc_any _ c si HCL.out (Nat.le_trans HL.out.2.1 HL.out.2.2)).mono ?_
      rintro e w4 ⟨rfl, f4⟩
      have HF4 := Lib.hid ((HF3.out.alloc (.cells #[.int .u64 (c : Nat), .int .u64 (si : Nat)] 78)).trans f4 (fun _ _ q => q))
      clear f4 HF3
      go_wp2_with fail
      refine (sector_one _ HCL.out).mono ?_
      rintro e w5 ⟨rfl, f5⟩
      have f5' := (HF4.out.alloc (.cells #[.int .u64 ((c : Int) + 1), .int .u64 ((c : Int) + 1)] 78)).trans f5 (fun _ _ q => q)
      have f6 := f5'.alloc (.cells (cellsB (hdS (c + 1) (c + 1))).toArray 45)
      have hb6 := Blk.new w5 45 (cellsB (hdS (c + 1) (c + 1))).toArray
      have HS := Lib.hid (settle_any (HD.out.1.new f6) (i := 0) (SecV.one hb6 (hdS_len _ _)) (fun b hb q => by
        injection hb with hb
        have h1 := (HD.out.1.2 b q).2
        have h2 := f5'.size
        simp at hb
        omega) (by have := HD.out.1.len; simp; omega) HD.out.1.len.2 HD.out.2)
      have HF6 := Lib.hid f6
      clear f5 f5' f6 hb6 HF4
      go_wp2_with (refine wpList_build_sec rfl _ rfl (hdS_len (c + 1) (c + 1)) rfl ?_)
      rw [← HE.out.2] at HS
      refine HS.out.mono ?_
      rintro e w7 ⟨rfl, ⟨P', h7, h8⟩, f7⟩
      have H7 := Lib.hid (And.intro h7 (And.intro h8 f7))
      clear h7 h8 f7 HS
      go_wp2_with fail
      go_ret
      rw [HE.out.1]
      exact ⟨rfl, ⟨P', H7.out.1, fun b hb => (H7.out.2.1 b hb).imp id (fun q => Nat.le_trans HF6.out.size q)⟩, (HF6.out.mono (fun _ _ q => q.elim)).trans H7.out.2.2 (fun _ _ q => q)⟩
end
end Go.Proofs.YtjdbgojnpnlblaaGreat
