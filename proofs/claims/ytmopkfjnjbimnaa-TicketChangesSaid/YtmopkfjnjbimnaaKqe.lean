/- ticket's Bytes. -/
import Derived.Test.YtmopkfjnjbimnaaKqd
namespace Go.Proofs.Ytmopkfjnjbimnaa
open Go.RowKit

theorem infoPt : (Try.prog.info? 69).map (·.size) = some 11 := by kernel_rfl
theorem infoPt' (t : TkD) (sc sx se : Value) : (Try.prog.info? 69).map (·.size) = some (tkA t sc sx se).size := infoPt
theorem wp_new (w : World) : WP (w.alloc (.cells #[.slice none 0 0, .bool false] 68)) w.heap.size [] := ⟨_, Pw.WrS.new w⟩
theorem bytes_short {t : TkD} (h : PutOk t) : (bytesT t).length ≤ 140737488355328 := by
  have h1 := flat_le cpBy 25 cpBy_len t.cps
  have h2 := flat_le txBy 9 txBy_len t.txs
  have h3 := flat_le evBy 7 evBy_len t.his
  have h4 := h.nc
  have h5 := h.nt
  have h6 := h.nh
  have h7 : t.loc.data.toList.length = 6 := by rw [← size_list]; exact h.loc
  unfold bytesT headBy
  simp only [List.length_append, be_len]
  omega
def bytesE (t : TkD) : Nat := if mayT t = true then 0 else 2
def bytesR (t : TkD) : List UInt8 := if mayT t = true then bytesT t else []
set_option maxRecDepth 100000 in
set_option maxHeartbeats 8000000 in
theorem pbytes_any {w : World} {v : Value} {t : TkD} (hv : TkV w v t) (hok : TkOk t) (hl : t.loc.size ≤ 1000) (h1n : t.cps.length ≤ 100000) (h2n : t.txs.length ≤ 100000) (h3n : t.his.length ≤ 100000) :
    Calls Try.prog 11 #[v] w fun e w' => ∃ x, e = .returned (.tuple #[x, .int .i64 (bytesE t : Nat)]) ∧ OwB w' w.heap.size x (bytesR t) ∧ Fr (fun _ => False) w w' := by
  obtain ⟨E, hE⟩ : ∃ E, E = bytesE t := ⟨_, rfl⟩
  obtain ⟨R, hR⟩ : ∃ R, R = bytesR t := ⟨_, rfl⟩
  rw [← hE, ← hR]
  have HT := Lib.hid hok
  have HV := Lib.hid hv
  obtain ⟨sc, sx, se, rfl, a1, a2, a3⟩ := hv
  have HA := Lib.hid (And.intro a1 (And.intro a2 a3))
  obtain ⟨A1, n1, c1, e1, l1⟩ : ∃ A n c, sc = .slice A n c ∧ n = t.cps.length := by obtain ⟨A, c, e, _⟩ := a1.slice; exact ⟨A, _, c, e, rfl⟩
  obtain ⟨A2, n2, c2, e2, l2⟩ : ∃ A n c, sx = .slice A n c ∧ n = t.txs.length := by obtain ⟨A, c, e, _⟩ := a2.slice; exact ⟨A, _, c, e, rfl⟩
  obtain ⟨A3, n3, c3, e3, l3⟩ : ∃ A n c, se = .slice A n c ∧ n = t.his.length := by obtain ⟨A, c, e, _⟩ := a3.slice; exact ⟨A, _, c, e, rfl⟩
  subst e1 e2 e3
  have HL := Lib.hid (And.intro l1 (And.intro l2 l3))
  obtain ⟨W0, hW0⟩ : ∃ W, W = w.alloc (.cells (tkA t (.slice A1 n1 c1) (.slice A2 n2 c2) (.slice A3 n3 c3)) 27) := ⟨_, rfl⟩
  have HB : Hid (Fr (fun _ => False) w W0 ∧ Blk W0 w.heap.size 27 (tkA t (.slice A1 n1 c1) (.slice A2 n2 c2) (.slice A3 n3 c3)) ∧ W0.heap.size = w.heap.size + 1) := Lib.hid (by rw [hW0]; exact ⟨(Fr.refl _ w).alloc _, Blk.new w _ _, Array.size_push _⟩)
  have HQ := Lib.hid hW0
  have HMT := Lib.hid (fun W f => pmayt_any (w := W) (HV.out.keep0 f) hok hl)
  have HCL := Lib.hid (fun W f => pclone_any (w := W) (HV.out.keep0 f) h1n h2n h3n)
  have HER := Lib.hid (And.intro hE hR)
  have HBL := Lib.hid HB.out.2.1
  clear a1 a2 a3 l1 l2 l3 hW0 hok hl h1n h2n h3n hE hR
  go_enter Try.func11, Try.ntmps11
  go_upto_region 1 with fail
  rw [← HQ.out]
  clear HQ
  cases e0 : mayT t with
  | false =>
    rw [e0] at HMT
    obtain ⟨rfl, rfl⟩ : E = 2 ∧ R = [] := ⟨by rw [HER.out.1]; unfold bytesE; rw [e0]; rfl, by rw [HER.out.2]; unfold bytesR; rw [e0]; rfl⟩
    go_wp2_with (refine wpList_load_mid rfl 27 (.tmp 1) rfl w.heap.size 0 rfl (tkA t (.slice A1 n1 c1) (.slice A2 n2 c2) (.slice A3 n3 c3)).toList _ (blk_range HBL.out) Try.underlying27 rfl infoTk ?_)
    refine (HMT.out _ HB.out.1).mono ?_
    rintro e w1 ⟨rfl, f1⟩
    have HF1 := Lib.hid (HB.out.1.trans f1 (fun _ _ q => q))
    clear f1
    go_wp2_with fail
    go_ret2
    exact ⟨_, rfl, World.ownsRow_nil _ _ _ _, HF1.out⟩
  | true =>
    rw [e0] at HMT
    have HPO := Lib.hid (putOk_of e0 HT.out)
    obtain ⟨rfl, rfl⟩ : E = 0 ∧ R = bytesT t := ⟨by rw [HER.out.1]; unfold bytesE; rw [e0]; rfl, by rw [HER.out.2]; unfold bytesR; rw [e0]; rfl⟩
    clear e0
    go_wp2_with (refine wpList_load_mid rfl 27 (.tmp 1) rfl w.heap.size 0 rfl (tkA t (.slice A1 n1 c1) (.slice A2 n2 c2) (.slice A3 n3 c3)).toList _ (blk_range HBL.out) Try.underlying27 rfl infoTk ?_)
    refine (HMT.out _ HB.out.1).mono ?_
    rintro e w1 ⟨rfl, f1⟩
    have HF1 := Lib.hid (HB.out.1.trans f1 (fun _ _ q => q))
    have HBL1 := Lib.hid (HBL.out.keep f1 (fun q => q))
    clear f1 HMT HBL
    go_upto_region 4 with fail
    obtain ⟨W2, hW2⟩ : ∃ W, W = w1.alloc (.cells #[.slice none 0 0, .bool false] 68) := ⟨_, rfl⟩
    obtain ⟨gW, hgW⟩ : ∃ g, g = w1.heap.size := ⟨_, rfl⟩
    have HW2 : Hid (WP W2 gW [] ∧ Fr (fun _ => False) w1 W2 ∧ W2.heap.size = gW + 1 ∧ w.heap.size ≤ gW) := Lib.hid (by
      rw [hW2, hgW]
      exact ⟨wp_new w1, (Fr.refl _ w1).alloc _, Array.size_push _, HF1.out.size⟩)
    have HBL2 := Lib.hid (HBL1.out.keep HW2.out.2.1 (fun q => q))
    have HF2 := Lib.hid (HF1.out.trans HW2.out.2.1 (fun _ _ q => q))
    rw [← hW2, ← hgW]
    clear hW2 hgW HBL1 HF1
    go_wp2_with (refine wpList_load_mid rfl 27 (.tmp 1) rfl w.heap.size 0 rfl (tkA t (.slice A1 n1 c1) (.slice A2 n2 c2) (.slice A3 n3 c3)).toList _ (blk_range HBL2.out) Try.underlying27 rfl infoTk ?_)
    refine (HCL.out _ HF2.out).mono ?_
    rintro e w3 ⟨ov, rfl, ⟨oc, ox, oe, rfl, ho1, ho2, ho3⟩, f3⟩
    obtain ⟨A4, n4, c4, ev4⟩ : ∃ A n c, oc = .slice A n c := by obtain ⟨A, c, e, _⟩ := own_slice ho1; exact ⟨A, _, c, e⟩
    obtain ⟨A5, n5, c5, ev5⟩ : ∃ A n c, ox = .slice A n c := by obtain ⟨A, c, e, _⟩ := own_slice ho2; exact ⟨A, _, c, e⟩
    obtain ⟨A6, n6, c6, ev6⟩ : ∃ A n c, oe = .slice A n c := by obtain ⟨A, c, e, _⟩ := own_slice ho3; exact ⟨A, _, c, e⟩
    subst ev4 ev5 ev6
    have HO3 := Lib.hid (And.intro ho1 (And.intro ho2 ho3))
    have HW3 := Lib.hid (HW2.out.1.keep0 f3)
    have HF3 := Lib.hid (HF2.out.trans f3 (fun _ _ q => q))
    have HS3 := Lib.hid f3.size
    clear ho1 ho2 ho3 f3
    go_upto_region 5 with fail
    obtain ⟨W4, hW4⟩ : ∃ W, W = w3.alloc (.cells (tkA t (.slice A4 n4 c4) (.slice A5 n5 c5) (.slice A6 n6 c6)) 69) := ⟨_, rfl⟩
    obtain ⟨gP, hgP⟩ : ∃ g, g = w3.heap.size := ⟨_, rfl⟩
    have HW4 : Hid (Fr (fun _ => False) w3 W4 ∧ Blk W4 gP 69 (tkA t (.slice A4 n4 c4) (.slice A5 n5 c5) (.slice A6 n6 c6))) := Lib.hid (by
      rw [hW4, hgP]
      exact ⟨(Fr.refl _ w3).alloc _, Blk.new w3 _ _⟩)
    have HGP : Hid (gW + 1 ≤ gP ∧ gP < W4.heap.size) := Lib.hid ⟨by rw [hgP, ← HW2.out.2.2.1]; exact HS3.out, HW4.out.2.lt⟩
    have HOV := Lib.hid (pover_any (w := W4) (gW := gW) (gP := gP) (B := W2.heap.size) (HW3.out.keep0 HW4.out.1) HPO.out HW4.out.2 (by have := HGP.out; omega) (by have := HGP.out; omega) (by have := HW2.out.2.2.1; omega) (HO3.out.1.keep0 HW4.out.1) (HO3.out.2.1.keep0 HW4.out.1) (HO3.out.2.2.keep0 HW4.out.1))
    have HF4 := Lib.hid (HF3.out.trans HW4.out.1 (fun _ _ q => q))
    rw [← hW4, ← hgP]
    clear hW4 hgP HO3 HW3 HF3 HW4
    go_wp2_with fail
    refine HOV.out.mono ?_
    rintro e w5 ⟨rfl, ⟨v5, hv5⟩, s5⟩
    have HF5 := Lib.hid (HF4.out.trans s5.fr (fun b hb q => by have h6 : gW ≤ b := q; have := HW2.out.2.2.2; omega))
    have HEN := Lib.hid (Pw.end_any hv5 (bytes_short HPO.out))
    clear hv5 s5 HOV HF4
    go_wp2_with fail
    refine HEN.out.mono ?_
    rintro e w6 ⟨x, rfl, hx1, hx2⟩
    have HX := Lib.hid (And.intro hx1 (HF5.out.trans hx2 (fun _ _ q => q)))
    clear hx1 hx2
    go_wp2_with fail
    go_ret2
    refine ⟨_, rfl, ?_, HX.out.2⟩
    have h9 := HX.out.1
    exact ⟨h9.1, h9.2.elim .inl (fun ⟨g, c, cs, q1, q2, q3⟩ => .inr ⟨g, c, cs, q1, Nat.le_trans HF5.out.size q2, q3⟩)⟩
end Go.Proofs.Ytmopkfjnjbimnaa
