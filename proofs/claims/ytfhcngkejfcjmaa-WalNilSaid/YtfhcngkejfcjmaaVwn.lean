/- The law WalNil. -/
import Derived.Test.YtfhcngkejfcjmaaVrh
namespace Go.Proofs.Ytfhcngkejfcjmaa
open Go.RowKit

abbrev logZ : Array Value := #[.pointer none, .int .i64 0, .int .u64 0, .int .u64 0, .int .i64 0, .int .i64 0, .bool false]
theorem kd_write {N : Nat} (hN : 0 < N) (s : List UInt8) : KD ((newD N).write 0 s) N s (fun _ => some (nought 128)) := by
  have k := KD.new hN
  have h := write_free k.fr 0 s
  refine ⟨h.1, fun j => Nat.le_trans (write_vs_le _ 0 j s) (Nat.le_refl _), by rw [h.2, List.length_set, k.ln], hN, by rw [h.2, List.getElem?_set_self (by rw [k.ln]; exact hN)], fun j hj hj2 => by rw [h.2, List.getElem?_set_ne (by omega)]; exact k.bd j hj hj2⟩
theorem leaf_none (w : World) (t2 : TypeId) : LvV (w.alloc (.cells #[.int .i64 0, .slice none 0 0] t2)) (.slice (some ⟨w.heap.size, 0, none⟩) 1 1) [⟨0, []⟩] := by
  have hs := Blk.new w t2 #[.int .i64 0, .slice none 0 0]
  refine ⟨_, _, rfl, Nat.le_refl _, by decide, fun _ => ⟨w.heap.size, 0, rfl, fun i x hx => ?_⟩⟩
  obtain rfl : i = 0 := by
    have := (List.getElem?_eq_some_iff.1 hx).1
    simp at this
    omega
  obtain rfl : x = ⟨0, []⟩ := by simpa using hx.symm
  exact ⟨hs.cell 0, none, 0, hs.cell 1, Rd.nil _ _, by decide⟩
def r00 : List Chg := [⟨0, pageOf []⟩]
theorem r00_len : ∀ x ∈ r00, x.p.length = 512 := by
  have h := pageOf_len []
  unfold r00
  generalize pageOf [] = p at h
  intro x hx
  rw [List.mem_singleton.1 hx]
  exact h
set_option maxRecDepth 100000 in
set_option maxHeartbeats 8000000 in
theorem nil_any (w : World) : Calls Try.prog 5 #[] w fun e w' => e = .returned (.bool true) ∧ Fr (fun _ => False) w w' := by
  obtain ⟨Z, hZ⟩ : ∃ Z, Z = w.heap.size := ⟨_, rfl⟩
  have hz := Blk.new w 64 logZ
  have hs1 : (w.alloc (.cells logZ 64)).heap.size = w.heap.size + 1 := by
    show (w.heap.push _).size = w.heap.size + 1
    simp
  have hl := Blk.new (w.alloc (.cells logZ 64)) 55 #[.pointer none, .pointer (some ⟨w.heap.size, 0, none⟩)]
  rw [hs1] at hl
  have f1 := (Fr.refl (fun _ => False) (w.alloc (.cells logZ 64))).alloc (.cells #[.pointer none, .pointer (some ⟨w.heap.size, 0, none⟩)] 55)
  have HZ0 := Lib.hid (And.intro (hz.keep f1 (fun q => q)) (And.intro hl (((Fr.refl (fun _ => False) w).alloc (.cells logZ 64)).trans f1 (fun _ _ q => q))))
  clear hz hl hs1 f1
  go_enter Try.func5, Try.ntmps5
  go_wp2_with fail
  generalize (w.alloc (.cells logZ 64)).alloc (.cells #[.pointer none, .pointer (some ⟨w.heap.size, 0, none⟩)] 55) = w1 at *
  rw [← hZ] at HZ0 ⊢
  obtain ⟨L, hL⟩ : ∃ L, L = Z + 1 := ⟨_, rfl⟩
  rw [← hL] at HZ0 ⊢
  clear hL hZ
  go_loopw [3] (fun s wr => ∃ k : Nat, s = .int .i64 k ∧ k ≤ 2 ∧ Hid (wr = w1)) (fun s _ => 2 - (intOf s).toNat)
  case atStart => exact ⟨0, rfl, by omega, Lib.hid rfl⟩
  case round =>
    obtain ⟨k, rfl, hk, HR⟩ := hrel
    have hw := HR.out
    subst hw
    have hk' : k = 0 ∨ k = 1 ∨ k = 2 := by omega
    clear hk
    rcases hk' with rfl | rfl | rfl
    · have hcp := HZ0.out.2.1.cell 0
      simp at hcp
      go_wp2_with fail
      refine (commit_none (lnone_nil _)).mono ?_
      rintro e w' ⟨rfl, rfl⟩
      go_wp2_with fail
      refine (trunc_none (lnone_nil _)).mono ?_
      rintro e w' ⟨rfl, rfl⟩
      go_wp2_with fail
      refine (lroom_none (lnone_nil _)).mono ?_
      rintro e w' ⟨rfl, rfl⟩
      go_wp2_with fail
      refine (lcount_none (lnone_nil _)).mono ?_
      rintro e w' ⟨rfl, rfl⟩
      go_wp2_with fail
      refine (lsince_none (lnone_nil _)).mono ?_
      rintro e w' ⟨rfl, rfl⟩
      go_wp2_with fail
      refine (llen_none (lnone_nil _)).mono ?_
      rintro e w' ⟨rfl, rfl⟩
      go_wp2_with fail
      refine (ldead_none (lnone_nil _)).mono ?_
      rintro e w' ⟨rfl, rfl⟩
      go_wp2_with fail
      exact ⟨⟨1, rfl, by omega, Lib.hid trivial⟩, by simp [intOf]⟩
    · have hcp := HZ0.out.2.1.cell 1
      simp at hcp
      have HN := Lib.hid (lnone_zero (w := wr) (b := Z) (HZ0.out.1.cell 0))
      go_wp2_with fail
      refine (commit_none (HN.out)).mono ?_
      rintro e w' ⟨rfl, rfl⟩
      go_wp2_with fail
      refine (trunc_none (HN.out)).mono ?_
      rintro e w' ⟨rfl, rfl⟩
      go_wp2_with fail
      refine (lroom_none (HN.out)).mono ?_
      rintro e w' ⟨rfl, rfl⟩
      go_wp2_with fail
      refine (lcount_none (HN.out)).mono ?_
      rintro e w' ⟨rfl, rfl⟩
      go_wp2_with fail
      refine (lsince_none (HN.out)).mono ?_
      rintro e w' ⟨rfl, rfl⟩
      go_wp2_with fail
      refine (llen_none (HN.out)).mono ?_
      rintro e w' ⟨rfl, rfl⟩
      go_wp2_with fail
      refine (ldead_none (HN.out)).mono ?_
      rintro e w' ⟨rfl, rfl⟩
      go_wp2_with fail
      exact ⟨⟨2, rfl, by omega, Lib.hid trivial⟩, by simp [intOf]⟩
    · go_wp2_with fail
      refine (open_none (sectors_nil _) 9).mono ?_
      rintro e w' ⟨rfl, rfl⟩
      go_wp2_with fail
      have hzd := Blk.new wr 73 (dskC none 0 0 (.map none) false 0 false)
      have hsec : Calls Try.prog 63 #[.pointer (some ⟨wr.heap.size, 0, none⟩)] (wr.alloc (.cells (dskC none 0 0 (.map none) false 0 false) 73)) fun e w' => e = .returned (.int .i64 0) ∧ (wr.alloc (.cells (dskC none 0 0 (.map none) false 0 false) 73)) = w' := by
        have := sectors_any hzd
        simpa using this
      have f2 : Fr (fun _ => False) w (wr.alloc (.cells (dskC none 0 0 (.map none) false 0 false) 73)) := HZ0.out.2.2.alloc _
      refine (open_none hsec 9).mono ?_
      clear hzd hsec
      rintro e w2 ⟨rfl, hw2⟩
      rw [hw2] at f2
      clear hw2
      go_wp2_with fail
      refine (anew_any w2 (n := 10) (by omega) (by omega)).mono ?_
      rintro e w3 ⟨g, P, rfl, hd, f3⟩
      have k0 := KD.new (N := 10) (by omega)
      have H3 := Lib.hid (And.intro hd (And.intro (f2.trans f3 (fun _ _ q => q)) (And.intro k0 f2.size)))
      clear hd f2 f3 k0 HZ0
      go_wp2_with fail
      refine (format_none (sectors_nil _) 9).mono ?_
      rintro e w' ⟨rfl, rfl⟩
      go_wp2_with fail
      refine (format_bad H3.out.1 10 (by omega) (by omega) (by rw [H3.out.2.2.1.ln]; decide)).mono ?_
      rintro e w' ⟨rfl, rfl⟩
      go_wp2_with fail
      refine (format_bad H3.out.1 3 (by omega) (by omega) (by rw [H3.out.2.2.1.ln]; decide)).mono ?_
      rintro e w' ⟨rfl, rfl⟩
      go_wp2_with fail
      refine (rhead_any _ 4611686018427387903 1 (by decide) (by decide)).mono ?_
      rintro e w4 ⟨rfl, f4⟩
      go_wp2_with fail
      have hwr := awrite_any (H3.out.1.new f4) (i := 0) (by rw [H3.out.2.2.1.ln]; omega) (hdS_len 4611686018427387903 1) (kd_le H3.out.2.2.1 10000 (by omega) 0)
      refine hwr.mono ?_
      clear hwr
      rintro e w5 ⟨rfl, ⟨P5, hp1, hp2⟩, f5⟩
      have f5w : Fr (fun _ => False) w w5 := (H3.out.2.1.trans f4 (fun _ _ q => q)).trans f5 (fun i hi q => by have := (H3.out.1.2 i q).1; have := H3.out.2.2.2; omega)
      have kk := kd_write (N := 10) (by omega) (hdS 4611686018427387903 1)
      generalize (newD 10).write 0 (hdS 4611686018427387903 1) = d5 at *
      have hnum := hdS_nums (c := 4611686018427387903) (s := 1) (by decide) (by decide)
      have HO := Lib.hid (open_go hp1 (z := 9) (by omega) (by omega) (by rw [kk.ln]; omega) (by rw [kk.head]; exact hdS_is_hd (by omega) (by omega) (by decide)) (by rw [kk.head, hnum.1]; decide) (kd_le kk 10000 (by omega)))
      rw [kk.head, hnum.1, hnum.2] at HO
      have hrc : recs 4611686018427387903 1 ((d5.rd.take (9 + 1)).drop 1) = [] := recs_nought (by rw [kk.body (by omega) (by omega)]) _ _
      rw [hrc] at HO
      have k6 := kk.settle0 (x := hdS (4611686018427387903 + 1) 1)
      have H5 := Lib.hid (And.intro hp1 (And.intro f5w (And.intro k6 H3.out.2.2.2)))
      clear hp1 f5w kk hnum hrc k6 f4 f5 hp2 H3
      go_wp2_with fail
      refine HO.out.mono ?_
      rintro e w6 ⟨_, o2, ⟨P6, hp1, hp2, hp3⟩, f6⟩
      obtain ⟨lb, v, rfl, hlb, hlg, hv⟩ := o2 H5.out.2.2.1.1
      have hlP := hp3 lb v rfl
      have hlg' : LgW w6 lb g 9 maxC 1 0 0 false := hlg
      have f6w : Fr (fun _ => False) w w6 := H5.out.2.1.trans f6 (fun i hi q => by have := (H5.out.1.2 i q).1; have := H5.out.2.2.2; omega)
      have hlb' : w2.heap.size ≤ lb := Nat.le_trans H5.out.1.g_lt.2 hlb
      have H6 := Lib.hid (And.intro hp1 (And.intro hlP (And.intro hlg' (And.intro f6w (And.intro hlb' (And.intro H5.out.2.2.2 H5.out.2.2.1.2))))))
      clear hp1 hp2 hp3 hlP hlg hlg' f6 f6w hlb hlb' hv o2 HO H5
      go_wp2_with fail
      refine (lcount_any H6.out.2.2.1).mono ?_
      rintro e w' ⟨rfl, rfl⟩
      go_wp2_with fail
      refine (ltrunc_full H6.out.2.2.1).mono ?_
      rintro e w7 ⟨rfl, f7⟩
      have hlg7 := H6.out.2.2.1.keep f7 id
      have f7w := H6.out.2.2.2.1.trans f7 (fun _ _ q => q)
      have hd7 := H6.out.1.new f7
      have H7 := Lib.hid (And.intro hlg7 (And.intro f7w hd7))
      clear hlg7 f7w hd7 f7
      go_wp2_with fail
      refine (ldead_any H7.out.1).mono ?_
      rintro e w8 ⟨rfl, rfl⟩
      go_wp2_with fail
      refine (record_any (leaf_none w8 _) (by decide)).mono ?_
      rintro e w9 ⟨v9, rfl, ho, f9⟩
      rw [show List.map Leaf.chg [⟨0, []⟩] = r00 from rfl] at ho
      have f89 : Fr (fun _ => False) w8 w9 := ((Fr.refl _ w8).alloc _).trans f9 (fun _ _ q => q)
      have hsz : w8.heap.size ≤ (w8.alloc (.cells #[.int .i64 0, .slice none 0 0] 79)).heap.size := by simp only [World.size_alloc]; omega
      have hvP : ∀ b, v9.ownBlock = some b → ¬ P6 b := fun b hb q => by
        have h1 := own_low ho hb
        have h2 := (H7.out.2.2.2 b q).2
        omega
      have k6 := H6.out.2.2.2.2.2.2
      have hm : mayR r00 = true := by decide +kernel
      have hl6 : (rowS maxC 0 r00).length = 6 := by rw [rowS_len, bytesR_len r00_len]; rfl
      have ks := k6.settle1 (i := 1) (ss := rowS maxC 0 r00) (by decide) (by rw [hl6]; decide)
      generalize d5.settle 0 [hdS (4611686018427387903 + 1) 1] = d6 at *
      have HC : Hid (Calls Try.prog 24 #[.pointer (some ⟨lb, 0, none⟩), v9] w9 fun e w' => e = .returned (.int .i64 0) ∧ (∃ P', DAt w' w2.heap.size P' g (d6.settle 1 (rowS maxC 0 r00))) ∧ Fr (fun b => P6 b ∨ b = lb) w9 w') := Lib.hid ((lcommit_any (H7.out.1.keep f89 id) H6.out.2.1 (H7.out.2.2.new f89) (rcV_of_own ho r00_len) hvP hm (by decide) (by decide) (by decide) (by rw [k6.ln]; decide) (kd_le k6 10000 (by omega))).mono (fun e w' q => by
        have q2 := q.2 (by rw [hl6]; decide)
        have k1 : d6.settles (1 + 0) (rowS maxC 0 r00) = true := ks.1
        simp only [k1, if_true] at q2
        exact ⟨q2.1, ⟨_, q2.2.2.1.choose_spec.1⟩, q2.2.2.2⟩))
      have f9w := H7.out.2.1.trans f89 (fun _ _ q => q)
      have H9 := Lib.hid (And.intro f9w (And.intro (H7.out.2.2.new f89) (And.intro ks.2 (And.intro H6.out.2.2.2.2.1 H6.out.2.2.2.2.2.1))))
      clear ho f89 hsz hvP k6 hm hl6 ks f9w f9 H7 H6
      go_wp2_with fail
      refine HC.out.mono ?_
      rintro e w10 ⟨rfl, ⟨P10, hp1⟩, f10⟩
      have f10w : Fr (fun _ => False) w w10 := H9.out.1.trans f10 (fun i hi q => by
        have h1 := H9.out.2.2.2.1
        have h2 := H9.out.2.2.2.2
        rcases q with q | q
        · have := (H9.out.2.1.2 i q).1
          omega
        · omega)
      have k10 := H9.out.2.2.1
      have hnum := hdS_nums (c := maxC) (s := 1) (by decide) (by decide)
      have k10' : KD (d6.settle 1 (rowS maxC 0 r00)) 10 (hdS maxC 1) _ := k10
      have HF := Lib.hid (open_full hp1 (z := 9) (by omega) (by omega) (by rw [k10'.ln]; omega) (by rw [k10'.head]; exact hdS_is_hd (by decide) (by decide) (by decide)) (by rw [k10'.head, hnum.1]))
      have H10 := Lib.hid f10w
      clear hp1 f10 f10w k10 k10' hnum HC H9
      go_wp2_with fail
      refine HF.out.mono ?_
      rintro e w11 ⟨rfl, f11⟩
      have H11 := Lib.hid (H10.out.trans f11 (fun _ _ q => q))
      clear f11 HF H10
      go_wp2_with fail
      refine (known_any w11).mono ?_
      rintro e w12 ⟨rfl, f12⟩
      have H12 := Lib.hid (H11.out.trans f12 (fun _ _ q => q))
      clear f12 H11
      go_wp2_with fail
      go_ret
      exact ⟨rfl, H12.out⟩
end Go.Proofs.Ytfhcngkejfcjmaa
