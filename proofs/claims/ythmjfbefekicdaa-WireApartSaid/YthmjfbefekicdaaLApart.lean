/- The law WireApart, walked. -/
import Derived.Test.YthmjfbefekicdaaKnown
import Derived.Test.YthmjfbefekicdaaRest
import Derived.Deep.QuietTactic
import Derived.BigQuiet
namespace Go.Proofs.Ythmjfbefekicdaa
open Go.RowKit

/-- Bytes of one's own that may be turned: n cells of a block. -/
def RowB (w : World) (A : Option Addr) (n : Nat) : Prop :=
  0 < n → ∃ g cs, A = some ⟨g, 0, none⟩ ∧ Blk w g 5 cs ∧ ∀ j, j < n → ∃ z : Int, 0 ≤ z ∧ z ≤ 255 ∧ cs[j]? = some (.int .u8 z)
/-- The block of an address. -/
def blkOf (A : Option Addr) (k : Nat) : Prop := ∃ ad, A = some ad ∧ ad.block = k

theorem own_row {w : World} {base : Nat} {v : Value} {l : List UInt8} (h : w.ownsRow base 5 1 v l.length (cellsB l)) :
    ∃ A c, v = .slice A l.length c ∧ (A = none → c = 0) ∧ l.length ≤ c ∧ Rd w A l.length l ∧ RowB w A l.length ∧ (∀ k, blkOf A k → base ≤ k ∧ k < w.heap.size) := by
  obtain ⟨A, c, rfl, hA, hc, _, hr⟩ := own_rd h
  refine ⟨A, c, rfl, hA, hc, hr, fun hn => ?_, ?_⟩
  · rcases h.2 with ⟨_, h0⟩ | ⟨g, cap, cur, hv, _, hg, _, _, _, ht⟩
    · omega
    · injection hv with hv _ _
      refine ⟨g, cur, hv, hg, fun j hj => ?_⟩
      have hj2 : (cellsB l)[j]? = some (.int .u8 (l[j].toNat : Int)) := by simp [cellsB, hj]
      rw [← ht, List.getElem?_take] at hj2
      split at hj2
      · rw [Array.getElem?_toList] at hj2
        have := (l[j]).toNat_lt
        exact ⟨_, by omega, by omega, hj2⟩
      · cases hj2
  · rintro k ⟨ad, rfl, rfl⟩
    exact h.lt ad.block rfl

theorem RowB.keep {F : Nat → Prop} {w w' : World} {A : Option Addr} {n : Nat} (h : RowB w A n) (f : Fr F w w') (hF : ∀ k, blkOf A k → ¬ F k) : RowB w' A n := by
  intro hn
  obtain ⟨g, cs, rfl, hb, hz⟩ := h hn
  exact ⟨g, cs, rfl, hb.keep f (hF g ⟨_, rfl, rfl⟩), hz⟩

theorem RowB.set_ {w : World} {g n : Nat} {cs : Array Value} (hb : Blk w g 5 cs) (hz : ∀ j, j < n → ∃ z : Int, 0 ≤ z ∧ z ≤ 255 ∧ cs[j]? = some (.int .u8 z)) (k : Nat) (u : Int) (h0 : 0 ≤ u) (h1 : u ≤ 255) :
    RowB (w.setCell ⟨g, k, none⟩ (.int .u8 u)) (some ⟨g, 0, none⟩) n := by
  intro _
  refine ⟨g, _, rfl, hb.set_ k _, fun j hj => ?_⟩
  obtain ⟨z, z0, z1, hc⟩ := hz j hj
  rw [Array.getElem?_setIfInBounds]
  split
  · rename_i e
    subst e
    have hlt : k < cs.size := by
      rcases Nat.lt_or_ge k cs.size with h | h
      · exact h
      · rw [Array.getElem?_eq_none h] at hc; cases hc
    exact ⟨u, h0, h1, by simp [hlt]⟩
  · exact ⟨z, z0, z1, hc⟩

/-- A reader all whose blocks are new. -/
def RrF (w : World) (base g : Nat) (l : List UInt8) (f m : Bool) : Prop :=
  base ≤ g ∧ ∃ A n c, Blk w g 80 #[.slice A n c, .bool f, .bool m] ∧ Rd w A n l ∧ n ≤ c ∧ n ≤ 70368744177664 ∧ (A = none → c = 0) ∧ (∀ ad, A = some ad → ad.block ≠ g ∧ ad.block < w.heap.size ∧ base ≤ ad.block)
theorem RrF.rr {w : World} {base g : Nat} {l : List UInt8} {f m : Bool} (h : RrF w base g l f m) : Rr w g l f m := by
  obtain ⟨_, A, n, c, h1, h2, h3, h4, h5, h6⟩ := h
  exact ⟨A, n, c, h1, h2, h3, h4, h5, fun ad e => ⟨(h6 ad e).1, (h6 ad e).2.1⟩⟩
theorem RrF.keep {F : Nat → Prop} {w w' : World} {base g : Nat} {l : List UInt8} {f m : Bool} (h : RrF w base g l f m) (hf : Fr F w w') (hF : ∀ k, base ≤ k → k < w.heap.size → ¬ F k) : RrF w' base g l f m := by
  obtain ⟨hg, A, n, c, h1, h2, h3, h4, h5, h6⟩ := h
  refine ⟨hg, A, n, c, h1.keep hf (hF g hg h1.lt), h2.keep hf (fun ad e => hF _ (h6 ad e).2.2 (h6 ad e).2.1), h3, h4, h5, fun ad e => ⟨(h6 ad e).1, Nat.lt_of_lt_of_le (h6 ad e).2.1 hf.size, (h6 ad e).2.2⟩⟩

theorem read_fresh {w : World} {A : Option Addr} {n c : Nat} {l : List UInt8} (hr : Rd w A n l) (hA : A = none → c = 0) (hn : n ≤ 70368744177664) :
    Calls Try.prog 18 #[.slice A n c] w fun e w' => ∃ g, e = .returned (.pointer (some ⟨g, 0, none⟩)) ∧ RrF w' w.heap.size g l false true ∧ Fr (fun _ => False) w w' := by
  have H := Lib.hid hr
  have HA := Lib.hid hA
  clear hr hA
  go_enter Try.func18, Try.ntmps18
  go_wp2_with fail
  refine (clone_any H.out HA.out (by omega)).mono ?_
  rintro e w1 ⟨x, rfl, hm⟩
  obtain ⟨B, c', rfl, hB, hc, hcm, hr⟩ := own_rd hm.1
  have hl := H.out.len
  have hf := hm.2
  have hs := hf.size
  have ho := Lib.hid hm.1
  have Hr := Lib.hid hr
  have HB := Lib.hid hB
  clear hm hr hB
  go_wp2
  go_ret
  refine ⟨_, rfl, ⟨hs, B, n, c', Blk.new _ _ _, by have := Hr.out.alloc (.cells #[Value.slice B n c', Value.bool false, Value.bool true] 80); rwa [hl] at this, by omega, by omega, HB.out, fun ad e => ?_⟩, hf.alloc _⟩
  subst e
  have := ho.out.lt ad.block rfl
  exact ⟨by omega, by simp; omega, this.1⟩

theorem Rr.keep_nil {F : Nat → Prop} {w w' : World} {g : Nat} {f m : Bool} (h : Rr w g [] f m) (hf : Fr F w w') (hF : ¬ F g) : Rr w' g [] f m := by
  obtain ⟨A, n, c, h1, h2, h3, h4, h5, h6⟩ := h
  exact ⟨A, n, c, h1.keep hf hF, h2.keep0 hf (fun h0 => by have := h2.len; simp at this; omega), h3, h4, h5, fun ad e => ⟨(h6 ad e).1, Nat.lt_of_lt_of_le (h6 ad e).2 hf.size⟩⟩
theorem by_all (l : List UInt8) : byGot l (l.length : Nat) = l ∧ byRest l (l.length : Nat) = [] ∧ byOk l (l.length : Nat) = true := by
  have e : byOk l (l.length : Nat) = true := by simp [byOk]
  simp [byGot, byRest, e]
theorem rbytes_all {w : World} {g : Nat} {l : List UInt8} (h : Rr w g l false true) :
    Calls Try.prog 24 #[.pointer (some ⟨g, 0, none⟩), .int .i64 (l.length : Nat)] w fun e w' => ∃ v, e = .returned v ∧ Got w g l [] false true v w' := by
  have := rbytes_any h (l.length : Nat)
  rw [(by_all l).1, (by_all l).2.1, (by_all l).2.2] at this
  exact this
theorem rend_none {w : World} {g : Nat} (h : Rr w g [] false true) : Calls Try.prog 22 #[.pointer (some ⟨g, 0, none⟩)] w fun e w' => e = .returned (.int .i64 0) ∧ w = w' := rend_any h

theorem u8_step (z : Int) : 0 ≤ IntKind.u8.wrap z ∧ IntKind.u8.wrap z ≤ 255 := by
  have e : IntKind.u8.wrap z = z % 256 := by simp [IntKind.wrap, IntKind.signed, IntKind.bits]
  rw [e]
  omega

set_option maxHeartbeats 4000000 in
set_option maxRecDepth 100000 in
theorem apart_any {w : World} {A : Option Addr} {cb : Nat} {b : List UInt8} (hr : Rd w A b.length b) (hnc : b.length ≤ cb) (hA : A = none → cb = 0) (hcb : b.length ≤ maxLen) (n : Nat) (hn : n ≤ 18446744073709551615) :
    Calls Try.prog 9 #[.slice A b.length cb, .int .u64 n] w fun e w' => e = .returned (.bool true) ∧ Below w.heap.size w w' := by
  unfold maxLen at hcb
  by_cases hb5 : 2000 < b.length
  · clear hr hnc hA
    go_enter Try.func9, Try.ntmps9
    go_wp2_with fail
    refine (known_any _).mono ?_
    rintro e w1 ⟨rfl, hf⟩
    go_wp2
    go_ret
    exact ⟨rfl, hf.below (Nat.le_refl _) (fun _ _ => id)⟩
  have hb5' : b.length ≤ 2000 := by omega
  obtain ⟨i0, hi, hz0, hz1, hz2⟩ := info_parts infoU8
  have HB := Lib.hid (And.intro hr (And.intro hnc (And.intro hA hn)))
  clear hr hnc hA hn hb5 hcb
  go_enter Try.func9, Try.ntmps9
  go_wp2_with (at_builtin; refine wpList_append_bytes _ rfl (.const (.slice none 0 0)) (.tmp 23) 26 rfl w.heap.size 5 i0 (.int .u8 0) Try.underlying26 hi hz0 hz1 hz2 rfl (.slice none 0 0) [] b rfl (World.ownsRow_nil _ _ _ _) A b.length cb rfl HB.out.1 (by simp; omega) (Nat.le_refl _) ?_; intro va wa howna hgrowa hata; have hfa : Fr (fun _ => False) w wa := (Fr.refl _ _).grown hgrowa (fun i hi => by cases hi); have howna' : wa.ownsRow w.heap.size 5 1 va b.length (cellsB b) := howna; obtain ⟨Ao, co, hva, hAo, hco, hro, hrow, hblk⟩ := own_row howna'; subst hva; have HO := Lib.hid (And.intro hfa (And.intro hAo (And.intro hco (And.intro hro (And.intro hrow hblk))))); clear howna howna' hgrowa hata hfa hAo hco hro hrow hblk)
  have hnw := WrS.new wa
  have hF0 : 0 < b.length → ∀ ad, Ao = some ad → ¬ WrF wa.heap.size (.slice none 0 0) ad.block := by
    rintro _ ad e (hk | hk)
    · have := (HO.out.2.2.2.2.2 ad.block ⟨ad, e, rfl⟩).2
      omega
    · cases hk
  refine (blob_puts hnw (HO.out.2.2.2.1.alloc _) (by omega) hF0 (by simp [roomS]; omega)).mono ?_
  intro e w1 hp
  obtain ⟨rfl, v1, h1, f1, b1⟩ := hp.new ((Fr.refl _ _).alloc _) (Nat.le_refl _) (fun k hk => by cases hk)
  clear hp hnw hF0
  have H1 := Lib.hid (And.intro h1 (And.intro f1 b1))
  clear h1 f1 b1
  go_wp2_with fail
  refine (bytes_puts H1.out.1 (HO.out.2.2.2.1.keep H1.out.2.1 (fun _ _ => id)) (by simp [roomS, putBlob, be_len]; omega)).mono ?_
  intro e w2 hp
  obtain ⟨rfl, v2, h2, f2, b2⟩ := hp.new H1.out.2.1 (Nat.le_refl _) H1.out.2.2
  clear hp
  obtain ⟨P, hP⟩ : ∃ P, P = be b.length 4 ++ b ++ b := ⟨_, rfl⟩
  have h2' : WrS w2 wa.heap.size wa.heap.size v2 (some P) := by rw [hP]; exact h2
  have HP := Lib.hid hP
  have hPl : P.length = 4 + b.length + b.length := by rw [hP, List.length_append, List.length_append, be_len]
  have H2 := Lib.hid (And.intro h2' (And.intro f2 b2))
  have HPL := Lib.hid hPl
  clear h2 h2' f2 b2 hP hPl
  go_wp2_with fail
  refine (read_fresh (HO.out.2.2.2.1.keep H2.out.2.1 (fun _ _ => id)) HO.out.2.1 (by omega)).mono ?_
  rintro e w3 ⟨g2, rfl, hr3, f3⟩
  have H3 := Lib.hid (And.intro hr3 f3)
  have hrow3 := (HO.out.2.2.2.2.1.keep H2.out.2.1 (fun _ _ => id)).keep f3 (fun _ _ => id)
  have HR3 := Lib.hid hrow3
  clear hr3 f3 hrow3
  go_wp2_with fail
  go_loopw [8] (fun i wr => ∃ (k : Nat), i = .int .i64 k ∧ k ≤ b.length ∧ Hid (RowB wr Ao b.length) ∧ Fr (blkOf Ao) w3 wr) (fun i _ => b.length - (intOf i).toNat)
  case atStart => exact ⟨0, rfl, Nat.zero_le _, HR3, Fr.refl _ _⟩
  case round =>
    obtain ⟨k, rfl, hk, HROW, hfr⟩ := hrel
    have HFR := Lib.hid hfr
    clear hfr
    by_cases hlt : k < b.length
    · obtain ⟨g, cs, rfl, hb, hz⟩ := HROW.out (by omega)
      obtain ⟨z, z0, z1, hc⟩ := hz k hlt
      have hcell := (hb.cell k).trans hc
      have hfz := hb.frozen k
      have HBZ := Lib.hid (And.intro hb hz)
      clear hb hz hc
      go_wp2_with fail
      refine ⟨⟨k + 1, by go_num, by omega, Lib.hid (RowB.set_ HBZ.out.1 HBZ.out.2 k _ (u8_step _).1 (u8_step _).2), HFR.out.setCell (p := ⟨g, k, none⟩) (.inl ⟨_, rfl, rfl⟩) _⟩, by simp [intOf]; omega⟩
    · obtain rfl : k = b.length := by omega
      have hFw : Fr (fun _ => False) w w2 := HO.out.1.trans H2.out.2.1 (fun _ _ => id)
      have hbo : ∀ i, blkOf Ao i → w.heap.size ≤ i ∧ i < wa.heap.size := HO.out.2.2.2.2.2
      have hs2 := H2.out.2.1.size
      have hfa2 := HO.out.1.size
      have hW : WrS wr wa.heap.size wa.heap.size v2 (some P) := (H2.out.1.keep H3.out.2 (fun _ _ => id)).keep HFR.out (fun i hi hk => by
        have h1 := (hbo i hk).2
        rcases hi with rfl | hi
        · omega
        · have := H2.out.2.2 i hi
          omega)
      have hRf : RrF wr w2.heap.size g2 b false true := H3.out.1.keep HFR.out (fun i hi _ hk => by
        have h1 := (hbo i hk).2
        omega)
      have hFr : Fr (fun _ => False) w wr := (hFw.trans H3.out.2 (fun _ _ => id)).trans HFR.out (fun i hi hk => by
        have h1 := (hbo i hk).1
        omega)
      have hv2 : ∀ i, WrF wa.heap.size v2 i → i < w2.heap.size := fun i hi => H2.out.1.lt hi
      have hs3 : w2.heap.size ≤ wr.heap.size := Nat.le_trans H3.out.2.size HFR.out.size
      have hw0 : w.heap.size ≤ w2.heap.size := hFw.size
      have hvb : ∀ i, WrF wa.heap.size v2 i → w.heap.size ≤ i := by
        rintro i (rfl | hi)
        · exact hfa2
        · have := H2.out.2.2 i hi
          omega
      have HV := Lib.hid (And.intro hv2 (And.intro hs3 (And.intro hw0 (And.intro hvb hRf))))
      have HF1 := Lib.hid hFr
      have HW := Lib.hid hW
      clear hFw hbo hs2 hfa2 hW hRf hFr hv2 hs3 hw0 hvb HFR HROW HR3 hlt hk H1 H2 H3 HO
      generalize wa.heap.size = G at *
      generalize wr = w4 at *
      go_wp2_with fail
      refine (end_any HW.out (by have := HPL.out; omega)).mono ?_
      rintro e w5 ⟨x, rfl, hm5⟩
      obtain ⟨Ax, cx, hx, hAx, hcx, hrx, hrowx, hbx⟩ := own_row hm5.1
      subst hx
      have H5 := Lib.hid (And.intro hm5.2 (And.intro hAx (And.intro hcx (And.intro hrx (And.intro hrowx hbx)))))
      clear hm5 hAx hcx hrx hrowx hbx
      go_wp2_with (at_builtin; refine wpList_append_bytes _ rfl (.const (.slice none 0 0)) (.tmp 51) 26 rfl w5.heap.size 5 i0 (.int .u8 0) Try.underlying26 hi hz0 hz1 hz2 rfl (.slice none 0 0) [] P rfl (World.ownsRow_nil _ _ _ _) Ax P.length cx rfl H5.out.2.2.2.1 (by have := HPL.out; simp; omega) (Nat.le_refl _) ?_; intro vy w6 howny hgrowy haty; have hfy : Fr (fun _ => False) w5 w6 := (Fr.refl _ _).grown hgrowy (fun i hi => by cases hi); have howny' : w6.ownsRow w5.heap.size 5 1 vy P.length (cellsB P) := howny; obtain ⟨Ay, cy, hvy, hAy, hcy, hry, _, hby⟩ := own_row howny'; subst hvy; have HY := Lib.hid (And.intro hfy (And.intro hAy (And.intro hcy (And.intro hry hby)))); clear howny howny' hgrowy haty hfy hAy hcy hry hby)
      have hp0 : P.length < 10000 := by have := HPL.out; omega
      have hrow6 : Hid (RowB w6 Ax P.length) := Lib.hid (H5.out.2.2.2.2.1.keep HY.out.1 (fun _ _ => id))
      go_loopw [12] (fun i wr => ∃ (k : Nat), i = .int .i64 k ∧ k ≤ P.length ∧ Hid (RowB wr Ax P.length) ∧ Fr (blkOf Ax) w6 wr) (fun i _ => P.length - (intOf i).toNat)
      case atStart => exact ⟨0, rfl, Nat.zero_le _, hrow6, Fr.refl _ _⟩
      case round =>
        obtain ⟨k, rfl, hk, HROW, hfr⟩ := hrel
        have HFR := Lib.hid hfr
        clear hfr
        by_cases hlt : k < P.length
        · obtain ⟨g, cs, rfl, hb, hz⟩ := HROW.out (by omega)
          obtain ⟨z, z0, z1, hc⟩ := hz k hlt
          have hcell := (hb.cell k).trans hc
          have hfz := hb.frozen k
          have HBZ := Lib.hid (And.intro hb hz)
          clear hb hz hc
          go_wp2_with fail
          refine ⟨⟨k + 1, by go_num, by omega, Lib.hid (RowB.set_ HBZ.out.1 HBZ.out.2 k _ (u8_step _).1 (u8_step _).2), HFR.out.setCell (p := ⟨g, k, none⟩) (.inl ⟨_, rfl, rfl⟩) _⟩, by simp [intOf]; omega⟩
        · obtain rfl : k = P.length := by omega
          have hF2 : Fr (fun _ => False) w4 wr := (H5.out.1.trans HY.out.1 (fun _ _ => id)).trans HFR.out (fun i hi hk => by
            have := (H5.out.2.2.2.2.2 i hk).1
            omega)
          have hry2 : Rd wr Ay P.length P := HY.out.2.2.2.1.keep HFR.out (fun ad e hk => by
            have h1 := (HY.out.2.2.2.2 ad.block ⟨ad, e, rfl⟩).1
            have h2 := (H5.out.2.2.2.2.2 ad.block hk).2
            omega)
          have HF2 := Lib.hid (And.intro hF2 hry2)
          clear hF2 hry2 HFR HROW hlt hk hrow6
          go_wp2_with fail
          refine (number_puts (HW.out.keep HF2.out.1 (fun _ _ => id)) n 8 HB.out.2.2.2 (by simp [roomS]; omega)).mono ?_
          rintro e w7 ⟨rfl, v3, h7, f7, b7⟩
          have h7' : WrS w7 G G v3 (some (P ++ be n 8)) := by
            have := h7
            rw [putNum_8] at this
            exact this
          have hzl : (P ++ be n 8).length = P.length + 8 := by rw [List.length_append, be_len]
          have H7 := Lib.hid (And.intro h7' f7)
          clear h7 h7' f7 b7
          have HZL := Lib.hid hzl
          clear hzl
          go_wp2_with fail
          refine (end_any H7.out.1 (by have := HZL.out; omega)).mono ?_
          rintro e w8 ⟨z, rfl, hm8⟩
          obtain ⟨Az, cz, hz', hAz, hcz, hrz, _, _⟩ := own_row hm8.1
          have hv5 : w2.heap.size ≤ w5.heap.size := Nat.le_trans HV.out.2.1 H5.out.1.size
          have hry8 : Rd w8 Ay P.length P := (HF2.out.2.keep H7.out.2 (fun ad e hk => by
            have h1 := (HY.out.2.2.2.2 ad.block ⟨ad, e, rfl⟩).1
            have h2 := HV.out.1 ad.block hk
            omega)).keep hm8.2 (fun _ _ => id)
          have hR8 : RrF w8 w2.heap.size g2 b false true := ((HV.out.2.2.2.2.keep HF2.out.1 (fun _ _ _ => id)).keep H7.out.2 (fun i h1 _ hk => by
            have h2 := HV.out.1 i hk
            omega)).keep hm8.2 (fun _ _ _ => id)
          have hF8 : Fr (fun _ => False) w w8 := ((HF1.out.trans HF2.out.1 (fun _ _ => id)).trans H7.out.2 (fun i hi hk => by
            have h2 := HV.out.2.2.2.1 i hk
            omega)).trans hm8.2 (fun _ _ => id)
          have hb8 : Rd w8 A b.length b := HB.out.1.keep hF8 (fun _ _ => id)
          have h4P : 4 ≤ P.length := by have := HPL.out; omega
          obtain ⟨hs1, hr1⟩ := slice_to (P := Try.prog) undU8 szU8 hrz hcz P.length (by have := HZL.out; omega)
          obtain ⟨hs2, hr2⟩ := slice_to (P := Try.prog) undU8 szU8 hry8 HY.out.2.2.1 4 h4P
          have hs2' : ∀ W, (Instr.slice 26 (.slice Ay P.length cy) none (some (.int .i64 4)) none).run Try.prog W = .ok (.slice Ay 4 cy) W := hs2
          rw [HZL.out] at hs1 hz'
          have ht1 : (P ++ be n 8).take P.length = P := by simp
          have ht2 : P.take 4 = be b.length 4 := by rw [HP.out, List.append_assoc, List.take_left' (by rw [be_len])]
          rw [ht1] at hr1
          rw [ht2] at hr2
          subst hz'
          obtain ⟨sP, hsP⟩ : ∃ sP : ByteArray, sP = ⟨P.toArray⟩ := ⟨_, rfl⟩
          obtain ⟨s4, hs4⟩ : ∃ s4 : ByteArray, s4 = ⟨(be b.length 4).toArray⟩ := ⟨_, rfl⟩
          obtain ⟨sb, hsb⟩ : ∃ sb : ByteArray, sb = ⟨b.toArray⟩ := ⟨_, rfl⟩
          have hc1 : ∀ k, (convert 26 9 (.slice Az P.length cz)).run Try.prog (w8.drewN k) = .ok (.string sP) (w8.drewN k) := fun k => by rw [hsP]; exact conv_string (P := Try.prog) 26 9 5 (c := cz) (hr1.drewN k) Try.underlying26 Try.underlying5 Try.underlying9
          have hc2 : ∀ k, (convert 26 9 (.slice Ay P.length cy)).run Try.prog (w8.drewN k) = .ok (.string sP) (w8.drewN k) := fun k => by rw [hsP]; exact conv_string (P := Try.prog) 26 9 5 (c := cy) (hry8.drewN k) Try.underlying26 Try.underlying5 Try.underlying9
          have hc3 : ∀ k, (convert 26 9 (.slice Ay 4 cy)).run Try.prog (w8.drewN k) = .ok (.string s4) (w8.drewN k) := fun k => by rw [hs4]; exact conv_string (P := Try.prog) 26 9 5 (c := cy) (hr2.drewN k) Try.underlying26 Try.underlying5 Try.underlying9
          have hc4 : ∀ k, (convert 26 9 (.slice A b.length cb)).run Try.prog (w8.drewN k) = .ok (.string sb) (w8.drewN k) := fun k => by rw [hsb]; exact conv_string (P := Try.prog) 26 9 5 (c := cb) (hb8.drewN k) Try.underlying26 Try.underlying5 Try.underlying9
          have hcat : sP = s4 ++ sb ++ sb := by
            rw [hsP, hs4, hsb, HP.out]
            apply ByteArray.ext
            simp [ByteArray.data_append]
          have hz4 : s4.size = 4 := by rw [hs4]; show (be b.length 4).length = 4; rw [be_len]
          have hzb : sb.size = b.length := by rw [hsb]; rfl
          have hq1 : ¬ 9223372036854775807 < s4.size + sb.size := by omega
          have hq2 : ¬ 9223372036854775807 < (s4 ++ sb).size + sb.size := by rw [ByteArray.size_append]; omega
          have hq3 : ¬ 9223372036854775807 < s4.size + sb.size + sb.size := by omega
          have heq : (sP.toList == (s4 ++ sb ++ sb).toList) = true := by rw [hcat]; simp
          have H8 := Lib.hid (And.intro hR8 (And.intro hF8 hb8))
          clear hz4 hzb hsP hs4 hcat hs2 hr1 hr2 hry8 hR8 hF8 hb8 hm8 hAz hcz hrz ht1 ht2 hv5
          have HSB := Lib.hid hsb
          clear hsb
          go_wp2
          go_quiet (fail)
          clear hc1 hc2 hc3 hc4 hs1 hs2' heq hq1 hq2 hq3
          go_wp2_with fail
          have hR9 : Rr (w8.drewN nq) g2 b false true := H8.out.1.rr.keep (F := fun _ => False) ((Fr.refl _ _).drewN nq) (fun _ q => q.elim)
          refine (rbytes_all hR9).mono ?_
          rintro e w9 ⟨p, rfl, hG9⟩
          obtain ⟨Ap, cp, hp', _, _, hrp, _, _⟩ := own_row hG9.1
          subst hp'
          have hg2 := H8.out.1.1
          have hF9 : Fr (fun _ => False) w w9 := (H8.out.2.1.drewN nq).trans hG9.2.2 (fun i hi hk => by
            have := HV.out.2.2.1
            omega)
          have H9 := Lib.hid (And.intro hG9.2.1 (And.intro hrp hF9))
          clear hR9 hG9 hrp hF9 hg2
          go_wp2_with fail
          refine (read_fresh (HB.out.1.keep H9.out.2.2 (fun _ _ => id)) HB.out.2.2.1 (by omega)).mono ?_
          rintro e w10 ⟨g3, rfl, hr10, f10⟩
          have H10 := Lib.hid (And.intro hr10 f10)
          clear hr10 f10
          go_wp2_with fail
          refine (rbytes_all H10.out.1.rr).mono ?_
          rintro e w11 ⟨sv, rfl, hG11⟩
          obtain ⟨As, cs, hsv, _, _, _, hrows, hbs⟩ := own_row hG11.1
          subst hsv
          have hrow11 : Hid (RowB w11 As b.length) := Lib.hid hrows
          have H11 := Lib.hid (And.intro hG11.2.1 (And.intro hG11.2.2 hbs))
          clear hG11 hrows hbs
          go_wp2_with fail
          go_loopw [18] (fun i wr => ∃ (k : Nat), i = .int .i64 k ∧ k ≤ b.length ∧ Hid (RowB wr As b.length) ∧ Fr (blkOf As) w11 wr) (fun i _ => b.length - (intOf i).toNat)
          case atStart => exact ⟨0, rfl, Nat.zero_le _, hrow11, Fr.refl _ _⟩
          case round =>
            obtain ⟨k, rfl, hk, HROW, hfr⟩ := hrel
            have HFR := Lib.hid hfr
            clear hfr
            by_cases hlt : k < b.length
            · obtain ⟨g, cs', rfl, hb, hz⟩ := HROW.out (by omega)
              obtain ⟨z, z0, z1, hc⟩ := hz k hlt
              have hcell := (hb.cell k).trans hc
              have hfz := hb.frozen k
              have HBZ := Lib.hid (And.intro hb hz)
              clear hb hz hc
              go_wp2_with fail
              refine ⟨⟨k + 1, by go_num, by omega, Lib.hid (RowB.set_ HBZ.out.1 HBZ.out.2 k _ (u8_step _).1 (u8_step _).2), HFR.out.setCell (p := ⟨g, k, none⟩) (.inl ⟨_, rfl, rfl⟩) _⟩, by simp [intOf]; omega⟩
            · obtain rfl : k = b.length := by omega
              have hg3 := H10.out.1.1
              have hg3' := H10.out.1.rr.lt
              have hs10 := H10.out.2.size
              have hF9r : Fr (fun _ => False) w9 wr := (H10.out.2.trans H11.out.2.1 (fun i hi hk => by omega)).trans HFR.out (fun i hi hk => by
                have := (H11.out.2.2 i hk).1
                omega)
              have hrr : Rr wr g2 [] false true := H9.out.1.keep hF9r (fun _ q => q.elim)
              have hrq : Rr wr g3 [] false true := H11.out.1.keep_nil HFR.out (fun hk => by
                have := (H11.out.2.2 g3 hk).1
                omega)
              have hFw : Fr (fun _ => False) w wr := H9.out.2.2.trans hF9r (fun _ _ => id)
              have hcv5 := conv_string (P := Try.prog) 26 9 5 (c := cp) (H9.out.2.1.keep hF9r (fun _ _ => id)) Try.underlying26 Try.underlying5 Try.underlying9
              have hcv6 := conv_string (P := Try.prog) 26 9 5 (c := cb) (HB.out.1.keep hFw (fun _ _ => id)) Try.underlying26 Try.underlying5 Try.underlying9
              have HE := Lib.hid (And.intro hrr (And.intro hrq hFw))
              clear hrr hrq hFw hF9r HFR HROW hlt hk hg3 hg3' hs10
              go_wp2_with fail
              refine (rend_none HE.out.1).mono ?_
              rintro e w12 ⟨rfl, rfl⟩
              go_wp2_with fail
              refine (rend_none HE.out.2.1).mono ?_
              rintro e w12 ⟨rfl, rfl⟩
              go_wp2_with fail
              refine (known_any _).mono ?_
              rintro e w12 ⟨rfl, f12⟩
              have HK := Lib.hid f12
              clear f12
              go_wp2
              go_ret
              exact ⟨rfl, (HE.out.2.2.trans HK.out (fun _ _ => id)).below (Nat.le_refl _) (fun _ _ => id)⟩
end Go.Proofs.Ythmjfbefekicdaa
