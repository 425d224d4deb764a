/- Pools without a fuse, step by step; two that differ in their frames alone. -/
import Derived.Test.YtpdfpnpkbknhnaaGreatQdm
namespace Go.Proofs.YtpdfpnpkbknhnaaGreat
open Go.RowKit

/-- A pool without a fuse. -/
structure GoodP (x : PX) (K : Nat) : Prop where
  ok : x.Ok K
  free : x.d.free
def inR (x : PX) (n : Int) : Prop := 0 ≤ n ∧ n < (x.N : Int)
instance (x : PX) (n : Int) : Decidable (inR x n) := inferInstanceAs (Decidable (0 ≤ n ∧ n < (x.N : Int)))
def PX.putZ (x : PX) (n : Int) (y : List UInt8) : PX := if inR x n then x.putted n.toNat y else x
def PX.getZ (x : PX) (n : Int) : PX := if inR x n then x.got n.toNat else x
def PX.getV (x : PX) (n : Int) : List UInt8 := if inR x n then x.V n.toNat else nought 512
def PX.inE (x : PX) (n : Int) : Int := if inR x n then 0 else 2
def PX.no (x : PX) : Prop := x.m = 0 ∨ 60 < x.m ∨ x.z < x.need
instance (x : PX) : Decidable x.no := inferInstanceAs (Decidable (x.m = 0 ∨ 60 < x.m ∨ x.z < x.need))
def PX.comZ (x : PX) : PX := if x.no then x else x.com
def PX.comE (x : PX) : Int := if x.m = 0 then 0 else if 60 < x.m then 3 else if x.z < x.need then 8 else 0
def PX.ckZ (x : PX) : PX := if x.m = 0 then x.ckpt else x
def PX.ckE (x : PX) : Int := if x.m = 0 then 0 else 17
section
variable {x y : PX} {K : Nat}
theorem GoodP.mono {K' : Nat} (h : GoodP x K) (hK : K ≤ K') : GoodP x K' := ⟨h.ok.mono hK, h.free⟩
theorem inR_lt {n : Int} (h : inR x n) : n.toNat < x.N := by unfold inR at h; omega
theorem GoodP.putZ (h : GoodP x K) (n : Int) {p : List UInt8} (hp : p.length = 512) : GoodP (x.putZ n p) K := by
  unfold PX.putZ
  split
  · exact ⟨h.ok.putted (inR_lt ‹_›) hp, h.free⟩
  · exact h
theorem GoodP.getZ (h : GoodP x K) (n : Int) : GoodP (x.getZ n) K := by
  unfold PX.getZ
  split
  · refine ⟨h.ok.got (inR_lt ‹_›), ?_⟩
    unfold PX.got
    split <;> exact h.free
  · exact h
theorem GoodP.getV_len (h : GoodP x K) (n : Int) : (x.getV n).length = 512 := by
  unfold PX.getV
  split
  · exact h.ok.V_len (inR_lt ‹_›)
  · exact nought_len 512
theorem GoodP.abort (h : GoodP x K) : GoodP x.aborted K := ⟨h.ok.aborted, h.free⟩
theorem GoodP.comZ (h : GoodP x K) (hK : K + 1 < maxC) : GoodP x.comZ (K + 1) := by
  unfold PX.comZ
  split
  · exact h.mono (by omega)
  · rename_i hq
    unfold PX.no at hq
    have hf := PX.com_free h.free
    exact ⟨(h.ok.com hK (by omega) (by omega) (by omega) hf.1).1, hf.2⟩
theorem GoodP.ckZ (h : GoodP x K) (hK : K + 1 < maxC) : GoodP x.ckZ (K + 1) := by
  unfold PX.ckZ
  split
  · have hf := PX.ck_free h.free
    have hc := h.ok.life.cK
    exact ⟨((h.ok.mono (Nat.le_succ K)).ckpt (by omega) (by omega) hf.1).1, hf.2⟩
  · exact h.mono (by omega)
/-- They answer alike. -/
structure Twin (x y : PX) : Prop where
  N : x.N = y.N
  z : x.z = y.z
  e : x.e = y.e
  f1 : x.f1 = y.f1
  f2 : x.f2 = y.f2
  C : ∀ n, n < x.N → x.C n = y.C n
theorem Twin.R (h : Twin x y) (n : Int) : inR x n ↔ inR y n := by unfold inR; rw [h.N]
theorem Twin.V (h : Twin x y) {n : Nat} (hn : n < x.N) : x.V n = y.V n := by
  unfold PX.V
  rw [h.f1, h.C n hn]
theorem Twin.m (h : Twin x y) : x.m = y.m := by unfold PX.m; rw [h.f1, h.N]
theorem Twin.need (h : Twin x y) : x.need = y.need := by unfold PX.need; rw [h.m]
theorem Twin.inE (h : Twin x y) (n : Int) : x.inE n = y.inE n := by
  unfold PX.inE
  simp only [h.R n]
theorem Twin.getV (h : Twin x y) (n : Int) : x.getV n = y.getV n := by
  unfold PX.getV
  by_cases hn : inR x n
  · rw [if_pos hn, if_pos ((h.R n).1 hn), h.V (inR_lt hn)]
  · rw [if_neg hn, if_neg (fun q => hn ((h.R n).2 q))]
theorem got_same (x : PX) (n : Nat) : (x.got n).N = x.N ∧ (x.got n).z = x.z ∧ (x.got n).e = x.e ∧ (x.got n).f1 = x.f1 ∧ (x.got n).f2 = x.f2 ∧ ∀ k, (x.got n).C k = x.C k := by
  unfold PX.got
  split
  · exact ⟨rfl, rfl, rfl, rfl, rfl, fun _ => rfl⟩
  · exact ⟨rfl, rfl, rfl, rfl, rfl, fun _ => rfl⟩
theorem Twin.getZ (h : Twin x y) (n : Int) : Twin (x.getZ n) (y.getZ n) := by
  unfold PX.getZ
  by_cases hn : inR x n
  · rw [if_pos hn, if_pos ((h.R n).1 hn)]
    obtain ⟨a1, a2, a3, a4, a5, a6⟩ := got_same x n.toNat
    obtain ⟨b1, b2, b3, b4, b5, b6⟩ := got_same y n.toNat
    exact ⟨by rw [a1, b1, h.N], by rw [a2, b2, h.z], by rw [a3, b3, h.e], by rw [a4, b4, h.f1], by rw [a5, b5, h.f2], fun k hk => by rw [a6, b6]; exact h.C k (by rw [a1] at hk; exact hk)⟩
  · rw [if_neg hn, if_neg (fun q => hn ((h.R n).2 q))]
    exact h
theorem Twin.putZ (h : Twin x y) (n : Int) (p : List UInt8) : Twin (x.putZ n p) (y.putZ n p) := by
  unfold PX.putZ
  by_cases hn : inR x n
  · rw [if_pos hn, if_pos ((h.R n).1 hn)]
    refine ⟨h.N, h.z, h.e, ?_, h.f2, h.C⟩
    show upd x.f1 n.toNat (if p = x.C n.toNat then [] else p) = upd y.f1 n.toNat (if p = y.C n.toNat then [] else p)
    rw [h.f1, h.C _ (inR_lt hn)]
  · rw [if_neg hn, if_neg (fun q => hn ((h.R n).2 q))]
    exact h
theorem Twin.abort (h : Twin x y) : Twin x.aborted y.aborted := ⟨h.N, h.z, h.e, rfl, h.f2, h.C⟩
theorem Twin.no (h : Twin x y) : x.no ↔ y.no := by unfold PX.no; rw [h.m, h.z, h.need]
theorem Twin.comE (h : Twin x y) : x.comE = y.comE := by unfold PX.comE; rw [h.m, h.z, h.need]
theorem Twin.ckE (h : Twin x y) : x.ckE = y.ckE := by unfold PX.ckE; rw [h.m]
theorem Twin.ckpt (h : Twin x y) (kx : GoodP x K) (ky : GoodP y K) (hK : K + 1 < maxC) : Twin x.ckpt y.ckpt := by
  have h1 := ((kx.ok.mono (Nat.le_succ K)).ckpt (by have := kx.ok.life.cK; omega) (by have := kx.ok.life.cK; omega) (PX.ck_free kx.free).1).2
  have h2 := ((ky.ok.mono (Nat.le_succ K)).ckpt (by have := ky.ok.life.cK; omega) (by have := ky.ok.life.cK; omega) (PX.ck_free ky.free).1).2
  exact ⟨h.N, h.z, rfl, h.f1, rfl, fun n hn => by rw [h1 n hn, h2 n (by rw [← h.N]; exact hn)]; exact h.C n hn⟩
theorem Twin.comZ (h : Twin x y) (kx : GoodP x K) (ky : GoodP y K) (hK : K + 1 < maxC) : Twin x.comZ y.comZ := by
  unfold PX.comZ
  by_cases hn : x.no
  · rw [if_pos hn, if_pos (h.no.1 hn)]
    exact h
  · rw [if_neg hn, if_neg (fun q => hn (h.no.2 q))]
    have hn' := hn
    have hn2 : ¬ y.no := fun q => hn (h.no.2 q)
    unfold PX.no at hn' hn2
    have h1 := (kx.ok.com hK (by omega) (by omega) (by omega) (PX.com_free kx.free).1).2
    have h2 := (ky.ok.com hK (by omega) (by omega) (by omega) (PX.com_free ky.free).1).2
    have hN : x.com.N = x.N := by unfold PX.com; split <;> rfl
    have hN2 : y.com.N = y.N := by unfold PX.com; split <;> rfl
    have hcond : x.need ≤ x.z - x.e ↔ y.need ≤ y.z - y.e := by rw [h.need, h.z, h.e]
    refine ⟨by rw [hN, hN2, h.N], ?_, ?_, ?_, ?_, fun n hn => by rw [hN] at hn; rw [h1 n hn, h2 n (by rw [← h.N]; exact hn)]; exact h.V hn⟩
    · unfold PX.com
      by_cases hc : x.need ≤ x.z - x.e
      · rw [if_pos hc, if_pos (hcond.1 hc)]; exact h.z
      · rw [if_neg hc, if_neg (fun q => hc (hcond.2 q))]; exact h.z
    · unfold PX.com
      by_cases hc : x.need ≤ x.z - x.e
      · rw [if_pos hc, if_pos (hcond.1 hc)]
        show x.e + x.need = y.e + y.need
        rw [h.e, h.need]
      · rw [if_neg hc, if_neg (fun q => hc (hcond.2 q))]
        show 0 + x.ckpt.need = 0 + y.ckpt.need
        have : x.ckpt.need = x.need := rfl
        have : y.ckpt.need = y.need := rfl
        have := h.need
        omega
    · unfold PX.com
      by_cases hc : x.need ≤ x.z - x.e
      · rw [if_pos hc, if_pos (hcond.1 hc)]; rfl
      · rw [if_neg hc, if_neg (fun q => hc (hcond.2 q))]; rfl
    · unfold PX.com
      by_cases hc : x.need ≤ x.z - x.e
      · rw [if_pos hc, if_pos (hcond.1 hc)]
        show overF x.f1 x.f2 = overF y.f1 y.f2
        rw [h.f1, h.f2]
      · rw [if_neg hc, if_neg (fun q => hc (hcond.2 q))]
        show overF x.f1 _ = overF y.f1 _
        rw [h.f1]
        rfl
theorem Twin.ckZ (h : Twin x y) (kx : GoodP x K) (ky : GoodP y K) (hK : K + 1 < maxC) : Twin x.ckZ y.ckZ := by
  unfold PX.ckZ
  rw [← h.m]
  split
  · exact h.ckpt kx ky hK
  · exact h
end
section
variable {w : World} {B p g K : Nat} {S : Nat → Prop} {x : PX}
theorem pa_putZ (h : PA w B S p g x) (k : GoodP x K) (n : Int) {y : List UInt8} (hy : y.length = 512) : Calls Tryz.prog 19 #[.pointer (some ⟨p, 0, none⟩), .int .i64 n, av y] w fun e w' => e = .returned (.int .i64 (x.inE n)) ∧ PTo w w' B S p g (x.putZ n y) := by
  unfold PX.inE PX.putZ
  by_cases hn : inR x n
  · obtain ⟨m, rfl⟩ : ∃ m : Nat, n = m := ⟨n.toNat, by unfold inR at hn; omega⟩
    rw [if_pos hn, if_pos hn]
    exact pa_put h k.ok (inR_lt hn) hy
  · rw [if_neg hn, if_neg hn]
    exact pa_put_bad h k.ok (by unfold inR at hn; omega) y
theorem pa_getZ (h : PA w B S p g x) (k : GoodP x K) (n : Int) : Calls Tryz.prog 18 #[.pointer (some ⟨p, 0, none⟩), .int .i64 n] w fun e w' => e = .returned (.tuple #[av (x.getV n), .int .i64 (x.inE n)]) ∧ PTo w w' B S p g (x.getZ n) := by
  unfold PX.inE PX.getZ PX.getV
  by_cases hn : inR x n
  · obtain ⟨m, rfl⟩ : ∃ m : Nat, n = m := ⟨n.toNat, by unfold inR at hn; omega⟩
    rw [if_pos hn, if_pos hn, if_pos hn]
    exact pa_get h k.ok (inR_lt hn)
  · rw [if_neg hn, if_neg hn, if_neg hn]
    exact pa_get_bad h k.ok (by unfold inR at hn; omega)
theorem pa_comZ (h : PA w B S p g x) (k : GoodP x K) (hK : K + 1 < maxC) : Calls Tryz.prog 21 #[.pointer (some ⟨p, 0, none⟩)] w fun e w' => e = .returned (.int .i64 x.comE) ∧ PTo w w' B S p g x.comZ := by
  unfold PX.comZ
  by_cases hn : x.no
  · rw [if_pos hn]
    refine (pa_commit_no h k.ok hn).mono ?_
    rintro e w' ⟨rfl, ht⟩
    refine ⟨?_, ht⟩
    unfold PX.comE
    unfold PX.no at hn
    by_cases h0 : x.m = 0
    · rw [if_pos h0, if_pos h0]
    · rw [if_neg h0, if_neg h0]
      by_cases h6 : 60 < x.m
      · rw [if_pos h6, if_pos h6]
      · rw [if_neg h6, if_neg h6, if_pos (by omega)]
  · rw [if_neg hn]
    have hn' := hn
    unfold PX.no at hn'
    refine (pa_commit_go h k.ok hK (by omega) (by omega) (by omega)).mono ?_
    rintro e w' ⟨rfl, o1, _⟩
    have hf := (PX.com_free k.free).1
    refine ⟨?_, o1 hf⟩
    rw [hf, if_pos rfl]
    unfold PX.comE
    rw [if_neg (by omega), if_neg (by omega), if_neg (by omega)]
theorem pa_ckZ (h : PA w B S p g x) (k : GoodP x K) (hK : K + 1 < maxC) : Calls Tryz.prog 23 #[.pointer (some ⟨p, 0, none⟩)] w fun e w' => e = .returned (.int .i64 x.ckE) ∧ PTo w w' B S p g x.ckZ := by
  unfold PX.ckZ PX.ckE
  by_cases h0 : x.m = 0
  · rw [if_pos h0, if_pos h0]
    refine (pa_ckpt_go h k.ok (by omega) h0).mono ?_
    rintro e w' ⟨rfl, o1, _⟩
    have hf := (PX.ck_free k.free).1
    exact ⟨by rw [hf]; rfl, o1 hf⟩
  · rw [if_neg h0, if_neg h0]
    exact pa_ckpt_busy h k.ok (by omega) (by omega)
/-- Two pools in one memory; the blocks X lie beside them. -/
def PP (w : World) (B : Nat) (X : Nat → Prop) (p g q g' : Nat) (x y : PX) : Prop := ∃ S S', PA w B S p g x ∧ PA w B S' q g' y ∧ (∀ b, S b → ¬ S' b) ∧ ∀ b, X b → ¬ S b ∧ ¬ S' b ∧ b < w.heap.size
variable {q g' : Nat} {y : PX} {X : Nat → Prop}
theorem PP.swap (h : PP w B X p g q g' x y) : PP w B X q g' p g y x := by
  obtain ⟨S, S', h1, h2, h3, h4⟩ := h
  exact ⟨S', S, h2, h1, fun b hb hs => h3 b hs hb, fun b hb => ⟨(h4 b hb).2.1, (h4 b hb).1, (h4 b hb).2.2⟩⟩
theorem PP.one (h : PP w B X p g q g' x y) : ∃ S, PA w B S p g x ∧ ∀ w' x', PTo w w' B S p g x' → PP w' B X p g q g' x' y ∧ Fr (fun b => B ≤ b ∧ ¬ X b) w w' := by
  obtain ⟨S, S', h1, h2, h3, hX⟩ := h
  refine ⟨S, h1, fun w' x' ⟨S1, h4, h5, f⟩ => ⟨⟨S1, S', h4, h2.keep f (fun b hb hs => h3 b hs hb) h1.no_frame, fun b hb hs => ?_, fun b hb => ⟨fun hs => ?_, (hX b hb).2.1, Nat.lt_of_lt_of_le (hX b hb).2.2 f.size⟩⟩, f.mono (fun b _ q => ⟨(h1.sub b q).1, fun hb => (hX b hb).1 q⟩)⟩⟩
  · rcases h5 b hb with y | y
    · exact h3 b y hs
    · have := (h2.sub b hs).2
      omega
  · rcases h5 b hs with y | y
    · exact (hX b hb).1 y
    · have := (hX b hb).2.2
      omega
theorem PP.two (h : PP w B X p g q g' x y) : ∃ S, PA w B S q g' y ∧ ∀ w' y', PTo w w' B S q g' y' → PP w' B X p g q g' x y' ∧ Fr (fun b => B ≤ b ∧ ¬ X b) w w' := by
  obtain ⟨S, h1, h2⟩ := h.swap.one
  exact ⟨S, h1, fun w' y' ht => ⟨(h2 w' y' ht).1.swap, (h2 w' y' ht).2⟩⟩
theorem PP.new {w' : World} (h : PP w B X p g q g' x y) (f : Fr (fun _ => False) w w') : PP w' B X p g q g' x y := by
  obtain ⟨S, S', h1, h2, h3, h4⟩ := h
  exact ⟨S, S', h1.new f, h2.new f, h3, fun b hb => ⟨(h4 b hb).1, (h4 b hb).2.1, Nat.lt_of_lt_of_le (h4 b hb).2.2 f.size⟩⟩
/-- New blocks lie beside. -/
theorem PP.mark {w' : World} {X' : Nat → Prop} (h : PP w B X p g q g' x y) (f : Fr (fun _ => False) w w') (hX : ∀ b, X' b → w.heap.size ≤ b ∧ b < w'.heap.size) : PP w' B X' p g q g' x y := by
  obtain ⟨S, S', h1, h2, h3, h4⟩ := h
  exact ⟨S, S', h1.new f, h2.new f, h3, fun b hb => ⟨fun hs => by have := (h1.sub b hs).2; have := (hX b hb).1; omega, fun hs => by have := (h2.sub b hs).2; have := (hX b hb).1; omega, (hX b hb).2⟩⟩
/-- One that lies beside is written. -/
theorem PP.put {w' : World} {b0 : Nat} {t : TypeId} {cs : Array Value} (h : PP w B X p g q g' x y) (f : Fr (fun b => b = b0) w w') (hX : X b0) (hb : Blk w b0 t cs) (ht : t ≠ 95) : PP w' B X p g q g' x y := by
  obtain ⟨S, S', h1, h2, h3, h4⟩ := h
  have hfr : ∀ b cs, Blk w b 95 cs → ¬ b = b0 := fun b cs' hk e => ht (blk_type hb (e ▸ hk))
  exact ⟨S, S', h1.keep f (fun b hs e => (h4 b0 hX).1 (e ▸ hs)) hfr, h2.keep f (fun b hs e => (h4 b0 hX).2.1 (e ▸ hs)) hfr, h3, fun b hb => ⟨(h4 b hb).1, (h4 b hb).2.1, Nat.lt_of_lt_of_le (h4 b hb).2.2 f.size⟩⟩
theorem PP.sub_one (h : PP w B X p g q g' x y) : ∃ S, PA w B S p g x := by obtain ⟨S, _, h1, _⟩ := h; exact ⟨S, h1⟩
theorem PP.sub_two (h : PP w B X p g q g' x y) : ∃ S, PA w B S q g' y := by obtain ⟨_, S, _, h1, _⟩ := h; exact ⟨S, h1⟩
theorem PA.low {B' : Nat} (h : PA w B S p g x) (hB : B' ≤ B) : PA w B' S p g x := by
  obtain ⟨lb, M1, M2, v, P, h1, h2, h3, h4, h5, h6, h7, h8, h9, hS, hb⟩ := h
  exact ⟨lb, M1, M2, v, P, h1, h2, ⟨⟨h3.1.1, fun b q => ⟨Nat.le_trans hB (h3.1.2 b q).1, (h3.1.2 b q).2⟩⟩, h3.2⟩, h4, h5, h6, h7, h8, h9, hS, fun b q => ⟨Nat.le_trans hB (hb b q).1, (hb b q).2⟩⟩
end
theorem putZ_fr (x : PX) (n : Int) (p : List UInt8) : (x.putZ n p).fr = x.fr := by unfold PX.putZ; split <;> rfl
theorem getZ_fr (x : PX) (n : Int) : (x.getZ n).fr = x.fr := by
  unfold PX.getZ
  split
  · unfold PX.got; split <;> rfl
  · rfl
theorem comZ_fr (x : PX) : x.comZ.fr = x.fr := by
  unfold PX.comZ
  split
  · rfl
  · unfold PX.com; split <;> rfl
theorem ckZ_fr (x : PX) : x.ckZ.fr = x.fr := by unfold PX.ckZ; split <;> rfl
/-- Two pools that differ in their frames alone. -/
structure Two (x y : PX) (K one two : Nat) : Prop where
  gx : GoodP x K
  gy : GoodP y K
  tw : Twin x y
  f1 : x.fr = one
  f2 : y.fr = two
section
variable {x y : PX} {K one two : Nat}
theorem Two.mono {K' : Nat} (h : Two x y K one two) (hK : K ≤ K') : Two x y K' one two := ⟨h.gx.mono hK, h.gy.mono hK, h.tw, h.f1, h.f2⟩
theorem Two.get (h : Two x y K one two) (n : Int) : Two (x.getZ n) (y.getZ n) K one two := ⟨h.gx.getZ n, h.gy.getZ n, h.tw.getZ n, (getZ_fr x n).trans h.f1, (getZ_fr y n).trans h.f2⟩
theorem Two.put (h : Two x y K one two) (n : Int) {p : List UInt8} (hp : p.length = 512) : Two (x.putZ n p) (y.putZ n p) K one two := ⟨h.gx.putZ n hp, h.gy.putZ n hp, h.tw.putZ n p, (putZ_fr x n p).trans h.f1, (putZ_fr y n p).trans h.f2⟩
theorem Two.com (h : Two x y K one two) (hK : K + 1 < maxC) : Two x.comZ y.comZ (K + 1) one two := ⟨h.gx.comZ hK, h.gy.comZ hK, h.tw.comZ h.gx h.gy hK, (comZ_fr x).trans h.f1, (comZ_fr y).trans h.f2⟩
theorem Two.ck (h : Two x y K one two) (hK : K + 1 < maxC) : Two x.ckZ y.ckZ (K + 1) one two := ⟨h.gx.ckZ hK, h.gy.ckZ hK, h.tw.ckZ h.gx h.gy hK, (ckZ_fr x).trans h.f1, (ckZ_fr y).trans h.f2⟩
theorem Two.abort (h : Two x y K one two) : Two x.aborted y.aborted K one two := ⟨h.gx.abort, h.gy.abort, h.tw.abort, h.f1, h.f2⟩
theorem Two.fresh {pages z : Nat} (hx : Fresh x pages z one) (hy : Fresh y pages z two) : Two x y 3 one two :=
  ⟨⟨hx.ok, hx.free⟩, ⟨hy.ok, hy.free⟩, ⟨hx.N.trans hy.N.symm, hx.z.trans hy.z.symm, hx.e.trans hy.e.symm, hx.f1.trans hy.f1.symm, hx.f2.trans hy.f2.symm, fun n hn => by rw [hx.N] at hn; rw [hx.pg n hn, hy.pg n hn]⟩, hx.fr, hy.fr⟩
end
end Go.Proofs.YtpdfpnpkbknhnaaGreat
