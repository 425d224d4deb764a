/- Pools opened anew beside the old ones; three that are read. -/
import Derived.Test.YtpdfpnpkbknhnaaGreatQlh
namespace Go.Proofs.YtpdfpnpkbknhnaaGreat
open Go.RowKit

section
variable {x y : PX} {K : Nat}
theorem Logs.fresh {P Z1 Z2 : Nat} (hx : Fresh x P Z1 4) (hy : Fresh y P Z2 4) : Logs x y 3 Z1 Z2 ∧ x.N = P ∧ x.m ≤ 2 :=
  ⟨⟨⟨hx.ok, hx.free⟩, ⟨hy.ok, hy.free⟩, ⟨hx.N.trans hy.N.symm, hx.f1.trans hy.f1.symm, fun n hn => by rw [hx.N] at hn; rw [hx.pg n hn, hy.pg n hn]⟩, hx.z, hy.z⟩, hx.N, by
    unfold PX.m
    rw [hx.f1, openF_nil]
    exact Nat.zero_le _⟩
theorem inR_of {n P : Nat} (hN : x.N = P) (hn : n < P) : inR x n := by unfold inR; omega
theorem getV_in {n P : Nat} (hN : x.N = P) (hn : n < P) : x.getV n = x.V n ∧ x.inE n = 0 := by
  have h := inR_of hN hn
  unfold PX.getV PX.inE
  rw [if_pos h, if_pos h]
  exact ⟨rfl, rfl⟩
theorem Tw2.getV (h : Tw2 x y) (n : Int) : x.getV n = y.getV n := by
  unfold PX.getV
  by_cases hn : inR x n
  · rw [if_pos hn, if_pos ((h.R n).1 hn), h.V (inR_lt hn)]
  · rw [if_neg hn, if_neg (fun q => hn ((h.R n).2 q))]
theorem getZ_f (x : PX) (n : Int) : (x.getZ n).N = x.N ∧ (x.getZ n).f1 = x.f1 := by
  unfold PX.getZ
  split
  · exact ⟨(got_same x _).1, (got_same x _).2.2.2.1⟩
  · exact ⟨rfl, rfl⟩
theorem C_len (k : GoodP x K) (hf : x.f1 = fun _ => []) {n : Nat} (hn : n < x.N) : (x.C n).length = 512 := by
  have := k.ok.V_len hn
  unfold PX.V at this
  rw [hf, if_neg (fun q => q rfl)] at this
  exact this
/-- A pool that is read: its pages. -/
structure Rd3 (x : PX) (P : Nat) (F : Nat → List UInt8) : Prop where
  rk : x.Rk
  N : x.N = P
  C : ∀ n, n < P → x.C n = F n
theorem Rd3.asked {P : Nat} {F : Nat → List UInt8} (h : Rd3 x P F) {n : Nat} (hn : n < P) : Rd3 (x.asked n) P F := ⟨h.rk.asked (by rw [h.N]; exact hn), h.N, h.C⟩
theorem rd3_anew (k : GoodP x K) (hK : K + 2 < maxC) (hf : x.f1 = fun _ => []) : Rd3 (x.anew 4) x.N x.C ∧ Rd3 { x with d := (x.anew 4).d } x.N x.C := by
  obtain ⟨h1, h2, h3⟩ := k.anew hK (fr := 4) (by omega) (by omega)
  obtain ⟨h4, h5⟩ := h3 hf
  exact ⟨⟨h1.rk (anew_f x 4).1, (anew_f x 4).2.2.1, h2⟩, ⟨h4, rfl, h5⟩⟩
theorem Logs.rd {z1 z2 P : Nat} (h : Logs x y K z1 z2) (hK : K + 2 < maxC) (hN : x.N = P) (hf : x.f1 = fun _ => []) : Rd3 (x.anew 4) P x.C ∧ Rd3 { x with d := (x.anew 4).d } P x.C ∧ Rd3 (y.anew 4) P x.C ∧ ∀ n, n < P → (x.C n).length = 512 := by
  subst hN
  obtain ⟨a1, a2⟩ := rd3_anew h.gx hK hf
  obtain ⟨b1, b2⟩ := rd3_anew h.gy hK (by rw [← h.tw.f1]; exact hf)
  rw [← h.tw.N] at b1
  exact ⟨a1, a2, ⟨b1.rk, b1.N, fun n hn => (b1.C n hn).trans (h.tw.C n hn).symm⟩, fun n hn => C_len h.gx hf hn⟩
end
/-- As PV, all of its blocks in T. -/
def PVT (w : World) (B : Nat) (T O : Nat → Prop) (p g : Nat) (x : PX) : Prop :=
  ∃ lb M1 M2 v P, PlB w p g x.z x.fr lb M1 M2 v false ∧ FrV w v x.cl ∧ DT w B g x.d P ∧ PMap w M1 x.N x.f1 ∧ PMap w M2 x.N x.f2 ∧ (∀ b, O b ↔ (b = p ∨ v.ownBlock = some b)) ∧ (∀ b, O b → B ≤ b ∧ b < w.heap.size) ∧ T M1 ∧ T M2 ∧ (∀ b, P b → T b) ∧ ∀ b, O b → T b
section
variable {w w' : World} {B p g K : Nat} {T O G S : Nat → Prop} {x : PX}
theorem PVT.pv (h : PVT w B T O p g x) : PV w B O p g x := by
  obtain ⟨lb, M1, M2, v, P, h1, h2, h3, h4, h5, h6, h7, _⟩ := h
  exact ⟨lb, M1, M2, v, P, h1, h2, h3, h4, h5, h6, h7⟩
theorem PVT.keep (h : PVT w B T O p g x) (f : Fr G w w') (hG : ∀ b, T b → b < w.heap.size → ¬ G b) (hfr : ∀ b cs, Blk w b 95 cs → ¬ G b) : PVT w' B T O p g x := by
  obtain ⟨lb, M1, M2, v, P, h1, h2, h3, h4, h5, h6, h7, h8, h9, h10, h11⟩ := h
  have hO : ∀ b, O b → ¬ G b := fun b hb => hG b (h11 b hb) (h7 b hb).2
  exact ⟨lb, M1, M2, v, P, h1.keep f (hO p ((h6 p).2 (.inl rfl))), h2.keep f (fun k hk => hO k ((h6 k).2 (.inr hk))) (fun b cs hk => hfr b cs hk), h3.keep' f (fun b hb q => hG b (h10 b hb) (h3.1.2 b hb).2 q), h4.keep f (hG _ h8 h4.lt), h5.keep f (hG _ h9 h5.lt), h6, fun b hb => ⟨(h7 b hb).1, Nat.lt_of_lt_of_le (h7 b hb).2 f.size⟩, h8, h9, h10, h11⟩
set_option maxHeartbeats 1000000 in
/-- The disk of a pool is opened anew: the pool that is opened, and the old one. -/
theorem open_anew {z : Nat} (hz : x.z = z) (h : PA w B S p g x) (k : GoodP x K) (hK : K + 2 < maxC) : Calls Tryz.prog 14 #[.pointer (some ⟨g, 0, none⟩), .int .i64 (z : Nat), .int .i64 4] w fun e w' => ∃ r O O', e = .returned (.tuple #[.pointer (some ⟨r, 0, none⟩), .int .i64 0]) ∧ PVT w' B (fun b => S b ∨ w.heap.size ≤ b) O p g { x with d := (x.anew 4).d } ∧ PVT w' B (fun b => S b ∨ w.heap.size ≤ b) O' r g (x.anew 4) ∧ (∀ b, O b → ¬ O' b) ∧ Fr S w w' := by
  subst hz
  obtain ⟨lb, M1, M2, v, P, h1, h2, h3, h4, h5, h6, h7, h8, h9, hS, hb, hpP, hvb, a1, a2, a3, a4, a5, a6⟩ := h.parts
  have hop := op_free k.free x.z 4 x.c x.s x.e x.N x.q
  have HO := pa_open (fr := 4) h3 k.ok.dr hK (by omega) (by omega)
  rw [hop.1] at HO
  refine HO.mono ?_
  rintro e w' ⟨u, rfl, f, -, o2⟩
  obtain ⟨r, S', rfl, hA, hs⟩ := o2 rfl
  have hA' : PA w' B S' r g (x.anew 4) := hA
  obtain ⟨lb', N1, N2, v', P', k1, k2, k3, k4, k5, k6, k7, k8, k9, kS, kb, _⟩ := hA'.parts
  have hPS : ∀ b, P b → S b := fun b q => (hS b).2 (.inr (.inr (.inr (.inr (.inr q)))))
  have hsT : ∀ b, S' b → S b ∨ w.heap.size ≤ b := fun b q => (hs b q).elim (fun q => .inl (hPS b q)) .inr
  have hO : ∀ b, (b = p ∨ v.ownBlock = some b) → S b ∧ ¬ P b := fun b q => by
    rcases q with q | q
    · rw [q]; exact ⟨(hS p).2 (.inl rfl), hpP⟩
    · exact ⟨(hS b).2 (.inr (.inr (.inr (.inr (.inl q))))), (hvb b q).2.2.2.2⟩
  refine ⟨r, fun b => b = p ∨ v.ownBlock = some b, fun b => b = r ∨ v'.ownBlock = some b, rfl, ⟨lb, M1, M2, v, P', h1.keep f hpP, h2.keep f (fun k hk => (hvb k hk).2.2.2.2) (fun b cs hk => h3.not_t hk (by decide) (by decide)), k3, h5.keep f h8, h6.keep f h9, fun b => Iff.rfl, fun b q => ?_, .inl ((hS _).2 (.inr (.inr (.inl rfl)))), .inl ((hS _).2 (.inr (.inr (.inr (.inl rfl))))), fun b q => hsT b ((kS b).2 (.inr (.inr (.inr (.inr (.inr q)))))), fun b q => .inl (hO b q).1⟩, ⟨lb', N1, N2, v', P', k1, k2, k3, k5, k6, fun b => Iff.rfl, fun b q => kb b ((kS b).2 (q.elim .inl (fun q => .inr (.inr (.inr (.inr (.inl q))))))), hsT _ ((kS _).2 (.inr (.inr (.inl rfl)))), hsT _ ((kS _).2 (.inr (.inr (.inr (.inl rfl))))), fun b q => hsT b ((kS b).2 (.inr (.inr (.inr (.inr (.inr q)))))), fun b q => hsT b ((kS b).2 (q.elim .inl (fun q => .inr (.inr (.inr (.inr (.inl q)))))))⟩, fun b q1 q2 => ?_, f.mono (fun b _ q => hPS b q)⟩
  · have := hb b (hO b q).1
    exact ⟨this.1, Nat.lt_of_lt_of_le this.2 f.size⟩
  · have h9 := hO b q1
    rcases hs b ((kS b).2 (q2.elim .inl (fun q => .inr (.inr (.inr (.inr (.inl q))))))) with e | e
    · exact h9.2 e
    · have := (hb b h9.1).2
      omega
end
theorem begun4 (w : World) {pages z : Nat} (hp4 : 4 ≤ pages) (hp : pages ≤ 80) (hz4 : 4 ≤ z) (hz : z ≤ 400) : Calls Tryz.prog 10 #[.int .i64 (pages : Nat), .int .i64 (z : Nat), .int .i64 4] w fun e w' => ∃ g p S x, e = .returned (.tuple #[.pointer (some ⟨g, 0, none⟩), .pointer (some ⟨p, 0, none⟩), .bool true]) ∧ PA w' w.heap.size S p g x ∧ Fresh x pages z 4 ∧ Fr (fun _ => False) w w' := begun_any w (fr := 4) hp4 hp hz4 hz (by omega) (by omega)
theorem lneed3 (w : World) : Calls Tryz.prog 27 #[.int .i64 3] w fun e w' => e = .returned (.int .i64 (wneedN 3 : Nat)) ∧ w = w' := by
  have hn : wneedN 3 = needN 1548 := by decide
  have HM := Lib.hid (rneed_any w 1548)
  rw [hn]
  generalize needN 1548 = m at *
  clear hn
  go_enter Tryz.func27, Tryz.ntmps27
  go_wp2_with fail
  (with_reducible refine HM.out.mono ?_)
  rintro e w1 ⟨rfl, rfl⟩
  go_wp2_with fail
  go_ret
  exact ⟨rfl, rfl⟩
/-- Three pools that are read; the blocks X lie beside them. -/
def Tri (w : World) (B : Nat) (X : Nat → Prop) (p1 g1 p2 g2 p3 g3 : Nat) (x1 x2 x3 : PX) : Prop :=
  ∃ O1 O2 O3, PV w B O1 p1 g1 x1 ∧ PV w B O2 p2 g2 x2 ∧ PV w B O3 p3 g3 x3 ∧ (∀ b, O1 b → ¬ O2 b) ∧ (∀ b, O2 b → ¬ O3 b) ∧ (∀ b, O1 b → ¬ O3 b) ∧ ∀ b, X b → ¬ O1 b ∧ ¬ O2 b ∧ ¬ O3 b ∧ b < w.heap.size
section
variable {w w' : World} {B p1 g1 p2 g2 p3 g3 : Nat} {X : Nat → Prop} {x1 x2 x3 : PX}
theorem Tri.rot (h : Tri w B X p1 g1 p2 g2 p3 g3 x1 x2 x3) : Tri w B X p2 g2 p3 g3 p1 g1 x2 x3 x1 := by
  obtain ⟨O1, O2, O3, h1, h2, h3, d1, d2, d3, hX⟩ := h
  exact ⟨O2, O3, O1, h2, h3, h1, d2, fun b q1 q2 => d3 b q2 q1, fun b q1 q2 => d1 b q2 q1, fun b hb => ⟨(hX b hb).2.1, (hX b hb).2.2.1, (hX b hb).1, (hX b hb).2.2.2⟩⟩
theorem Tri.mark {X' : Nat → Prop} (h : Tri w B X p1 g1 p2 g2 p3 g3 x1 x2 x3) (f : Fr (fun _ => False) w w') (hX : ∀ b, X' b → X b ∨ (w.heap.size ≤ b ∧ b < w'.heap.size)) : Tri w' B X' p1 g1 p2 g2 p3 g3 x1 x2 x3 := by
  obtain ⟨O1, O2, O3, h1, h2, h3, d1, d2, d3, h4⟩ := h
  refine ⟨O1, O2, O3, h1.new f, h2.new f, h3.new f, d1, d2, d3, fun b hb => ?_⟩
  rcases hX b hb with q | ⟨q1, q2⟩
  · have := h4 b q
    exact ⟨this.1, this.2.1, this.2.2.1, Nat.lt_of_lt_of_le this.2.2.2 f.size⟩
  · exact ⟨fun q => by have := (h1.sub b q).2; omega, fun q => by have := (h2.sub b q).2; omega, fun q => by have := (h3.sub b q).2; omega, q2⟩
theorem tri_get {P : Nat} {F : Nat → List UInt8} (h : Tri w B X p1 g1 p2 g2 p3 g3 x1 x2 x3) (k : Rd3 x1 P F) {n : Nat} (hn : n < P) : Calls Tryz.prog 18 #[.pointer (some ⟨p1, 0, none⟩), .int .i64 (n : Nat)] w fun e w' => e = .returned (.tuple #[av (F n), .int .i64 0]) ∧ Tri w' B X p1 g1 p2 g2 p3 g3 (x1.asked n) x2 x3 ∧ Fr (fun b => B ≤ b ∧ ¬ X b) w w' := by
  obtain ⟨O1, O2, O3, h1, h2, h3, d1, d2, d3, hX⟩ := h
  refine (pv_get h1 k.rk (by rw [k.N]; exact hn)).mono ?_
  rintro e w' ⟨rfl, O', h4, h5, f⟩
  have hT : ∀ b, O1 b → b < w.heap.size → ∃ t cs, Blk w b t cs ∧ (t = 65 ∨ t = 93 ∨ t = 50) := fun b q _ => by
    obtain ⟨t, cs, q1, q2⟩ := h1.typ b q
    exact ⟨t, cs, q1, q2.elim .inl (fun q => .inr (.inl q))⟩
  refine ⟨by rw [k.C n hn], ⟨O', O2, O3, h4, h2.keep f (fun b q1 q2 => d1 b q2 q1) hT, h3.keep f (fun b q1 q2 => d3 b q2 q1) hT, fun b q1 q2 => ?_, d2, fun b q1 q2 => ?_, fun b hb => ⟨fun q => ?_, (hX b hb).2.1, (hX b hb).2.2.1, Nat.lt_of_lt_of_le (hX b hb).2.2.2 f.size⟩⟩, f.mono (fun b _ q => ⟨(h1.sub b q).1, fun hb => (hX b hb).1 q⟩)⟩
  · rcases h5 b q1 with e | e
    · exact d1 b e q2
    · have := (h2.sub b q2).2; omega
  · rcases h5 b q1 with e | e
    · exact d3 b e q2
    · have := (h3.sub b q2).2; omega
  · rcases h5 b q with e | e
    · exact (hX b hb).1 e
    · have := (hX b hb).2.2.2; omega
end
section
variable {w w1 : World} {B p g q g' r K K' : Nat} {S S' T : Nat → Prop} {x y u v : PX}
/-- Both opened anew, one behind the other: the two new ones and the first of the old. -/
theorem open_both {z : Nat} {O O' : Nat → Prop} (hz : y.z = z) (hT : ∀ b, T b → ¬ S' b ∨ w1.heap.size ≤ b) (hu : PVT w1 B T O p g u) (hv : PVT w1 B T O' r g v) (hd : ∀ b, O b → ¬ O' b) (h : PA w1 B S' q g' y) (k : GoodP y K) (hK : K + 2 < maxC) : Calls Tryz.prog 14 #[.pointer (some ⟨g', 0, none⟩), .int .i64 (z : Nat), .int .i64 4] w1 fun e w' => ∃ r2, e = .returned (.tuple #[.pointer (some ⟨r2, 0, none⟩), .int .i64 0]) ∧ Tri w' B (fun _ => False) r g r2 g' p g v (y.anew 4) u ∧ Fr S' w1 w' := by
  refine (open_anew hz h k hK).mono ?_
  rintro e w' ⟨r2, O1, O2, rfl, h1, h2, h3, f⟩
  have hG : ∀ b, T b → b < w1.heap.size → ¬ S' b := fun b q1 q2 => (hT b q1).elim (fun q => q) (fun q => by omega)
  have hdis : ∀ Q : Nat → Prop, (∀ b, Q b → T b ∧ b < w1.heap.size) → ∀ b, Q b → ¬ O2 b := fun Q hQ b q1 q2 => by
    obtain ⟨lb, M1, M2, v', P', _, _, _, _, _, _, _, _, _, _, hO2⟩ := h2
    rcases hO2 b q2 with e | e
    · exact hG b (hQ b q1).1 (hQ b q1).2 e
    · have := (hQ b q1).2; omega
  have hin : ∀ {Q : Nat → Prop} {a : Nat} {z : PX}, PVT w1 B T Q a g z → ∀ b, Q b → T b ∧ b < w1.heap.size := fun hz b q => by
    obtain ⟨lb, M1, M2, v', P', _, _, _, _, _, _, hb, _, _, _, hO2⟩ := hz
    exact ⟨hO2 b q, (hb b q).2⟩
  exact ⟨r2, rfl, ⟨O', O2, O, (hv.keep f hG h.no_frame).pv, h2.pv, (hu.keep f hG h.no_frame).pv, hdis O' (hin hv), fun b q1 q2 => hdis O (hin hu) b q2 q1, fun b q1 q2 => hd b q2 q1, fun b q => q.elim⟩, f⟩
end
end Go.Proofs.YtpdfpnpkbknhnaaGreat
