/- live: what it stands on: a pool and the document's, in one memory. -/
import Derived.Test.YtcnlgbjkjlbmbaaGreatQso2
namespace Go.Proofs.YtcnlgbjkjlbmbaaGreat
open Go.RowKit

def besT (t : TypeId) : Prop := t = 79 ∨ t = 50 ∨ t = 101 ∨ t = 3 ∨ t = 34 ∨ t = 48
def Off (w : World) (S : Nat → Prop) : Prop := ∀ b t cs, Blk w b t cs → besT t → ¬ S b
section
variable {w w' : World} {B p g r M K N : Nat} {S : Nat → Prop} {x x' : PX} {pg : List (List UInt8)} {ch : List Chg} {fr z : Int} {d : DS} {P : Nat → Prop}
theorem DT.off (h : DT w B g d P) : Off w P := fun b t cs hb ht => by
 rcases ht with e | e | e | e | e | e <;> subst e <;> exact h.not_t hb (by decide) (by decide)
theorem PA.off (h : PA w B S p g x) : Off w S := fun b t cs hb ht hS => by
 obtain ⟨lb, M1, M2, v, P, k1, k2, k3, k4, k5, k6, _, _, _, hS', _⟩ := h
 obtain ⟨bs, ho, _⟩ := k2
 rcases (hS' b).1 hS with e | e | e | e | e | e
 · have := blk_type (e ▸ hb) k1
   rcases ht with e | e | e | e | e | e <;> subst e <;> exact absurd this (by decide)
 · have := blk_type (e ▸ hb) k4
   rcases ht with e | e | e | e | e | e <;> subst e <;> exact absurd this (by decide)
 · exact k5.ne_blk hb e.symm
 · exact k6.ne_blk hb e.symm
 · rcases ht with e | e | e | e | e | e <;> subst e <;> exact own_ne ho hb (by decide) ‹_›
 · exact k3.off b t cs hb ht e
theorem one_off {b0 : Nat} {t0 : TypeId} {cs0 : Array Value} (h0 : Blk w b0 t0 cs0) (ht : ¬ besT t0) : Off w (fun b => b = b0) := fun b t cs hb hbe e => by
 subst e
 exact ht (blk_type hb h0 ▸ hbe)
theorem OT.off {t : TypeId} {v : Value} (h : OT t w v) (o : Off w S) (ht : besT t) : ∀ b, v.ownBlock = some b → ¬ S b := fun b hb => by
 obtain ⟨cs, q⟩ := h b hb
 exact o b t cs q ht
theorem RP.stay (h : RP w r pg ch M fr z) (f : Fr S w w') (o : Off w S) : RP w' r pg ch M fr z := by
 obtain ⟨room, vp, vc, vd, vl, di, cl, h1, h2, h3, h4, h5, h6, h7, s0, s1, s2, s3⟩ := h
 have n0 := s0.off o (.inr (.inl rfl))
 have n1 := s1.off o (.inr (.inr (.inl rfl)))
 have n2 := s2.off o (.inr (.inr (.inr (.inl rfl))))
 have n3 := s3.off o (.inr (.inr (.inr (.inl rfl))))
 exact ⟨room, vp, vc, vd, vl, di, cl, h1.keep f (o _ _ _ h1 (.inl rfl)), h2.keep f n0, h3.keep f n1, h4.keep f n2, h5, h6.keep f n3, h7, s0.keep f n0, s1.keep f n1, s2.keep f n2, s3.keep f n3⟩
theorem RP.new (h : RP w r pg ch M fr z) (f : Fr (fun _ => False) w w') : RP w' r pg ch M fr z := h.stay f (fun _ _ _ _ _ q => q)
theorem RP.blk (h : RP w r pg ch M fr z) : ∃ cs, Blk w r 79 cs := by
 obtain ⟨room, vp, vc, vd, vl, di, cl, h1, _⟩ := h
 exact ⟨_, h1⟩
theorem RP.pages (h : RP w r pg ch M fr z) (h0 : 0 < pg.length) : ∃ b off c, w.cell? ⟨r, 0, none⟩ = some (.slice (some ⟨b, off, none⟩) pg.length c) ∧ PgsV w (.slice (some ⟨b, off, none⟩) pg.length c) pg ∧ OT 50 w (.slice (some ⟨b, off, none⟩) pg.length c) := by
 obtain ⟨room, vp, vc, vd, vl, di, cl, h1, h2, h3, h4, h5, h6, h7, s0, s1, s2, s3⟩ := h
 have h2' := h2
 obtain ⟨A, c, rfl, _, _, _, h9⟩ := h2'
 obtain ⟨b, off, rfl, _⟩ := h9 h0
 exact ⟨b, off, c, (rp_cells h1).1, h2, s0⟩
theorem RP.clear (h : RP w r pg ch M fr z) : RP (w.setCell ⟨r, 1, none⟩ (.slice none 0 0)) r pg [] M fr z ∧ Fr (fun b => b = r) w (w.setCell ⟨r, 1, none⟩ (.slice none 0 0)) ∧ w.frozen? ⟨r, 1, none⟩ = false ∧ (w.cell? ⟨r, 1, none⟩).isSome = true := by
 obtain ⟨room, vp, vc, vd, vl, di, cl, h1, h2, h3, h4, h5, h6, h7, s0, s1, s2, s3⟩ := h
 obtain ⟨q1, f1⟩ := rp_set h1 1 (.slice none 0 0)
 exact ⟨⟨room, vp, _, vd, vl, di, cl, q1, h2.keep f1 (s0.p h1), RcV.nil _, h4.keep f1 (s2.i h1), h5, h6.keep f1 (s3.i h1), h7, s0.keep f1 (s0.p h1), OT.none_, s2.keep f1 (s2.i h1), s3.keep f1 (s3.i h1)⟩, f1, h1.frozen 1, by rw [(rp_cells h1).2.1]; rfl⟩
theorem RP.settle (h : RP w r pg ch M fr z) : Calls Tryz.prog 39 #[.pointer (some ⟨r, 0, none⟩)] w fun e w' => e = .returned (.tuple #[]) ∧ RP w' r pg ch M fr z ∧ Fr (fun b => b = r) w w' := by
 obtain ⟨room, vp, vc, vd, vl, di, cl, h1, h2, h3, h4, h5, h6, h7, s0, s1, s2, s3⟩ := h
 refine (rsettle6_any h1).mono ?_
 rintro e w' ⟨rfl, hB, f⟩
 exact ⟨rfl, ⟨z, vp, vc, _, vl, [], cl, hB, h2.keep f (s0.p h1), h3.keep f (s1.c h1), intsN_own (World.ownsRow_nil w' 0 3 1), Nat.zero_le _, h6.keep f (s3.i h1), h7, s0.keep f (s0.p h1), s1.keep f (s1.c h1), OT.none_, s3.keep f (s3.i h1)⟩, f⟩
def ST (w : World) (B p g r : Nat) (x : PX) (pg : List (List UInt8)) (ch : List Chg) (M : Nat) (fr : Int) : Prop := B ≤ r ∧ ∃ S, PA w B S p g x ∧ RP w r pg ch M fr (x.z : Nat)
theorem ST.pool (h : ST w B p g r x pg ch M fr) : ∃ S, PA w B S p g x ∧ Off w S ∧ ∀ w' x', PTo w w' B S p g x' → x'.z = x.z → ST w' B p g r x' pg ch M fr ∧ Fr (fun b => B ≤ b) w w' ∧ Fr S w w' := by
 obtain ⟨hr, S, h1, h2⟩ := h
 refine ⟨S, h1, h1.off, fun w' x' ht hz => ?_⟩
 obtain ⟨S', k1, _, k3⟩ := ht
 exact ⟨⟨hr, S', k1, by rw [hz]; exact h2.stay k3 h1.off⟩, k3.mono (fun b _ q => (h1.sub b q).1), k3⟩
theorem ST.ref (h : ST w B p g r x pg ch M fr) : RP w r pg ch M fr (x.z : Nat) ∧ ∀ w' pg' ch' M', RP w' r pg' ch' M' fr (x.z : Nat) → Fr (fun b => b = r) w w' → ST w' B p g r x pg' ch' M' fr ∧ Fr (fun b => B ≤ b) w w' := by
 obtain ⟨hr, S, h1, h2⟩ := h
 refine ⟨h2, fun w' pg' ch' M' h3 f => ?_⟩
 obtain ⟨cs, hb⟩ := h2.blk
 exact ⟨⟨hr, S, h1.keep f (fun b hb' e => h1.off r _ _ hb (.inl rfl) (e ▸ hb')) (fun b cs' hb' e => absurd (blk_type (e ▸ hb') hb) (by decide)), h3⟩, f.mono (fun b _ e => by rw [e]; exact hr)⟩
theorem ST.new (h : ST w B p g r x pg ch M fr) (f : Fr (fun _ => False) w w') : ST w' B p g r x pg ch M fr := by
 obtain ⟨hr, S, h1, h2⟩ := h
 exact ⟨hr, S, h1.new f, h2.new f⟩
theorem Off.blk {b : Nat} {t : TypeId} {cs : Array Value} (o : Off w S) (f : Fr S w w') (hb : Blk w b t cs) (ht : besT t) : Blk w' b t cs := hb.keep f (o b t cs hb ht)
theorem ref_blk {b : Nat} {t : TypeId} {cs : Array Value} (h : RP w r pg ch M fr z) (f : Fr (fun b => b = r) w w') (hb : Blk w b t cs) (ht : t ≠ 79) : Blk w' b t cs := by
 obtain ⟨cs', hr⟩ := h.blk
 exact hb.keep f (fun e => ht (blk_type (e ▸ hb) hr))
theorem pa_putY (h : PA w B S p g x) (k : x.Ok K) (n : Int) {y : List UInt8} (hy : y.length = 512) : Calls Tryz.prog 19 #[.pointer (some ⟨p, 0, none⟩), .int .i64 n, av y] w fun e w' => e = .returned (.int .i64 (x.inE n)) ∧ PTo w w' B S p g (x.putZ n y) := by
 unfold PX.inE PX.putZ
 by_cases hn : inR x n
 · obtain ⟨m, rfl⟩ : ∃ m : Nat, n = m := ⟨n.toNat, by unfold inR at hn; omega⟩
   rw [if_pos hn, if_pos hn]
   exact pa_put h k (inR_lt hn) hy
 · rw [if_neg hn, if_neg hn]
   exact pa_put_bad h k (by unfold inR at hn; omega) y
theorem pa_getY (h : PA w B S p g x) (k : x.Ok K) (n : Int) : Calls Tryz.prog 18 #[.pointer (some ⟨p, 0, none⟩), .int .i64 n] w fun e w' => e = .returned (.tuple #[av (x.getV n), .int .i64 (x.inE n)]) ∧ PTo w w' B S p g (x.getZ n) := by
 unfold PX.inE PX.getZ PX.getV
 by_cases hn : inR x n
 · obtain ⟨m, rfl⟩ : ∃ m : Nat, n = m := ⟨n.toNat, by unfold inR at hn; omega⟩
   rw [if_pos hn, if_pos hn, if_pos hn]
   exact pa_get h k (inR_lt hn)
 · rw [if_neg hn, if_neg hn, if_neg hn]
   exact pa_get_bad h k (by unfold inR at hn; omega)
theorem getZ_ok (k : x.Ok K) (n : Int) : (x.getZ n).Ok K ∧ (x.getZ n).z = x.z ∧ (x.getZ n).N = x.N ∧ (x.getZ n).r = x.r ∧ pagesOf (x.getZ n) = pagesOf x := by
 unfold PX.getZ
 split
 · obtain ⟨a1, a2, a3, a4, a5, a6⟩ := got_same x n.toNat
   refine ⟨k.got (inR_lt ‹_›), a2, a1, ?_, ?_⟩
   · unfold PX.r
     rw [a4, a1]
   · unfold pagesOf
     rw [a1]
     exact List.map_congr_left fun i _ => a6 i
 · exact ⟨k, rfl, rfl, rfl, rfl⟩
theorem putted_ok (k : x.Ok K) {n : Nat} (hn : n < x.N) {y : List UInt8} (hy : y.length = 512) : (x.putted n y).Ok K ∧ (x.putted n y).z = x.z ∧ (x.putted n y).N = x.N ∧ pagesOf (x.putted n y) = pagesOf x ∧ (x.putted n y).r = putCh x.r n y (decide (y = x.C n)) := by
 refine ⟨k.putted hn hy, rfl, rfl, rfl, ?_⟩
 have h := put_chgs (f := x.f1) hn (x := y) (by intro e; rw [e] at hy; simp at hy) (decide (y = x.C n))
 show chgs (upd x.f1 n (if y = x.C n then [] else y)) (openF (upd x.f1 n (if y = x.C n then [] else y)) x.N) = putCh (chgs x.f1 (openF x.f1 x.N)) n y (decide (y = x.C n))
 rw [h]
 by_cases e : y = x.C n
 · simp [e]
 · simp [e]
theorem PX.r_len : x.r.length = x.m := chgs_len _ _
theorem PX.m_le : x.m ≤ x.N := by
 unfold PX.m openF
 exact Nat.le_trans (List.length_filter_le _ _) (by simp)
theorem PX.r_in : ∀ c ∈ x.r, 0 ≤ c.n ∧ c.n < ((pagesOf x).length : Int) := fun c hc => by
 unfold PX.r chgs at hc
 obtain ⟨n, hn, rfl⟩ := List.mem_map.1 hc
 have := (openF_mem.1 hn).1
 rw [pagesOf_len]
 show (0 : Int) ≤ (n : Int) ∧ (n : Int) < _
 omega
theorem PX.r_nil (h : x.f1 = fun _ => []) : x.r = [] := by
 unfold PX.r
 rw [h, openF_nil]
 rfl
theorem com_f1 : x.com.f1 = fun _ => [] := by unfold PX.com; split <;> rfl
theorem com_N : x.com.N = x.N ∧ x.com.z = x.z := by unfold PX.com; split <;> exact ⟨rfl, rfl⟩
def AfL (d : DS) (z N K : Nat) (ms : List (List (List UInt8))) : Prop := ∀ picks, ∃ c s q e, DR (d.crash picks) z c s q e N K ∧ (List.range N).map (CD (d.crash picks) z N q) ∈ ms
theorem AfP.list {z N K : Nat} {F G : Nat → List UInt8} {d : DS} (h : AfP d z N K F G) {ms : List (List (List UInt8))} (hF : (List.range N).map F ∈ ms) (hG : (List.range N).map G ∈ ms) : AfL d z N K ms := fun picks => by
 obtain ⟨c, s, q, e, h1, h2⟩ := h picks
 have hm : ∀ H : Nat → List UInt8, (∀ n, n < N → CD (d.crash picks) z N q n = H n) → (List.range N).map (CD (d.crash picks) z N q) = (List.range N).map H := fun H hh => List.map_congr_left fun n hn => hh n (List.mem_range.1 hn)
 refine ⟨c, s, q, e, h1, ?_⟩
 rcases h2 with h2 | h2
 · rw [hm F h2]; exact hF
 · rw [hm G h2]; exact hG
theorem AfL.mono {z N K K' : Nat} {d : DS} {ms : List (List (List UInt8))} (h : AfL d z N K ms) (hK : K ≤ K') : AfL d z N K' ms := fun picks => by
 obtain ⟨c, s, q, e, h1, h2⟩ := h picks
 exact ⟨c, s, q, e, { h1 with cK := Nat.le_trans h1.cK hK }, h2⟩
def MsP (w : World) (v : Value) (ms : List (List (List UInt8))) : Prop := ∃ b cs, v = .slice (some ⟨b, 0, none⟩) ms.length ms.length ∧ ms.length ≤ 2 ∧ Blk w b 34 cs ∧ ∀ (i : Nat) (m : List (List UInt8)), ms[i]? = some m → ∃ u, w.cell? ⟨b, i, none⟩ = some u ∧ PgsV w u m ∧ OT 50 w u
theorem MsP.one {u : Value} {m : List (List UInt8)} {b : Nat} (hb : Blk w b 34 #[u]) (h : PgsV w u m) (ho : OT 50 w u) : MsP w (.slice (some ⟨b, 0, none⟩) 1 1) [m] := by
 refine ⟨b, _, rfl, by simp, hb, fun i m' hm => ?_⟩
 have hi : i = 0 := by
  have := (List.getElem?_eq_some_iff.1 hm).1
  simp at this
  exact this
 subst hi
 have e : m = m' := by simpa using hm
 subst e
 exact ⟨u, by rw [hb.cell]; rfl, h, ho⟩
theorem MsP.two {u u' : Value} {m m' : List (List UInt8)} {b : Nat} (hb : Blk w b 34 #[u, u']) (h : PgsV w u m) (ho : OT 50 w u) (h' : PgsV w u' m') (ho' : OT 50 w u') : MsP w (.slice (some ⟨b, 0, none⟩) 2 2) [m, m'] := by
 refine ⟨b, _, rfl, by simp, hb, fun i x hm => ?_⟩
 have hi : i < 2 := (List.getElem?_eq_some_iff.1 hm).1
 rcases (by omega : i = 0 ∨ i = 1) with rfl | rfl
 · have e : m = x := by simpa using hm
   subst e
   exact ⟨u, by rw [hb.cell]; rfl, h, ho⟩
 · have e : m' = x := by simpa using hm
   subst e
   exact ⟨u', by rw [hb.cell]; rfl, h', ho'⟩
theorem MsP.keep {v : Value} {ms : List (List (List UInt8))} (h : MsP w v ms) (f : Fr S w w') (o : Off w S) : MsP w' v ms := by
 obtain ⟨b, cs, e, h2, hb, hm⟩ := h
 refine ⟨b, cs, e, h2, o.blk f hb (.inr (.inr (.inr (.inr (.inl rfl))))), fun i m hi => ?_⟩
 obtain ⟨u, h1, h3, h4⟩ := hm i m hi
 exact ⟨u, (f.cell (World.block_lt_of_cell? w _ h1) (o _ _ _ hb (.inr (.inr (.inr (.inr (.inl rfl))))))).trans h1, h3.keep f (h4.off o (.inr (.inl rfl))), h4.keep f (h4.off o (.inr (.inl rfl)))⟩
theorem PGone.dead {d : DS} (h : PGone w w' B S p g d) (hb : ∀ b, S b → B ≤ b) : (∃ z fr lb M1 M2 v P, PDx w' B p g z fr lb M1 M2 v P d) ∧ Fr S w w' ∧ Fr (fun b => B ≤ b) w w' := by
 obtain ⟨S', ⟨z, fr, lb, M1, M2, v, P, h1, h3, _⟩, _, f⟩ := h
 exact ⟨⟨z, fr, lb, M1, M2, v, P, h1, h3, h3.not_t h1 (by decide) (by decide)⟩, f, f.mono (fun b _ q => hb b q)⟩
theorem opD_dd {c s N z : Nat} {d : DS} {q : List (Nat × List Chg)} (h : opOk d z c s N q = false) : (opD d z c s N q).dd = true := by
 unfold opD
 unfold opOk at h
 by_cases h1 : d.settles 0 [hdS (c + 1) s] = true
 · rw [h1, Bool.true_and] at h
   by_cases h2 : q = []
   · subst h2
     simp at h
   · rw [if_pos ⟨h1, h2⟩, ckD_dd]
     rw [Bool.or_eq_false_iff] at h
     rw [h.2]
     rfl
 · rw [if_neg (fun q => h1 q.1)]
   exact settle_dd (by simpa using h1)
end
theorem infoPgs : (Tryz.prog.info? 34).map (fun i => (i.zero, i.size, i.bytes)) = some (some (.slice none 0 0), 1, 24) := by kernel_rfl
theorem slice_of_pgs (A : Option Addr) (n c : Nat) (w : World) : (Instr.buildSlice 37 1 #[(0, .slice A n c)]).run Tryz.prog w = .ok (.slice (some ⟨w.heap.size, 0, none⟩) 1 1) (w.alloc (.cells #[.slice A n c] 34)) := by
 obtain ⟨i0, hi, hz0, hz1, hz2⟩ := info_parts infoPgs
 refine run_buildSlice w 37 34 1 _ _ i0 _ Tryz.underlying37 hi hz0 (by rw [hz1]; omega) (by rw [hz1]; omega) ?_
 rw [hz1]
 have hb : ((Array.range (1 * 1)).map ((Value.slice none 0 0).cells[· % (Value.slice none 0 0).cells.size]!)) = #[Value.slice none 0 0] := by
  apply Array.ext
  · simp
  · intro i h1 h2
    simp at h1
    simp [Value.cells, h1]
 rw [hb]
 simp [Instr.fill, Value.cells]
theorem slice_of_pgs2 (A : Option Addr) (n c : Nat) (A' : Option Addr) (n' c' : Nat) (w : World) : (Instr.buildSlice 37 2 #[(0, .slice A n c), (1, .slice A' n' c')]).run Tryz.prog w = .ok (.slice (some ⟨w.heap.size, 0, none⟩) 2 2) (w.alloc (.cells #[.slice A n c, .slice A' n' c'] 34)) := by
 obtain ⟨i0, hi, hz0, hz1, hz2⟩ := info_parts infoPgs
 refine run_buildSlice w 37 34 2 _ _ i0 _ Tryz.underlying37 hi hz0 (by rw [hz1]; omega) (by rw [hz1]; omega) ?_
 rw [hz1]
 have hb : ((Array.range (2 * 1)).map ((Value.slice none 0 0).cells[· % (Value.slice none 0 0).cells.size]!)) = #[Value.slice none 0 0, Value.slice none 0 0] := by
  apply Array.ext
  · simp
  · intro i h1 h2
    simp at h1
    rcases (by omega : i = 0 ∨ i = 1) with rfl | rfl <;> simp [Value.cells]
 rw [hb]
 simp [Instr.fill, Value.cells]
theorem run_pgs1 {w : World} {o : Oper} {a : Act} (x : Operand) {A : Option Addr} {n c : Nat} (hop : o.op = .buildSlice 37 1 #[(0, x)]) (hx : a.eval x = .slice A n c) : (execOp a.eval o).run Tryz.prog w = .ok (.value (.slice (some ⟨w.heap.size, 0, none⟩) 1 1)) (w.alloc (.cells #[.slice A n c] 34)) := by
 have hr := slice_of_pgs A n c w
 simp [execOp, hop, hx, hr, Result.andThen]
theorem run_pgs2 {w : World} {o : Oper} {a : Act} (x x' : Operand) {A A' : Option Addr} {n c n' c' : Nat} (hop : o.op = .buildSlice 37 2 #[(0, x), (1, x')]) (hx : a.eval x = .slice A n c) (hx' : a.eval x' = .slice A' n' c') : (execOp a.eval o).run Tryz.prog w = .ok (.value (.slice (some ⟨w.heap.size, 0, none⟩) 2 2)) (w.alloc (.cells #[.slice A n c, .slice A' n' c'] 34)) := by
 have hr := slice_of_pgs2 A n c A' n' c' w
 simp [execOp, hop, hx, hx', hr, Result.andThen]
end Go.Proofs.YtcnlgbjkjlbmbaaGreat

