/- Pools that are read alone, beside others on the same disk; pools of the same pages. -/
import Derived.Test.YtpdfpnpkbknhnaaGreatQlf
namespace Go.Proofs.YtpdfpnpkbknhnaaGreat
open Go.RowKit

/-- What a pool needs to be read. -/
structure PX.Rk (x : PX) : Prop where
  dd : x.d.dd = false
  zM : x.z ≤ 4000
  frM : x.fr ≤ 100
  nN : x.N = pcnt x.d.rd.length (x.z : Nat)
  nM : x.N ≤ 2000
  len : 1 + x.z + 4 * x.N ≤ x.d.rd.length
  cl : ∀ y ∈ x.cl, y.1 < x.N ∧ x.f2 y.1 = [] ∧ y.2 = pgAt x.d x.z y.1
  cll : x.cl.length ≤ x.fr
  f1 : x.f1 = fun _ => []
section
variable {x : PX} {n : Nat}
theorem PX.Rk.ask (h : x.Rk) : askP x.d x.z x.f2 x.cl n = x.C n := by
  unfold askP PX.C
  split
  · rfl
  · unfold liftC
    split
    · rename_i k hk
      obtain ⟨hk1, hk2, _⟩ := List.findIdx?_eq_some_iff_getElem.1 hk
      have hm := h.cl x.cl[k] (List.getElem_mem _)
      have e1 : x.cl[k].1 = n := by simpa using hk2
      have e2 : x.cl.getD k (0, []) = x.cl[k] := by simp [hk1]
      rw [e2, hm.2.2, e1]
    · rfl
theorem PX.Rk.asked (h : x.Rk) (hn : n < x.N) : (x.asked n).Rk := by
  have hl : ∀ y ∈ liftL x.cl n ++ [liftC x.d x.z x.cl n], x.f2 n = [] → y.1 < x.N ∧ x.f2 y.1 = [] ∧ y.2 = pgAt x.d x.z y.1 := fun y hy hf => by
    rcases List.mem_append.1 hy with q | q
    · exact h.cl y (liftL_sub y q)
    · rw [List.mem_singleton.1 q]
      unfold liftC
      split
      · rename_i k hk
        obtain ⟨hk1, hk2, _⟩ := List.findIdx?_eq_some_iff_getElem.1 hk
        have e2 : x.cl.getD k (0, []) = x.cl[k] := by simp [hk1]
        rw [e2]
        exact h.cl x.cl[k] (List.getElem_mem _)
      · exact ⟨hn, hf, rfl⟩
  refine { h with cl := fun y hy => ?_, cll := ?_ }
  · simp only [PX.asked, askL] at hy ⊢
    split at hy
    · exact h.cl y hy
    · rename_i hf
      have hf' : x.f2 n = [] := Decidable.byContradiction fun q => hf q
      split at hy
      · exact hl y (List.mem_of_mem_eraseIdx hy) hf'
      · exact hl y hy hf'
  · simp only [PX.asked, askL]
    have h1 := liftL_len (cl := x.cl) (n := n)
    have h2 := h.cll
    split
    · exact h2
    · split
      · rename_i hq
        rw [List.length_eraseIdx_of_lt (by simp), List.length_append, List.length_singleton]
        omega
      · rename_i hq
        omega
theorem PX.Ok.rk {K : Nat} (h : x.Ok K) (hf : x.f1 = fun _ => []) : x.Rk := ⟨h.dd, h.zM, h.frM, h.nN, h.nM, h.len, h.cl, h.cll, hf⟩
end
/-- A pool that is read: its own blocks O. -/
def PV (w : World) (B : Nat) (O : Nat → Prop) (p g : Nat) (x : PX) : Prop :=
  ∃ lb M1 M2 v P, PlB w p g x.z x.fr lb M1 M2 v false ∧ FrV w v x.cl ∧ DT w B g x.d P ∧ PMap w M1 x.N x.f1 ∧ PMap w M2 x.N x.f2 ∧ (∀ b, O b ↔ (b = p ∨ v.ownBlock = some b)) ∧ ∀ b, O b → B ≤ b ∧ b < w.heap.size
section
variable {w w' : World} {B p g : Nat} {O : Nat → Prop} {x : PX}
theorem PV.sub (h : PV w B O p g x) : ∀ b, O b → B ≤ b ∧ b < w.heap.size := by
  obtain ⟨_, _, _, _, _, _, _, _, _, _, _, h⟩ := h
  exact h
/-- Its own blocks are of two types. -/
theorem PV.typ (h : PV w B O p g x) : ∀ b, O b → ∃ t cs, Blk w b t cs ∧ (t = 65 ∨ t = 93) := fun b hb => by
  obtain ⟨lb, M1, M2, v, P, h1, h2, h3, h4, h5, h6, h7⟩ := h
  rcases (h6 b).1 hb with e | e
  · exact ⟨_, _, e ▸ h1, .inl rfl⟩
  · obtain ⟨bs, ho, _⟩ := h2
    obtain ⟨cs, hk⟩ := own_blk ho e
    exact ⟨_, cs, hk, .inr rfl⟩
/-- What other pools write of their own. -/
theorem PV.keep {G : Nat → Prop} (h : PV w B O p g x) (f : Fr G w w') (hG : ∀ b, O b → ¬ G b) (hT : ∀ b, G b → b < w.heap.size → ∃ t cs, Blk w b t cs ∧ (t = 65 ∨ t = 93 ∨ t = 50)) : PV w' B O p g x := by
  obtain ⟨lb, M1, M2, v, P, h1, h2, h3, h4, h5, h6, h7⟩ := h
  have hn : ∀ b t cs, Blk w b t cs → t ≠ 65 → t ≠ 93 → t ≠ 50 → ¬ G b := fun b t cs hb e1 e2 e3 q => by
    obtain ⟨t', cs', hb', e⟩ := hT b q hb.lt
    have := blk_type hb hb'
    rcases e with e | e | e
    · exact e1 (this.trans e)
    · exact e2 (this.trans e)
    · exact e3 (this.trans e)
  have hm : ∀ {M N : Nat} {f : Nat → List UInt8}, PMap w M N f → ¬ G M := fun hm q => by
    obtain ⟨t', cs', hb', e⟩ := hT _ q hm.lt
    exact hm.ne_blk hb' rfl
  refine ⟨lb, M1, M2, v, P, h1.keep f (hG p ((h6 p).2 (.inl rfl))), h2.keep f (fun k hk => hG k ((h6 k).2 (.inr hk))) (fun b cs hk => hn b _ _ hk (by decide) (by decide) (by decide)), h3.keep' f (fun b hb q => ?_), h4.keep f (hm h4), h5.keep f (hm h5), h6, fun b hb => ⟨(h7 b hb).1, Nat.lt_of_lt_of_le (h7 b hb).2 f.size⟩⟩
  obtain ⟨t', cs', hb', e⟩ := hT b q (h3.1.2 b hb).2
  rcases h3.2 b _ _ hb hb' with e' | e'
  · rw [e'] at e
    rcases e with e | e | e <;> exact absurd e (by decide)
  · rw [e'] at e
    rcases e with e | e | e <;> exact absurd e (by decide)
theorem PV.new (h : PV w B O p g x) (f : Fr (fun _ => False) w w') : PV w' B O p g x := h.keep f (fun _ _ q => q) (fun b q => q.elim)
set_option maxHeartbeats 1000000 in
theorem pv_get (h : PV w B O p g x) (k : x.Rk) {n : Nat} (hn : n < x.N) : Calls Tryz.prog 18 #[.pointer (some ⟨p, 0, none⟩), .int .i64 (n : Nat)] w fun e w' => e = .returned (.tuple #[av (x.C n), .int .i64 0]) ∧ ∃ O', PV w' B O' p g (x.asked n) ∧ (∀ b, O' b → O b ∨ w.heap.size ≤ b) ∧ Fr O w w' := by
  obtain ⟨lb, M1, M2, v, P, h1, h2, h3, h5, h6, hO, hb⟩ := h
  have hpP : ¬ P p := h3.not_t h1 (by decide) (by decide)
  have hnM := k.nM
  have hlen := k.len
  rw [← k.ask]
  refine (plget_ask h1 h2 h3.1 hpP (fun b t cs hP hk => by rcases h3.2 b t cs hP hk with e | e <;> rw [e] <;> decide) h5 h6 (by omega) (by rw [k.dd]; rfl) (by rw [← k.nN]; exact hn) k.zM (by omega) (by omega) (by have := k.cll; have := k.frM; omega) (by have := k.frM; omega) (by rw [k.f1])).mono ?_
  rintro e w' ⟨v', rfl, hf', hp', hv', f⟩
  have hvb : ∀ b, v.ownBlock = some b → b ≠ p ∧ b ≠ M1 ∧ b ≠ M2 ∧ ¬ P b := fun b hk => by
    obtain ⟨bs, ho, _⟩ := h2
    obtain ⟨cs, hb⟩ := own_blk ho hk
    exact ⟨fun e => own_ne ho h1 (by decide) (by rw [hk, e]), fun e => h5.ne_own ho (by rw [hk, e]), fun e => h6.ne_own ho (by rw [hk, e]), h3.not_t hb (by decide) (by decide)⟩
  have hB : B ≤ w.heap.size := by have := hb p ((hO p).2 (.inl rfl)); omega
  refine ⟨rfl, fun b => b = p ∨ v'.ownBlock = some b, ⟨lb, M1, M2, v', P, hp', hf', h3.keep' f (fun b hb q => q.elim (fun e => hpP (e ▸ hb)) (fun q => (hvb b q).2.2.2 hb)), h5.keep f (fun q => q.elim (h5.ne_blk h1) (fun q => (hvb _ q).2.1 rfl)), h6.keep f (fun q => q.elim (h6.ne_blk h1) (fun q => (hvb _ q).2.2.1 rfl)), fun b => Iff.rfl, fun b q => ?_⟩, fun b q => ?_, f.mono (fun b _ q => (hO b).2 q)⟩
  · rcases q with q | q
    · have := hb p ((hO p).2 (.inl rfl))
      rw [q]
      exact ⟨this.1, hp'.lt⟩
    · obtain ⟨bs, ho, _⟩ := hf'
      obtain ⟨cs, hbk⟩ := own_blk ho q
      rcases hv' with y | ⟨k, y1, y2⟩
      · exact ⟨(hb b ((hO b).2 (.inr (y ▸ q)))).1, hbk.lt⟩
      · rw [y1] at q; injection q with q; exact ⟨by omega, hbk.lt⟩
  · rcases q with q | q
    · exact .inl ((hO b).2 (.inl q))
    · rcases hv' with y | ⟨k, y1, y2⟩
      · exact .inl ((hO b).2 (.inr (y ▸ q)))
      · rw [y1] at q; injection q with q; exact .inr (by omega)
theorem PA.pv {S : Nat → Prop} (h : PA w B S p g x) : ∃ O, PV w B O p g x ∧ ∀ b, O b → S b := by
  obtain ⟨lb, M1, M2, v, P, h1, h2, h3, h4, h5, h6, h7, h8, h9, hS, hb⟩ := h
  refine ⟨fun b => b = p ∨ v.ownBlock = some b, ⟨lb, M1, M2, v, P, h1, h2, h3, h5, h6, fun b => Iff.rfl, fun b q => hb b ((hS b).2 ?_)⟩, fun b q => (hS b).2 ?_⟩
  · exact q.elim .inl (fun q => .inr (.inr (.inr (.inr (.inl q)))))
  · exact q.elim .inl (fun q => .inr (.inr (.inr (.inr (.inl q)))))
/-- The disk of a pool was opened anew: the pool stands, on the disk as it is now. -/
theorem PA.stale {S P' : Nat → Prop} {d' : DS} (h : PA w B S p g x) (hopen : ∀ P, DT w B g x.d P → (∀ b, P b → S b) → Fr P w w' ∧ ∃ P', DT w' B g d' P') : ∃ O, PV w' B O p g { x with d := d' } ∧ ∀ b, O b → S b := by
  obtain ⟨lb, M1, M2, v, P, h1, h2, h3, h4, h5, h6, h7, h8, h9, hS, hb, hpP, hvb, a1, a2, a3, a4, a5, a6⟩ := h.parts
  obtain ⟨f, P2, hd2⟩ := hopen P h3 (fun b q => (hS b).2 (.inr (.inr (.inr (.inr (.inr q))))))
  refine ⟨fun b => b = p ∨ v.ownBlock = some b, ⟨lb, M1, M2, v, P2, h1.keep f hpP, h2.keep f (fun k hk => (hvb k hk).2.2.2.2) (fun b cs hk => h3.not_t hk (by decide) (by decide)), hd2, h5.keep f h8, h6.keep f h9, fun b => Iff.rfl, fun b q => ?_⟩, fun b q => (hS b).2 ?_⟩
  · have := hb b ((hS b).2 (q.elim .inl (fun q => .inr (.inr (.inr (.inr (.inl q)))))))
    exact ⟨this.1, Nat.lt_of_lt_of_le this.2 f.size⟩
  · exact q.elim .inl (fun q => .inr (.inr (.inr (.inr (.inl q)))))
end
section
variable {x : PX} {K n : Nat}
theorem PX.Ok.dr (h : x.Ok K) : DR x.d x.z x.c x.s x.q x.e x.N K := ⟨h.life.ri, h.life.cK, h.z4, h.zM, h.nN, h.n4, h.nM, h.len⟩
theorem PX.Ok.cd (h : x.Ok K) (n : Nat) : CD x.d x.z x.N x.q n = x.C n := by
  unfold CD PX.C
  rw [h.f2]
def PX.anew (x : PX) (fr : Nat) : PX := opP x.d x.z fr x.c x.s x.e x.N x.q
theorem anew_f (x : PX) (fr : Nat) : (x.anew fr).f1 = (fun _ => []) ∧ (x.anew fr).f2 = (fun _ => []) ∧ (x.anew fr).N = x.N ∧ (x.anew fr).z = x.z ∧ (x.anew fr).fr = fr := by
  unfold PX.anew opP
  split <;> exact ⟨rfl, rfl, rfl, rfl, rfl⟩
/-- A pool opened anew has the same pages; the old one goes on reading them. -/
theorem GoodP.anew (h : GoodP x K) (hK : K + 2 < maxC) {fr : Nat} (h2 : 2 ≤ fr) (hM : fr ≤ 100) : (x.anew fr).Ok (K + 2) ∧ (∀ n, n < x.N → (x.anew fr).C n = x.C n) ∧ (x.f1 = (fun _ => []) → ({ x with d := (x.anew fr).d } : PX).Rk ∧ ∀ n, n < x.N → ({ x with d := (x.anew fr).d } : PX).C n = x.C n) := by
  have hop := op_free h.free x.z fr x.c x.s x.e x.N x.q
  obtain ⟨h1, h3, h4⟩ := h.ok.dr.opened (fr := fr) (by omega) h2 hM hop.1
  have hC : ∀ n, n < x.N → (x.anew fr).C n = x.C n := fun n hn => (h3 n hn).trans (h.ok.cd n)
  have hpg : ∀ n, n < x.N → pgAt (x.anew fr).d x.z n = x.C n := fun n hn => by
    have := hC n hn
    unfold PX.C at this
    rw [(anew_f x fr).2.1, if_neg (fun q => q rfl), (anew_f x fr).2.2.2.1] at this
    exact this
  have hl : (x.anew fr).d.rd.length = x.d.rd.length := by
    have : (x.anew fr).d = opD x.d x.z x.c x.s x.N x.q := h4
    rw [this]
    unfold opD
    split
    · rw [ckD_len]; exact settle_len _ _ _
    · exact settle_len _ _ _
  refine ⟨h1, hC, fun hf => ⟨⟨h1.dd, h.ok.zM, h.ok.frM, by show x.N = pcnt (x.anew fr).d.rd.length _; rw [hl]; exact h.ok.nN, h.ok.nM, by show 1 + x.z + 4 * x.N ≤ (x.anew fr).d.rd.length; rw [hl]; exact h.ok.len, fun y hy => ?_, h.ok.cll, hf⟩, fun n hn => ?_⟩⟩
  · obtain ⟨a1, a2, a3⟩ := h.ok.cl y hy
    refine ⟨a1, a2, ?_⟩
    show y.2 = pgAt (x.anew fr).d x.z y.1
    rw [hpg y.1 a1, a3]
    unfold PX.C
    rw [if_neg (fun q => q a2)]
  · show (if x.f2 n ≠ [] then x.f2 n else pgAt (x.anew fr).d x.z n) = x.C n
    rw [hpg n hn]
    unfold PX.C
    by_cases hf2 : x.f2 n ≠ []
    · rw [if_pos hf2, if_pos hf2]
    · rw [if_neg hf2, if_neg hf2]
/-- One more page changed at most. -/
theorem open_upd (f : Nat → List UInt8) (n : Nat) (y : List UInt8) : ∀ N, (openF (upd f n y) N).length ≤ (openF f N).length + (if n < N then 1 else 0)
  | 0 => Nat.zero_le _
  | N + 1 => by
    have ih := open_upd f n y N
    have e : ∀ g : Nat → List UInt8, (openF g (N + 1)).length = (openF g N).length + (if g N ≠ [] then 1 else 0) := fun g => by
      unfold openF
      rw [List.range_succ, List.filter_append, List.length_append]
      congr 1
      by_cases hg : g N = []
      · simp [hg]
      · simp [hg]
    have hq1 : ∀ g : Nat → List UInt8, (if g N ≠ [] then 1 else 0 : Nat) ≤ 1 := fun g => by split <;> omega
    by_cases hn : n = N
    · subst hn
      rw [if_neg (Nat.lt_irrefl n), Nat.add_zero] at ih
      rw [if_pos (Nat.lt_succ_self n), e (upd f n y), e f]
      have := hq1 (upd f n y)
      omega
    · have e2 : upd f n y N = f N := upd_ne (fun q => hn q.symm)
      rw [e (upd f n y), e f, e2]
      by_cases hlt : n < N
      · rw [if_pos hlt] at ih
        rw [if_pos (Nat.lt_succ_of_lt hlt)]
        omega
      · rw [if_neg hlt, Nat.add_zero] at ih
        rw [if_neg (show ¬ n < N + 1 by omega)]
        omega
theorem putZ_m (x : PX) (n : Int) (y : List UInt8) : (x.putZ n y).m ≤ x.m + 1 := by
  unfold PX.putZ
  split
  · have := open_upd x.f1 n.toNat (if y = x.C n.toNat then [] else y) x.N
    show (openF (upd x.f1 n.toNat (if y = x.C n.toNat then [] else y)) x.N).length ≤ _
    unfold PX.m
    have h1 : (if n.toNat < x.N then 1 else 0 : Nat) ≤ 1 := by split <;> omega
    omega
  · exact Nat.le_succ _
theorem aborted_m (x : PX) : x.aborted.m = 0 := by
  show (openF (fun _ => []) x.N).length = 0
  rw [openF_nil]
  rfl
theorem comZ_m (x : PX) (h : ¬ x.no) : x.comZ.m = 0 := by
  unfold PX.comZ
  rw [if_neg h]
  have : x.com.f1 = fun _ => [] := by unfold PX.com; split <;> rfl
  unfold PX.m
  rw [this, openF_nil]
  rfl
theorem need3 {m : Nat} (h : m ≤ 3) : wneedN (m : Nat) ≤ wneedN 3 := by
  rcases (show m = 0 ∨ m = 1 ∨ m = 2 ∨ m = 3 by omega) with rfl | rfl | rfl | rfl <;> decide
end
/-- Pools of the same pages, whatever their logs. -/
structure Tw2 (x y : PX) : Prop where
  N : x.N = y.N
  f1 : x.f1 = y.f1
  C : ∀ n, n < x.N → x.C n = y.C n
section
variable {x y : PX} {K : Nat}
theorem Tw2.R (h : Tw2 x y) (n : Int) : inR x n ↔ inR y n := by unfold inR; rw [h.N]
theorem Tw2.m (h : Tw2 x y) : x.m = y.m := by unfold PX.m; rw [h.f1, h.N]
theorem Tw2.inE (h : Tw2 x y) (n : Int) : x.inE n = y.inE n := by
  unfold PX.inE
  simp only [h.R n]
theorem Tw2.V (h : Tw2 x y) {n : Nat} (hn : n < x.N) : x.V n = y.V n := by
  unfold PX.V
  rw [h.f1, h.C n hn]
theorem Tw2.putZ (h : Tw2 x y) (n : Int) (p : List UInt8) : Tw2 (x.putZ n p) (y.putZ n p) := by
  unfold PX.putZ
  by_cases hn : inR x n
  · rw [if_pos hn, if_pos ((h.R n).1 hn)]
    refine ⟨h.N, ?_, h.C⟩
    show upd x.f1 n.toNat (if p = x.C n.toNat then [] else p) = upd y.f1 n.toNat (if p = y.C n.toNat then [] else p)
    rw [h.f1, h.C _ (inR_lt hn)]
  · rw [if_neg hn, if_neg (fun q => hn ((h.R n).2 q))]
    exact h
theorem Tw2.abort (h : Tw2 x y) : Tw2 x.aborted y.aborted := ⟨h.N, rfl, h.C⟩
theorem Tw2.getZ (h : Tw2 x y) (n : Int) : Tw2 (x.getZ n) (y.getZ n) := by
  unfold PX.getZ
  by_cases hn : inR x n
  · rw [if_pos hn, if_pos ((h.R n).1 hn)]
    obtain ⟨a1, a2, a3, a4, a5, a6⟩ := got_same x n.toNat
    obtain ⟨b1, b2, b3, b4, b5, b6⟩ := got_same y n.toNat
    exact ⟨by rw [a1, b1, h.N], by rw [a4, b4, h.f1], fun k hk => by rw [a6, b6]; exact h.C k (by rw [a1] at hk; exact hk)⟩
  · rw [if_neg hn, if_neg (fun q => hn ((h.R n).2 q))]
    exact h
/-- A commit of at most three pages, in logs that hold three. -/
theorem comZ_few (k : GoodP x K) (hK : K + 1 < maxC) (h3 : x.m ≤ 3) (hz : wneedN 3 ≤ x.z) : x.comE = 0 ∧ x.comZ.N = x.N ∧ x.comZ.z = x.z ∧ x.comZ.f1 = (fun _ => []) ∧ ∀ n, n < x.N → x.comZ.C n = x.V n := by
  have hn3 : x.need ≤ x.z := Nat.le_trans (need3 h3) hz
  by_cases h0 : x.m = 0
  · have hf : x.f1 = fun _ => [] := by
      funext n
      by_cases hn : n < x.N
      · have h9 : openF x.f1 x.N = [] := List.length_eq_zero_iff.1 h0
        exact Decidable.byContradiction fun q => by
          have := openF_mem.2 ⟨hn, q⟩
          rw [h9] at this
          cases this
      · exact Decidable.byContradiction fun q => hn (k.ok.f1 n q).1
    have e : x.comZ = x := by unfold PX.comZ; rw [if_pos (.inl h0)]
    rw [e]
    refine ⟨by unfold PX.comE; rw [if_pos h0], rfl, rfl, hf, fun n _ => ?_⟩
    unfold PX.V
    rw [hf, if_neg (fun q => q rfl)]
  · have hno : ¬ x.no := by unfold PX.no; omega
    have e : x.comZ = x.com := by unfold PX.comZ; rw [if_neg hno]
    rw [e]
    refine ⟨by unfold PX.comE; rw [if_neg h0, if_neg (by omega), if_neg (by omega)], by unfold PX.com; split <;> rfl, by unfold PX.com; split <;> rfl, by unfold PX.com; split <;> rfl, (k.ok.com hK (by omega) (by omega) hn3 (PX.com_free k.free).1).2⟩
theorem Tw2.comZ (h : Tw2 x y) (kx : GoodP x K) (ky : GoodP y K) (hK : K + 1 < maxC) (h3 : x.m ≤ 3) (hz1 : wneedN 3 ≤ x.z) (hz2 : wneedN 3 ≤ y.z) : Tw2 x.comZ y.comZ := by
  obtain ⟨_, a1, _, a2, a3⟩ := comZ_few kx hK h3 hz1
  obtain ⟨_, b1, _, b2, b3⟩ := comZ_few ky hK (by rw [← h.m]; exact h3) hz2
  exact ⟨by rw [a1, b1, h.N], by rw [a2, b2], fun n hn => by rw [a1] at hn; rw [a3 n hn, b3 n (by rw [← h.N]; exact hn)]; exact h.V hn⟩
/-- Two pools of the same pages, with logs that hold three pages. -/
structure Logs (x y : PX) (K z1 z2 : Nat) : Prop where
  gx : GoodP x K
  gy : GoodP y K
  tw : Tw2 x y
  z1 : x.z = z1
  z2 : y.z = z2
theorem Logs.mono {K' z1 z2 : Nat} (h : Logs x y K z1 z2) (hK : K ≤ K') : Logs x y K' z1 z2 := ⟨h.gx.mono hK, h.gy.mono hK, h.tw, h.z1, h.z2⟩
theorem putZ_z (x : PX) (n : Int) (p : List UInt8) : (x.putZ n p).z = x.z := by unfold PX.putZ; split <;> rfl
theorem putZ_N (x : PX) (n : Int) (p : List UInt8) : (x.putZ n p).N = x.N := by unfold PX.putZ; split <;> rfl
theorem getZ_z (x : PX) (n : Int) : (x.getZ n).z = x.z := by unfold PX.getZ; split; exact (got_same x _).2.1; rfl
theorem Logs.put {z1 z2 : Nat} (h : Logs x y K z1 z2) (n : Int) {p : List UInt8} (hp : p.length = 512) : Logs (x.putZ n p) (y.putZ n p) K z1 z2 := ⟨h.gx.putZ n hp, h.gy.putZ n hp, h.tw.putZ n p, (putZ_z x n p).trans h.z1, (putZ_z y n p).trans h.z2⟩
theorem Logs.get {z1 z2 : Nat} (h : Logs x y K z1 z2) (n : Int) : Logs (x.getZ n) (y.getZ n) K z1 z2 := ⟨h.gx.getZ n, h.gy.getZ n, h.tw.getZ n, (getZ_z x n).trans h.z1, (getZ_z y n).trans h.z2⟩
theorem Logs.abort {z1 z2 : Nat} (h : Logs x y K z1 z2) : Logs x.aborted y.aborted K z1 z2 := ⟨h.gx.abort, h.gy.abort, h.tw.abort, h.z1, h.z2⟩
theorem Logs.com {z1 z2 : Nat} (h : Logs x y K z1 z2) (hK : K + 1 < maxC) (h3 : x.m ≤ 3) (h1 : wneedN 3 ≤ z1) (h2 : wneedN 3 ≤ z2) : Logs x.comZ y.comZ (K + 1) z1 z2 :=
  ⟨h.gx.comZ hK, h.gy.comZ hK, h.tw.comZ h.gx h.gy hK h3 (by rw [h.z1]; exact h1) (by rw [h.z2]; exact h2), (comZ_few h.gx hK h3 (by rw [h.z1]; exact h1)).2.2.1.trans h.z1, (comZ_few h.gy hK (by rw [← h.tw.m]; exact h3) (by rw [h.z2]; exact h2)).2.2.1.trans h.z2⟩
end
end Go.Proofs.YtpdfpnpkbknhnaaGreat
