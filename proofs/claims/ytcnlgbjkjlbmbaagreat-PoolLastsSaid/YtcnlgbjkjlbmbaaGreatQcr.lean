/- What a loss of power leaves of a pool's disk (pure). -/
import Derived.Test.YtcnlgbjkjlbmbaaGreatQtw
namespace Go.Proofs.YtcnlgbjkjlbmbaaGreat
open Go.RowKit

structure Fit (d : DS) : Prop where
 rd : ∀ x ∈ d.rd, x.length = 128
 vs : ∀ j, ∀ x ∈ d.vs j, x.length = 128
 out : ∀ j, d.rd.length ≤ j → d.vs j = []
section
variable {d : DS}
theorem Fit.rest (hv : ∀ j, d.vs j = []) (hall : ∀ x ∈ d.rd, x.length = 128) : Fit d := ⟨hall, (fun j x hx => by rw [hv j] at hx; cases hx), fun j _ => hv j⟩
theorem Fit.write (h : Fit d) {i : Nat} {s : List UInt8} (hi : i < d.rd.length) (hs : s.length = 128) : Fit (d.write i s) := by
 unfold DS.write
 split
 · refine ⟨fun x hx => ?_, fun j x hx => ?_, fun j hj => ?_⟩
   · have hx' : x ∈ d.rd.set i s := hx
     rcases List.mem_or_eq_of_mem_set hx' with q | q
     · exact h.rd x q
     · rw [q]; exact hs
   · have hx' : x ∈ (if j = i then (if d.vs i = [] then [d.rd.getD i []] else d.vs i) ++ [s] else d.vs j) := hx
     split at hx'
     · rcases List.mem_append.1 hx' with q | q
       · split at q
         · rw [List.mem_singleton.1 q]
           exact h.rd _ (List.mem_of_getElem? (i := i) (by simp [hi]))
         · exact h.vs i x q
       · rw [List.mem_singleton.1 q]; exact hs
     · exact h.vs j x hx'
   · have hj' : d.rd.length ≤ j := by have : (d.rd.set i s).length = d.rd.length := List.length_set; exact this ▸ hj
     show (if j = i then (if d.vs i = [] then [d.rd.getD i []] else d.vs i) ++ [s] else d.vs j) = []
     rw [if_neg (by omega)]
     exact h.out j hj'
 · exact ⟨h.rd, h.vs, h.out⟩
theorem write_rd_ne {i j : Nat} {s : List UInt8} (h : i ≠ j) : (d.write i s).rd.getD j [] = d.rd.getD j [] := by
 unfold DS.write
 split
 · show (d.rd.set i s).getD j [] = _
   exact getD_set_ne h
 · rfl
theorem dwrite_len {i : Nat} {s : List UInt8} : (d.write i s).rd.length = d.rd.length := by
 unfold DS.write
 split
 · exact List.length_set
 · rfl
end
theorem Fit.puts : ∀ {ps : List (Nat × List UInt8)} {d : DS}, Fit d → (∀ p ∈ ps, p.1 < d.rd.length ∧ p.2.length = 128) → Fit (d.puts ps)
 | [], _, h, _ => h
 | p :: ps, d, h, hp => Fit.puts (ps := ps) (h.write (hp p (by simp)).1 (hp p (by simp)).2) fun q hq => by
   rw [dwrite_len]
   exact hp q (by simp [hq])
theorem puts_rd_ne {j : Nat} : ∀ {ps : List (Nat × List UInt8)} {d : DS}, (∀ p ∈ ps, p.1 ≠ j) → (d.puts ps).rd.getD j [] = d.rd.getD j []
 | [], _, _ => rfl
 | p :: ps, d, h => (puts_rd_ne (ps := ps) fun q hq => h q (by simp [hq])).trans (write_rd_ne (h p (by simp)))
theorem puts_most : ∀ (ps : List (Nat × List UInt8)) (d : DS) (N : Nat), d.most N → 1 ≤ N → (d.puts ps).most (N + ps.length)
 | [], _, _, h, _ => h
 | p :: ps, d, N, h, h1 => by
   have := puts_most ps (d.write p.1 p.2) (N + 1) (write_most h h1) (by omega)
   rw [show N + (p :: ps).length = N + 1 + ps.length by simp; omega]
   exact this
section
variable {d : DS} {ps : List (Nat × List UInt8)}
theorem flushed_dead (hb : d.alive = false) : d.flushed.rd = d.rd ∧ d.flushed.vs = d.vs := by
 unfold DS.flushed
 rw [hb]
 exact ⟨rfl, rfl⟩
theorem Fit.crash (h : Fit d) (picks : List Int) : (∀ j, (d.crash picks).vs j = []) ∧ (∀ x ∈ (d.crash picks).rd, x.length = 128) ∧ ∀ j, d.vs j = [] → (d.crash picks).rd.getD j [] = d.rd.getD j [] := by
 refine ⟨crash_gone_all h.out picks, all_getD fun j hj => ?_, fun j hj => ?_⟩
 · rw [crash_len] at hj
   rcases crash_read d picks j with q | ⟨q0, p, q⟩
   · rw [q]
     exact h.rd _ (List.mem_of_getElem? (i := j) (by simp [hj]))
   · rw [q]
     exact leftL_len (h.vs j) (List.length_pos_iff.2 q0) p
 · rcases crash_read d picks j with q | ⟨q0, p, q⟩
   · exact q
   · exact absurd hj q0
theorem Fit.flushed_dead (h : Fit d) (hb : d.alive = false) : Fit d.flushed := by
 obtain ⟨e1, e2⟩ := Proofs.YtcnlgbjkjlbmbaaGreat.flushed_dead hb
 exact ⟨by rw [e1]; exact h.rd, by rw [e2]; exact h.vs, by rw [e1, e2]; exact h.out⟩
theorem puts_torn (hv : ∀ j, d.vs j = []) (hall : ∀ x ∈ d.rd, x.length = 128) (hp : ∀ p ∈ ps, p.1 < d.rd.length ∧ p.2.length = 128) (bad : (d.puts ps).alive = false) (picks : List Int) :
 (((d.puts ps).flushed.crash picks).rd.length = d.rd.length) ∧ (∀ j, ((d.puts ps).flushed.crash picks).vs j = []) ∧ (∀ x ∈ ((d.puts ps).flushed.crash picks).rd, x.length = 128) ∧ ∀ j, (∀ p ∈ ps, p.1 ≠ j) → ((d.puts ps).flushed.crash picks).rd.getD j [] = d.rd.getD j [] := by
 obtain ⟨e1, e2⟩ := flushed_dead bad
 have h1 := ((Fit.rest hv hall).puts hp).flushed_dead bad
 obtain ⟨a, b, c⟩ := h1.crash picks
 refine ⟨by rw [crash_len, e1, puts_len], a, b, fun j hj => ?_⟩
 rw [c j (by rw [e2, puts_vs d hj, hv j]), e1, puts_rd_ne hj]
end
theorem pg_torn {d : DS} {z n i : Nat} {ss : List (List UInt8)} (hvs : ∀ j, d.vs j = []) (h128 : ∀ s ∈ d.rd, s.length = 128) (hs : ∀ s ∈ ss, s.length = 128) (hi : i + ss.length ≤ 1 + z) (hl : 1 + z + 4 * n + 4 ≤ d.rd.length) (bad : d.settles i ss = false) (picks : List Int) : pgAt ((d.settle i ss).crash picks) z n = pgAt d z n := by
 refine pgAt_same fun j h1 h2 => ?_
 obtain ⟨e1, e2⟩ := (torn_settle hvs h128 hs (by omega) bad picks).2 j (by omega)
 refine halves_eq ?_ ?_
 · rcases e1 with e | ⟨s, h3, h4, _⟩
   · exact e
   · rw [List.getElem?_eq_none (by omega)] at h4; cases h4
 · rcases e2 with e | ⟨s, h3, h4, _⟩
   · exact e
   · rw [List.getElem?_eq_none (by omega)] at h4; cases h4
theorem pg_rest {d : DS} {z n : Nat} (hvs : ∀ j, d.vs j = []) (picks : List Int) : pgAt (d.crash picks) z n = pgAt d z n := pgAt_same fun j _ _ => by rw [(crash_rest hvs picks).1]
def AfP (d : DS) (z N K : Nat) (F G : Nat → List UInt8) : Prop := ∀ picks, ∃ c s q e, DR (d.crash picks) z c s q e N K ∧ ((∀ n, n < N → CD (d.crash picks) z N q n = F n) ∨ ∀ n, n < N → CD (d.crash picks) z N q n = G n)
section
variable {d d' : DS} {z c s e N K K' c' s' e' : Nat} {q q' : List (Nat × List Chg)} {F G : Nat → List UInt8}
theorem AfP.mono {F' G' : Nat → List UInt8} (h : AfP d z N K F G) (hK : K ≤ K') (hF : ∀ n, n < N → F n = F' n) (hG : ∀ n, n < N → G n = G' n) : AfP d z N K' F' G' := fun picks => by
 obtain ⟨c, s, q, e, h1, h2⟩ := h picks
 exact ⟨c, s, q, e, { h1 with cK := Nat.le_trans h1.cK hK }, h2.imp (fun h n hn => (h n hn).trans (hF n hn)) (fun h n hn => (h n hn).trans (hG n hn))⟩
theorem DR.after (h : DR d z c s q e N K) (hr : RI d' z c' s' q' e') (hl : d'.rd.length = d.rd.length) (hK : c' ≤ K') : DR d' z c' s' q' e' N K' := ⟨hr, hK, h.z4, h.zM, by rw [hl]; exact h.nN, h.n4, h.nM, by rw [hl]; exact h.len⟩
theorem DR.at_len (h : DR d z c s q e N K) {n : Nat} (hn : n < N) : 1 + z + 4 * n + 4 ≤ d.rd.length := by have := h.len; omega
theorem CD_same {N : Nat} {q : List (Nat × List Chg)} {n : Nat} (hp : pgAt d' z n = pgAt d z n) : CD d' z N q n = CD d z N q n := by unfold CD; rw [hp]
theorem DR.rest (h : DR d z c s q e N K) (picks : List Int) : DR (d.crash picks) z c s q e N K ∧ ∀ n, n < N → CD (d.crash picks) z N q n = CD d z N q n := by
 obtain ⟨h1, h2⟩ := crash_rest h.ri.vs picks
 exact ⟨h.after (h.ri.same h1 h2) (by rw [h1]) h.cK, fun n _ => CD_same (pg_rest h.ri.vs picks)⟩
theorem AfP.rest (h : DR d z c s q e N K) (hF : ∀ n, n < N → CD d z N q n = F n) : AfP d z N K F F := fun picks => by
 obtain ⟨h1, h2⟩ := h.rest picks
 exact ⟨c, s, q, e, h1, .inl fun n hn => (h2 n hn).trans (hF n hn)⟩
theorem AfP.opens (h : DR d z c s q e N K) (hc : c < maxC) (hF : ∀ n, n < N → CD d z N q n = F n) (bad : d.settles 0 [hdS (c + 1) s] = false) : AfP (d.settle 0 [hdS (c + 1) s]) z N (K + 1) F F := fun picks => by
 obtain ⟨c', h1, h2, h3⟩ := h.ri.opens_torn hc bad picks
 have := h.cK
 exact ⟨c', s, q, e, h.after h3 (by rw [crash_len, settle_len]) (by omega), .inl fun n hn => (CD_same (pg_torn h.ri.vs h.ri.all (fun y hy => by rw [List.mem_singleton.1 hy]; exact hdS_len _ _) (by simp) (h.at_len hn) bad picks)).trans (hF n hn)⟩
theorem AfP.ckpt (h : DR d z c s q e N K) (hc : c < maxC) (hF : ∀ n, n < N → CD d z N q n = F n) (bad : Proofs.YtcnlgbjkjlbmbaaGreat.ckOk d z c N (rdF N q) = false) : AfP (ckD d z c N (rdF N q)) z N (K + 1) F F := fun picks => by
 have hcK := h.cK
 have h512 := h.ri.rdF_ok N
 unfold ckD
 by_cases ha : (d.puts (pagesW z (rdF N q) (openF (rdF N q) N))).alive = true
 · rw [if_pos ha]
   unfold Proofs.YtcnlgbjkjlbmbaaGreat.ckOk at bad
   rw [ha, Bool.true_and] at bad
   obtain ⟨l1, l2, l3, l4, l5⟩ := laid_rd h512 h.len ha
   have hr := h.ri.puts h512 h.len ha
   have hpg : ∀ n, n < N → pgAt (((d.puts (pagesW z (rdF N q) (openF (rdF N q) N))).flushed.settle 0 [hdS (c + 1) (c + 1)]).crash picks) z n = F n := fun n hn => by
    rw [pg_torn hr.vs hr.all (fun y hy => by rw [List.mem_singleton.1 hy]; exact hdS_len _ _) (by simp) (by rw [l1]; exact h.at_len hn) bad picks, l5 n (h.at_len hn)]
    exact hF n hn
   have hl : (((d.puts (pagesW z (rdF N q) (openF (rdF N q) N))).flushed.settle 0 [hdS (c + 1) (c + 1)]).crash picks).rd.length = d.rd.length := by rw [crash_len, settle_len, l1]
   rcases hr.cut_torn hc bad picks with k | k
   · refine ⟨c, s, q, e, h.after k hl (by omega), .inl fun n hn => ?_⟩
     unfold CD
     rw [hpg n hn]
     split
     · have := hF n hn
       unfold CD at this
       rwa [if_pos ‹_›] at this
     · rfl
   · exact ⟨c + 1, c + 1, [], 0, h.after k hl (by omega), .inl fun n hn => hpg n hn⟩
 · rw [if_neg ha]
   have ha' : (d.puts (pagesW z (rdF N q) (openF (rdF N q) N))).alive = false := by simpa using ha
   have hpw : ∀ p ∈ pagesW z (rdF N q) (openF (rdF N q) N), p.1 < d.rd.length ∧ p.2.length = 128 := fun p hp => by
    obtain ⟨n, hn, i, hi, rfl⟩ := pagesW_at hp
    obtain ⟨hn1, hn2⟩ := openF_mem.1 hn
    have := h.len
    refine ⟨?_, ?_⟩
    · show 1 + z + 4 * n + i < _
      omega
    · show (((rdF N q n).drop (i * 128)).take 128).length = 128
      have := (h512 n hn2).2
      simp
      omega
   obtain ⟨t1, t2, t3, t4⟩ := puts_torn h.ri.vs h.ri.all hpw ha' picks
   have hlow : ∀ j, j ≤ z → ((d.puts (pagesW z (rdF N q) (openF (rdF N q) N))).flushed.crash picks).rd.getD j [] = d.rd.getD j [] := fun j hj => t4 j fun p hp e => by
    obtain ⟨n, _, h5, _⟩ := pagesW_mem hp
    omega
   have hr : RI ((d.puts (pagesW z (rdF N q) (openF (rdF N q) N))).flushed.crash picks) z c s q e := by
    refine h.ri.head_set t2 t1 t3 (body_low t1 (fun j _ hj => hlow j hj) h.ri.len) ?_ (Nat.le_refl _)
    have h5 : ((d.puts (pagesW z (rdF N q) (openF (rdF N q) N))).flushed.crash picks).head = d.head := hlow 0 (Nat.zero_le _)
    unfold HeadIs
    rw [h5]
    exact h.ri.hd
   refine ⟨c, s, q, e, h.after hr t1 (by omega), .inl fun n hn => ?_⟩
   rw [← hF n hn]
   unfold CD
   by_cases hf : rdF N q n ≠ []
   · rw [if_pos hf, if_pos hf]
   · rw [if_neg hf, if_neg hf]
     refine pgAt_same fun j h1 h2 => t4 j fun p hp e => ?_
     obtain ⟨n', hn', h5, h6⟩ := pagesW_mem hp
     have : n' = n := by omega
     rw [this] at hn'
     exact hf (openF_mem.1 hn').2
end
section
variable {x : PX} {K : Nat} {F : Nat → List UInt8}
theorem PX.Ok.atRest (h : x.Ok K) : DR x.d x.z x.c x.s x.q x.e x.N K := ⟨h.life.ri, h.life.cK, h.z4, h.zM, h.nN, h.n4, h.nM, h.len⟩
theorem PX.Ok.cdC (h : x.Ok K) (n : Nat) : CD x.d x.z x.N x.q n = x.C n := by
 unfold CD PX.C
 rw [h.f2]
theorem AfP.comm (h : x.Ok K) (hc : x.c ≤ maxC) (h1 : 1 ≤ x.m) (h6 : x.m ≤ 60) (room : x.need ≤ x.z - x.e) (bad : x.cmOk = false) : AfP x.comm.d x.z x.N K x.C x.V := fun picks => by
 have hdr := h.atRest
 have hm := h.may h1 h6
 have hez : x.e ≤ x.z := h.life.ri.says.2.2
 have hrm : x.e + needN ((bytesR x.r).length : Nat) ≤ x.z := by rw [← h.need_eq h1 h6]; omega
 have hrl : (rowS x.c x.q.length x.r).length = needN ((bytesR x.r).length : Nat) := rowS_len _ _ _
 have hall := rowS_all (c := x.c) (n := x.q.length) hm h.r512
 have hpg : ∀ n, n < x.N → pgAt (x.comm.d.crash picks) x.z n = pgAt x.d x.z n := fun n hn => pg_torn h.life.ri.vs h.life.ri.all hall (by rw [hrl]; omega) (h.at_len hn) bad picks
 have hl : (x.comm.d.crash picks).rd.length = x.d.rd.length := by rw [crash_len]; exact settle_len _ _ _
 rcases h.life.ri.commit_torn h.life.nw hm h.r512 (h.mayT hc) hrm bad picks with k | k
 · exact ⟨x.c, x.s, x.q, x.e, hdr.after k hl h.life.cK, .inl fun n hn => (CD_same (hpg n hn)).trans (h.cdC n)⟩
 · refine ⟨x.c, x.s, x.q ++ [(x.c, x.r)], x.e + needN ((bytesR x.r).length : Nat), hdr.after k hl h.life.cK, .inr fun n hn => ?_⟩
   unfold CD
   rw [hpg n hn, rdF_snoc, ← h.f2, h.over]
   unfold PX.V PX.C overF
   by_cases hf : x.f1 n ≠ []
   · simp [hf]
   · simp [hf]
theorem AfP.left {d : DS} {z N K : Nat} {F G : Nat → List UInt8} (h : AfP d z N K F F) : AfP d z N K F G := fun picks => by
 obtain ⟨c, s, q, e, h1, h2⟩ := h picks
 exact ⟨c, s, q, e, h1, .inl (h2.elim (fun h => h) fun h => h)⟩
theorem AfP.ckx (h : x.Ok K) (hc : x.c < maxC) (bad : x.ckOk = false) : AfP x.ckpt.d x.z x.N (K + 1) x.C x.C := by
 have h1 := AfP.ckpt (F := x.C) h.atRest hc (fun n _ => h.cdC n) (by unfold PX.ckOk at bad; rw [h.f2] at bad; exact bad)
 show AfP (ckD x.d x.z x.c x.N x.f2) x.z x.N (K + 1) x.C x.C
 rw [h.f2]
 exact h1
theorem AfP.com (h : x.Ok K) (hK : K + 1 < maxC) (h1 : 1 ≤ x.m) (h6 : x.m ≤ 60) (hz : x.need ≤ x.z) (bad : x.comOk = false) : AfP x.comD x.z x.N (K + 1) x.C x.V := by
 have hcK := h.life.cK
 unfold PX.comOk at bad
 unfold PX.comD
 by_cases hn : x.need ≤ x.z - x.e
 · rw [if_pos hn] at bad ⊢
   exact (AfP.comm h (by omega) h1 h6 hn bad).mono (Nat.le_succ _) (fun _ _ => rfl) fun _ _ => rfl
 · rw [if_neg hn] at bad ⊢
   by_cases hck : x.ckOk = true
   · rw [if_pos hck]
     rw [hck, Bool.true_and] at bad
     obtain ⟨k1, k2⟩ := (h.mono (Nat.le_succ K)).ckpt (by omega) (by omega) hck
     refine (AfP.comm k1 (by show x.c + 1 ≤ maxC; omega) h1 h6 (by show x.ckpt.need ≤ x.z - 0; exact hz) bad).mono (Nat.le_refl _) k2 fun n hn' => ?_
     unfold PX.V
     rw [k2 n hn']
     rfl
   · rw [if_neg hck]
     exact (AfP.ckx h (by omega) (by simpa using hck)).left
theorem AfP.open {d : DS} {z c s e N : Nat} {q : List (Nat × List Chg)} (h : DR d z c s q e N K) (hK : K + 1 < maxC) (hF : ∀ n, n < N → CD d z N q n = F n) (bad : opOk d z c s N q = false) : AfP (opD d z c s N q) z N (K + 2) F F := by
 have hcK := h.cK
 unfold opOk at bad
 unfold opD
 by_cases ok : d.settles 0 [hdS (c + 1) s] = true
 · rw [ok, Bool.true_and, Bool.or_eq_false_iff] at bad
   have hq : q ≠ [] := fun e => by rw [e] at bad; cases bad.1
   rw [if_pos ⟨ok, hq⟩]
   have hr := (h.ri.opens (by omega) ok).1
   have hdr : DR (d.settle 0 [hdS (c + 1) s]) z (c + 1) s q e N (K + 1) := h.after hr (settle_len _ _ _) (by omega)
   refine AfP.ckpt hdr (by omega) (fun n hn => ?_) bad.2
   rw [← hF n hn]
   exact CD_same (pgAt_head h.ri.all (hdS_len _ _) (h.at_len hn) ok)
 · rw [if_neg (fun p => ok p.1)]
   exact (AfP.opens h (by omega) hF (by simpa using ok)).mono (by omega) (fun _ _ => rfl) fun _ _ => rfl
end
theorem rest_most {d : DS} (h : ∀ j, d.vs j = []) : d.most 1000000 := fun j => by rw [h j]; exact Nat.zero_le _
section
variable {d : DS} {z c s e N K : Nat} {q : List (Nat × List Chg)} {f : Nat → List UInt8} {x : PX}
theorem ckD_most (hv : ∀ j, d.vs j = []) (hall : RI d z c s q e) (h512 : ∀ n, f n ≠ [] → n < N ∧ (f n).length = 512) (hfit : 1 + z + 4 * N ≤ d.rd.length) (hN : N ≤ 2000) : (ckD d z c N f).most 1000000 := by
 unfold ckD
 split
 · exact settle_manyN (laid_rd h512 hfit ‹_›).2.1 0 (by simp)
 · rename_i ha
   obtain ⟨_, e2⟩ := flushed_dead (d := d.puts (pagesW z f (openF f N))) (by simpa using ha)
   intro j
   rw [e2]
   have h1 := puts_most (pagesW z f (openF f N)) d 1 (fun j => by rw [hv j]; exact Nat.zero_le _) (Nat.le_refl _) j
   have h2 : (pagesW z f (openF f N)).length ≤ 4 * (openF f N).length := by
    unfold pagesW
    generalize openF f N = l
    induction l with
    | nil => exact Nat.zero_le _
    | cons a l ih =>
      rw [List.flatMap_cons, List.length_append, pageW_len, List.length_cons]
      omega
   have h3 : (openF f N).length ≤ N := by
    have : (openF f N).length ≤ (List.range N).length := List.length_filter_le _ _
    rwa [List.length_range] at this
   omega
theorem PX.Ok.ck_most (h : x.Ok K) : x.ckpt.d.most 1000000 := ckD_most h.life.ri.vs h.life.ri h.g2 h.len h.nM
theorem PX.Ok.cm_most (h : x.Ok K) (h6 : x.need ≤ x.z) (h1 : 1 ≤ x.m) (h60 : x.m ≤ 60) : x.comm.d.most 1000000 := settle_manyN h.life.ri.vs _ (by rw [rowS_len, ← h.need_eq h1 h60]; have := h.zM; omega)
theorem PX.Ok.com_most (h : x.Ok K) (hK : K + 1 < maxC) (h1 : 1 ≤ x.m) (h6 : x.m ≤ 60) (hz : x.need ≤ x.z) : x.comD.most 1000000 := by
 have hcK := h.life.cK
 unfold PX.comD
 split
 · exact h.cm_most hz h1 h6
 · split
   · exact ((h.mono (Nat.le_succ K)).ckpt (by omega) (by omega) ‹_›).1.cm_most hz h1 h6
   · exact h.ck_most
theorem DR.op_most (h : DR d z c s q e N K) (hK : K + 1 < maxC) : (opD d z c s N q).most 1000000 := by
 have hcK := h.cK
 unfold opD
 split
 · rename_i ok
   have hr := (h.ri.opens (by omega) ok.1).1
   exact ckD_most hr.vs hr (h.ri.rdF_ok N) (by rw [settle_len]; exact h.len) h.nM
 · exact settle_manyN h.ri.vs 0 (by simp)
end
end Go.Proofs.YtcnlgbjkjlbmbaaGreat

