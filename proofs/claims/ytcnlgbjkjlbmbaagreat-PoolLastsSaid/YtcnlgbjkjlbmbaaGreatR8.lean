/- R8: laid together out of Qpx Qpa Qpb Qpc Qpo. -/
import Derived.Test.YtcnlgbjkjlbmbaaGreatR7
namespace Go.Proofs.YtcnlgbjkjlbmbaaGreat
open Go.RowKit

structure PX where
 d : DS
 z : Nat
 fr : Nat
 c : Nat
 s : Nat
 e : Nat
 q : List (Nat × List Chg)
 N : Nat
 f1 : Nat → List UInt8
 f2 : Nat → List UInt8
 cl : List (Nat × List UInt8)
def PX.C (x : PX) (n : Nat) : List UInt8 := if x.f2 n ≠ [] then x.f2 n else pgAt x.d x.z n
def PX.V (x : PX) (n : Nat) : List UInt8 := if x.f1 n ≠ [] then x.f1 n else x.C n
structure PX.Ok (x : PX) (K : Nat) : Prop where
 dd : x.d.dd = false
 life : LifeS x.d x.z x.c x.s x.q x.e K
 z4 : 4 ≤ x.z
 zM : x.z ≤ 4000
 fr2 : 2 ≤ x.fr
 frM : x.fr ≤ 100
 nN : x.N = pcnt x.d.rd.length (x.z : Nat)
 n4 : 4 ≤ x.N
 nM : x.N ≤ 2000
 len : 1 + x.z + 4 * x.N ≤ x.d.rd.length
 f1 : ∀ n, x.f1 n ≠ [] → n < x.N ∧ (x.f1 n).length = 512
 f2 : x.f2 = rdF x.N x.q
 g2 : ∀ n, x.f2 n ≠ [] → n < x.N ∧ (x.f2 n).length = 512
 cl : ∀ y ∈ x.cl, y.1 < x.N ∧ x.f2 y.1 = [] ∧ y.2 = pgAt x.d x.z y.1
 cll : x.cl.length ≤ x.fr
section
variable {x : PX} {K n : Nat}
set_option maxRecDepth 100000 in
theorem PX.Ok.at_len (h : x.Ok K) (hn : n < x.N) : 1 + x.z + 4 * n + 4 ≤ x.d.rd.length := by have := h.len; omega
set_option maxRecDepth 100000 in
theorem PX.Ok.C_len (h : x.Ok K) (hn : n < x.N) : (x.C n).length = 512 := by
 unfold PX.C
 split
 · exact (h.g2 n ‹_›).2
 · rw [← pgUp_four]
   exact pgUp_len h.life.ri.all (h.at_len hn) (Nat.le_refl _)
set_option maxRecDepth 100000 in
theorem PX.Ok.V_len (h : x.Ok K) (hn : n < x.N) : (x.V n).length = 512 := by
 unfold PX.V
 split
 · exact (h.f1 n ‹_›).2
 · exact h.C_len hn
set_option maxRecDepth 100000 in
theorem PX.Ok.ask (h : x.Ok K) : askP x.d x.z x.f2 x.cl n = x.C n := by
 unfold askP PX.C
 split
 · rfl
 · unfold liftC
   split
   · rename_i k hk
     obtain ⟨hk1, hk2, _⟩ := List.findIdx?_eq_some_iff_getElem.1 hk
     have hm := h.cl x.cl[k] (List.getElem_mem _)
     have e1 : x.cl[k].1 = n := by simpa using hk2
     have e2 : x.cl.getD k (0, []) = x.cl[k] := by simp [hk1]
     rw [e2, hm.2.2, e1]
   · rfl
set_option maxRecDepth 100000 in
theorem PX.Ok.liftC_ok (h : x.Ok K) (hn : n < x.N) (hf : x.f2 n = []) : (liftC x.d x.z x.cl n).1 < x.N ∧ x.f2 (liftC x.d x.z x.cl n).1 = [] ∧ (liftC x.d x.z x.cl n).2 = pgAt x.d x.z (liftC x.d x.z x.cl n).1 := by
 unfold liftC
 split
 · rename_i k hk
   obtain ⟨hk1, hk2, _⟩ := List.findIdx?_eq_some_iff_getElem.1 hk
   have e2 : x.cl.getD k (0, []) = x.cl[k] := by simp [hk1]
   rw [e2]
   exact h.cl x.cl[k] (List.getElem_mem _)
 · exact ⟨hn, hf, rfl⟩
set_option maxRecDepth 100000 in
theorem liftL_sub {cl : List (Nat × List UInt8)} {n : Nat} : ∀ y ∈ liftL cl n, y ∈ cl := fun y hy => by
 unfold liftL at hy
 split at hy
 · exact List.mem_of_mem_eraseIdx hy
 · exact hy
set_option maxRecDepth 100000 in
theorem liftL_len {cl : List (Nat × List UInt8)} {n : Nat} : (liftL cl n).length ≤ cl.length := by
 unfold liftL
 split
 · rw [List.length_eraseIdx]; split <;> omega
 · omega
def PX.asked (x : PX) (n : Nat) : PX := { x with cl := askL x.d x.z x.fr x.f2 x.cl n }
set_option maxRecDepth 100000 in
theorem PX.Ok.asked (h : x.Ok K) (hn : n < x.N) : (x.asked n).Ok K := by
 have hl : ∀ y ∈ liftL x.cl n ++ [liftC x.d x.z x.cl n], x.f2 n = [] → y.1 < x.N ∧ x.f2 y.1 = [] ∧ y.2 = pgAt x.d x.z y.1 := fun y hy hf => by
  rcases List.mem_append.1 hy with q | q
  · exact h.cl y (liftL_sub y q)
  · rw [List.mem_singleton.1 q]; exact h.liftC_ok hn hf
 refine { h with cl := fun y hy => ?_, cll := ?_ }
 · simp only [PX.asked, askL] at hy ⊢
   split at hy
   · exact h.cl y hy
   · rename_i hf
     have hf' : x.f2 n = [] := Decidable.byContradiction fun q => hf q
     split at hy
     · exact hl y (List.mem_of_mem_eraseIdx hy) hf'
     · exact hl y hy hf'
 · simp only [PX.asked, askL]
   have h1 := liftL_len (cl := x.cl) (n := n)
   have h2 := h.cll
   split
   · exact h2
   · split
     · rename_i hq
       rw [List.length_eraseIdx_of_lt (by simp), List.length_append, List.length_singleton]
       omega
     · rename_i hq
       omega
def PX.got (x : PX) (n : Nat) : PX := if x.f1 n ≠ [] then x else x.asked n
set_option maxRecDepth 100000 in
theorem PX.Ok.got (h : x.Ok K) (hn : n < x.N) : (x.got n).Ok K := by
 unfold PX.got
 split
 · exact h
 · exact h.asked hn
def PX.putted (x : PX) (n : Nat) (y : List UInt8) : PX := { x.asked n with f1 := upd x.f1 n (if y = x.C n then [] else y) }
set_option maxRecDepth 100000 in
theorem PX.Ok.putted (h : x.Ok K) (hn : n < x.N) {y : List UInt8} (hy : y.length = 512) : (x.putted n y).Ok K := by
 refine { h.asked hn with f1 := fun m hm => ?_ }
 simp only [PX.putted] at hm ⊢
 by_cases hmn : m = n
 · subst hmn
   rw [upd_self] at hm ⊢
   split at hm
   · exact absurd rfl hm
   · rename_i hq
     rw [if_neg hq]
     exact ⟨hn, hy⟩
 · rw [upd_ne hmn] at hm ⊢
   exact h.f1 m hm
def PX.aborted (x : PX) : PX := { x with f1 := fun _ => [] }
set_option maxRecDepth 100000 in
theorem PX.Ok.aborted (h : x.Ok K) : x.aborted.Ok K := { h with f1 := fun _ hn => absurd rfl hn }
set_option maxRecDepth 100000 in
theorem pgAt_same {d d' : DS} {z n : Nat} (h : ∀ j, 1 + z + 4 * n ≤ j → j < 1 + z + 4 * n + 4 → d'.rd.getD j [] = d.rd.getD j []) : pgAt d' z n = pgAt d z n := by
 unfold pgAt
 exact flatMap_same fun i hi => h _ (by omega) (by have := List.mem_range.1 hi; omega)
set_option maxRecDepth 100000 in
theorem pgAt_head {d : DS} {z n : Nat} {y : List UInt8} (hall : ∀ x ∈ d.rd, x.length = 128) (hy : y.length = 128) (hl : 1 + z + 4 * n + 4 ≤ d.rd.length) (ok : d.settles 0 [y] = true) : pgAt (d.settle 0 [y]) z n = pgAt d z n :=
 pgAt_same fun j h1 h2 => (head_alive hall hy (by omega) ok).2.2.2.2 j (by omega) (by omega)
set_option maxRecDepth 100000 in
theorem pgAt_row {d : DS} {z n i : Nat} {ss : List (List UInt8)} (hi : i + ss.length ≤ 1 + z) (ok : d.settles i ss = true) : pgAt (d.settle i ss) z n = pgAt d z n :=
 pgAt_same fun j h1 h2 => by
  rw [(settle_alive ok).1, List.getD_eq_getElem?_getD, List.getD_eq_getElem?_getD, layL_out (by omega)]
set_option maxRecDepth 100000 in
theorem flushed_dd {d : DS} (h : d.alive = true) : d.flushed.dd = false := by
 unfold DS.flushed
 rw [if_pos h]
 show deadS d.fu d.lf d.dd = false
 simpa [DS.alive] using h
set_option maxRecDepth 100000 in
theorem settle_ddf {d : DS} {i : Nat} {ss : List (List UInt8)} (h : d.settles i ss = true) : (d.settle i ss).dd = false := flushed_dd h
set_option maxRecDepth 100000 in
theorem flushed_ddt {d : DS} (h : d.alive = false) : d.flushed.dd = true := by
 unfold DS.flushed
 rw [if_neg (by rw [h]; decide)]
 show deadS d.fu d.lf d.dd = true
 simpa [DS.alive] using h
set_option maxRecDepth 100000 in
theorem ckD_dd {d : DS} {z c N : Nat} {f : Nat → List UInt8} : (ckD d z c N f).dd = !ckOk d z c N f := by
 unfold ckD ckOk
 cases ha : (d.puts (pagesW z f (openF f N))).alive with
 | false =>
   rw [if_neg (by decide), flushed_ddt ha]
   rfl
 | true =>
   rw [if_pos rfl]
   cases hs : (d.puts (pagesW z f (openF f N))).flushed.settles 0 [hdS (c + 1) (c + 1)] with
   | false => rw [settle_dd hs]; rfl
   | true => rw [settle_ddf hs]; rfl
def PX.ckpt (x : PX) : PX := { x with d := ckD x.d x.z x.c x.N x.f2, c := x.c + 1, s := x.c + 1, e := 0, q := [], f2 := fun _ => [] }
def PX.ckOk (x : PX) : Bool := Proofs.YtcnlgbjkjlbmbaaGreat.ckOk x.d x.z x.c x.N x.f2
set_option maxRecDepth 100000 in
theorem ckD_len (d : DS) (z c N : Nat) (f : Nat → List UInt8) : (ckD d z c N f).rd.length = d.rd.length := by
 unfold ckD
 have : (d.puts (pagesW z f (openF f N))).flushed.rd.length = d.rd.length := flushed_len.trans (puts_len d _)
 split
 · rw [settle_len, this]
 · exact this
set_option maxRecDepth 100000 in
theorem PX.Ok.ckpt_pg (h : x.Ok K) (hc : x.c < maxC) (ok : x.ckOk = true) (hn : n < x.N) : pgAt x.ckpt.d x.z n = x.C n := by
 unfold PX.ckOk Proofs.YtcnlgbjkjlbmbaaGreat.ckOk at ok
 rw [Bool.and_eq_true] at ok
 have h1 := laid_rd h.g2 h.len ok.1
 have h2 := h.life.ri.puts h.g2 h.len ok.1
 show pgAt (ckD x.d x.z x.c x.N x.f2) x.z n = x.C n
 unfold ckD
 rw [if_pos ok.1, pgAt_head h2.all (hdS_len _ _) (by rw [h1.1]; exact h.at_len hn) ok.2, h1.2.2.2.2 n (h.at_len hn)]
 rfl
set_option maxRecDepth 100000 in
theorem PX.Ok.ckpt (h : x.Ok K) (hc : x.c < maxC) (hK : x.c + 1 ≤ K) (ok : x.ckOk = true) : x.ckpt.Ok K ∧ ∀ n, n < x.N → x.ckpt.C n = x.C n := by
 have hr := h.life.ri.ckpt h.g2 h.len hc ok
 have hl := ckD_len x.d x.z x.c x.N x.f2
 refine ⟨{ h with
  dd := by show (ckD x.d x.z x.c x.N x.f2).dd = false; rw [ckD_dd]; unfold PX.ckOk at ok; rw [ok]; rfl
  life := ⟨hr.1, hr.2 _ _, hK⟩
  nN := by show x.N = pcnt (ckD x.d x.z x.c x.N x.f2).rd.length _; rw [hl]; exact h.nN
  len := by show 1 + x.z + 4 * x.N ≤ (ckD x.d x.z x.c x.N x.f2).rd.length; rw [hl]; exact h.len
  f2 := rfl
  g2 := fun n hn => absurd rfl hn
  cl := fun y hy => ?_ }, fun n hn => ?_⟩
 · obtain ⟨h1, h2, h3⟩ := h.cl y hy
   refine ⟨h1, rfl, ?_⟩
   rw [h3]
   have := h.ckpt_pg hc ok h1
   unfold PX.C at this
   rw [if_neg (fun q => q h2)] at this
   exact this.symm
 · show (if ([] : List UInt8) ≠ [] then _ else pgAt x.ckpt.d x.z n) = _
   rw [if_neg (fun q => q rfl)]
   exact h.ckpt_pg hc ok hn
def PX.r (x : PX) : List Chg := chgs x.f1 (openF x.f1 x.N)
def PX.m (x : PX) : Nat := (openF x.f1 x.N).length
def PX.need (x : PX) : Nat := wneedN (x.m : Nat)
set_option maxRecDepth 100000 in
theorem PX.Ok.r512 (h : x.Ok K) : ∀ y ∈ x.r, y.p.length = 512 := fun y hy => by
 unfold PX.r chgs at hy
 obtain ⟨n, hn, rfl⟩ := List.mem_map.1 hy
 exact (h.f1 n (openF_mem.1 hn).2).2
set_option maxRecDepth 100000 in
theorem PX.Ok.may (h : x.Ok K) (h1 : 1 ≤ x.m) (h6 : x.m ≤ 60) : mayR x.r = true := by
 unfold mayR
 have hl : x.r.length = x.m := chgs_len _ _
 rw [hl]
 simp only [Bool.and_eq_true, decide_eq_true_eq, List.all_eq_true]
 refine ⟨h1, h6, fun y hy => ?_⟩
 unfold PX.r chgs at hy
 obtain ⟨n, hn, rfl⟩ := List.mem_map.1 hy
 have := (openF_mem.1 hn).1
 have := h.nM
 unfold okN
 simp only [Bool.and_eq_true, decide_eq_true_eq]
 omega
set_option maxRecDepth 100000 in
theorem PX.Ok.need_eq (h : x.Ok K) (h1 : 1 ≤ x.m) (h6 : x.m ≤ 60) : x.need = needN ((bytesR x.r).length : Nat) := by
 unfold PX.need wneedN
 rw [if_neg (by omega), bytesR_len h.r512, show x.r.length = x.m from chgs_len _ _]
 congr 1
set_option maxRecDepth 100000 in
theorem PX.Ok.mayT (h : x.Ok K) (hc : x.c ≤ maxC) : Proofs.YtcnlgbjkjlbmbaaGreat.mayT x.c ((x.q.length : Nat) : Int) = true := by
 have h1 := h.life.ri.few
 have h2 := h.life.ri.hd
 have h3 := h.zM
 unfold Proofs.YtcnlgbjkjlbmbaaGreat.mayT
 simp only [Bool.and_eq_true, decide_eq_true_eq]
 have := h2.2.1
 have := h2.2.2.1
 simp only [maxC] at hc
 omega
def PX.comm (x : PX) : PX := { x with d := x.d.settle (1 + x.e) (rowS x.c x.q.length x.r), e := x.e + x.need, q := x.q ++ [(x.c, x.r)], f1 := fun _ => [], f2 := overF x.f1 x.f2, cl := x.cl.filter fun y => decide (x.f1 y.1 = []) }
def PX.cmOk (x : PX) : Bool := x.d.settles (1 + x.e) (rowS x.c x.q.length x.r)
set_option maxRecDepth 100000 in
theorem redo_chgs {N : Nat} {f1 : Nat → List UInt8} : ∀ {l : List Nat} {f : Nat → List UInt8}, (∀ n ∈ l, n < N) → ∀ n, redoF N f (chgs f1 l) n = if n ∈ l then f1 n else f n
 | [], f, _, n => by simp [chgs, redoF]
 | a :: l, f, h, n => by
   have ha : ((a : Nat) : Int) < (N : Int) := by have := h a (by simp); omega
   have ih := redo_chgs (f1 := f1) (l := l) (f := upd f a (f1 a)) (fun m hm => h m (by simp [hm])) n
   have e : redoF N f (chgs f1 (a :: l)) = redoF N (upd f a (f1 a)) (chgs f1 l) := by
    show redoF N (if ((a : Nat) : Int) < (N : Int) then upd f ((a : Nat) : Int).toNat (f1 a) else f) (chgs f1 l) = _
    rw [if_pos ha, Int.toNat_natCast]
   rw [e, ih]
   by_cases hn : n ∈ l
   · rw [if_pos hn, if_pos (by simp [hn])]
   · rw [if_neg hn]
     by_cases hna : n = a
     · subst hna
       rw [upd_self, if_pos (by simp)]
     · rw [upd_ne hna, if_neg (by simp [hn, hna])]
set_option maxRecDepth 100000 in
theorem rdF_snoc (N : Nat) (q : List (Nat × List Chg)) (c : Nat) (r : List Chg) : rdF N (q ++ [(c, r)]) = redoF N (rdF N q) r := by
 unfold rdF
 rw [List.map_append, List.flatten_append, redoF_app]
 simp
set_option maxRecDepth 100000 in
theorem PX.Ok.over (h : x.Ok K) : redoF x.N x.f2 x.r = overF x.f1 x.f2 := by
 funext n
 unfold PX.r overF
 rw [redo_chgs (fun m hm => (openF_mem.1 hm).1)]
 by_cases hn : x.f1 n ≠ []
 · rw [if_pos hn, if_pos (openF_mem.2 ⟨(h.f1 n hn).1, hn⟩)]
 · rw [if_neg hn, if_neg (fun q => hn (openF_mem.1 q).2)]
set_option maxRecDepth 100000 in
theorem PX.Ok.comm (h : x.Ok K) (hc : x.c ≤ maxC) (h1 : 1 ≤ x.m) (h6 : x.m ≤ 60) (room : x.need ≤ x.z - x.e) (ok : x.cmOk = true) : x.comm.Ok K ∧ ∀ n, x.comm.C n = x.V n := by
 have hne := h.need_eq h1 h6
 have hez := h.life.ri.says.2.2
 have hroom : x.e + needN ((bytesR x.r).length : Nat) ≤ x.z := by rw [← hne]; omega
 have hlf := h.life.commit (h.may h1 h6) h.r512 (h.mayT hc) hroom ok
 have hl : (x.d.settle (1 + x.e) (rowS x.c x.q.length x.r)).rd.length = x.d.rd.length := settle_len _ _ _
 have hpg : ∀ n, pgAt (x.d.settle (1 + x.e) (rowS x.c x.q.length x.r)) x.z n = pgAt x.d x.z n := fun n => pgAt_row (by rw [rowS_len]; omega) ok
 have hg : ∀ n, overF x.f1 x.f2 n ≠ [] → n < x.N ∧ (overF x.f1 x.f2 n).length = 512 := fun n hn => by
  unfold overF at hn ⊢
  by_cases hf : x.f1 n ≠ []
  · rw [if_pos hf]; exact h.f1 n hf
  · rw [if_neg hf] at hn ⊢; exact h.g2 n hn
 refine ⟨{ h with
  dd := settle_ddf ok
  life := by show LifeS _ _ _ _ _ (x.e + x.need) _; rw [hne]; exact hlf
  nN := by show x.N = pcnt (x.d.settle (1 + x.e) (rowS x.c x.q.length x.r)).rd.length _; rw [hl]; exact h.nN
  len := by show 1 + x.z + 4 * x.N ≤ (x.d.settle (1 + x.e) (rowS x.c x.q.length x.r)).rd.length; rw [hl]; exact h.len
  f1 := fun n hn => absurd rfl hn
  f2 := by show overF x.f1 x.f2 = rdF x.N (x.q ++ [(x.c, x.r)]); rw [rdF_snoc, ← h.f2, h.over]
  g2 := hg
  cl := fun y hy => ?_
  cll := Nat.le_trans (List.length_filter_le _ _) h.cll }, fun n => ?_⟩
 · obtain ⟨h2, h3⟩ := List.mem_filter.1 hy
   obtain ⟨h4, h5, h6'⟩ := h.cl y h2
   have hf : x.f1 y.1 = [] := by simpa using h3
   refine ⟨h4, ?_, ?_⟩
   · show overF x.f1 x.f2 y.1 = []
     unfold overF
     rw [if_neg (fun q => q hf)]
     exact h5
   · show y.2 = pgAt (x.d.settle (1 + x.e) (rowS x.c x.q.length x.r)) x.z y.1
     rw [hpg]
     exact h6'
 · show (if overF x.f1 x.f2 n ≠ [] then overF x.f1 x.f2 n else pgAt (x.d.settle (1 + x.e) (rowS x.c x.q.length x.r)) x.z n) = _
   rw [hpg]
   unfold PX.V PX.C overF
   by_cases hf : x.f1 n ≠ []
   · rw [if_pos hf, if_pos hf]
     exact (if_pos hf).symm
   · rw [if_neg hf, if_neg hf]
end
end Go.Proofs.YtcnlgbjkjlbmbaaGreat

namespace Go.Proofs.YtcnlgbjkjlbmbaaGreat
open Go.RowKit

def PSet (p lb M1 M2 : Nat) (v : Value) (P : Nat → Prop) (b : Nat) : Prop := b = p ∨ b = lb ∨ b = M1 ∨ b = M2 ∨ v.ownBlock = some b ∨ P b
def PA (w : World) (B : Nat) (S : Nat → Prop) (p g : Nat) (x : PX) : Prop :=
 ∃ lb M1 M2 v P, PlB w p g x.z x.fr lb M1 M2 v false ∧ FrV w v x.cl ∧ DT w B g x.d P ∧ LgW w lb g x.z x.c x.s x.e x.q.length false ∧ PMap w M1 x.N x.f1 ∧ PMap w M2 x.N x.f2 ∧ M1 ≠ M2 ∧ ¬ P M1 ∧ ¬ P M2 ∧ (∀ b, S b ↔ PSet p lb M1 M2 v P b) ∧ ∀ b, S b → B ≤ b ∧ b < w.heap.size
def PDd (w : World) (B : Nat) (S : Nat → Prop) (p g : Nat) (d : DS) : Prop :=
 ∃ z fr lb M1 M2 v P, PlB w p g z fr lb M1 M2 v true ∧ DT w B g d P ∧ (∀ b, S b ↔ PSet p lb M1 M2 v P b) ∧ ∀ b, S b → B ≤ b ∧ b < w.heap.size
section
variable {w w' : World} {B p g K : Nat} {S G : Nat → Prop} {x : PX}
set_option maxRecDepth 100000 in
theorem PA.p_in (h : PA w B S p g x) : S p ∧ p < w.heap.size := by
 obtain ⟨lb, M1, M2, v, P, h1, _, _, _, _, _, _, _, _, hS, _⟩ := h
 exact ⟨(hS p).2 (.inl rfl), h1.lt⟩
set_option maxRecDepth 100000 in
theorem PA.sub (h : PA w B S p g x) : ∀ b, S b → B ≤ b ∧ b < w.heap.size := by
 obtain ⟨lb, M1, M2, v, P, _, _, _, _, _, _, _, _, _, _, hb⟩ := h
 exact hb
set_option maxRecDepth 100000 in
theorem PA.keep (h : PA w B S p g x) (f : Fr G w w') (hG : ∀ b, S b → ¬ G b) (hfr : ∀ b cs, Blk w b 95 cs → ¬ G b) : PA w' B S p g x := by
 obtain ⟨lb, M1, M2, v, P, h1, h2, h3, h4, h5, h6, h7, h8, h9, hS, hb⟩ := h
 have hn : ∀ b, PSet p lb M1 M2 v P b → ¬ G b := fun b q => hG b ((hS b).2 q)
 exact ⟨lb, M1, M2, v, P, h1.keep f (hn p (.inl rfl)), h2.keep f (fun k hk => hn k (.inr (.inr (.inr (.inr (.inl hk)))))) hfr, h3.keep' f (fun b q => hn b (.inr (.inr (.inr (.inr (.inr q)))))), h4.keep f (hn lb (.inr (.inl rfl))), h5.keep f (hn M1 (.inr (.inr (.inl rfl)))), h6.keep f (hn M2 (.inr (.inr (.inr (.inl rfl))))), h7, h8, h9, hS, fun b q => ⟨(hb b q).1, Nat.lt_of_lt_of_le (hb b q).2 f.size⟩⟩
set_option maxRecDepth 100000 in
theorem PA.new (h : PA w B S p g x) (f : Fr (fun _ => False) w w') : PA w' B S p g x := h.keep f (fun _ _ q => q) (fun _ _ _ q => q)
def PTo (w w' : World) (B : Nat) (S : Nat → Prop) (p g : Nat) (x' : PX) : Prop := ∃ S', PA w' B S' p g x' ∧ (∀ b, S' b → S b ∨ w.heap.size ≤ b) ∧ Fr S w w'
set_option maxRecDepth 100000 in
theorem PTo.refl (h : PA w B S p g x) : PTo w w B S p g x := ⟨S, h, fun _ q => .inl q, Fr.refl _ _⟩
set_option maxRecDepth 100000 in
theorem pcnt_of (k : x.Ok K) : pcnt x.d.rd.length (x.z : Nat) = x.N := k.nN.symm
set_option maxRecDepth 100000 in
set_option maxHeartbeats 1000000 in
theorem pa_get (h : PA w B S p g x) (k : x.Ok K) {n : Nat} (hn : n < x.N) : Calls Tryz.prog 18 #[.pointer (some ⟨p, 0, none⟩), .int .i64 (n : Nat)] w fun e w' => e = .returned (.tuple #[av (x.V n), .int .i64 0]) ∧ PTo w w' B S p g (x.got n) := by
 obtain ⟨lb, M1, M2, v, P, h1, h2, h3, h4, h5, h6, h7, h8, h9, hS, hb⟩ := h
 have hpP : ¬ P p := h3.not_t h1 (by decide) (by decide)
 have hnM := k.nM
 have hsub : ∀ b, b = p → S b := fun b e => (hS b).2 (.inl e)
 by_cases hf : x.f1 n = []
 · have e1 : x.got n = x.asked n := by unfold PX.got; rw [if_neg (fun q => q hf)]
   have e2 : x.V n = x.C n := by unfold PX.V; rw [if_neg (fun q => q hf)]
   rw [e1, e2, ← k.ask]
   refine (plget_ask h1 h2 h3.1 hpP (fun b t cs hP hk => by rcases h3.2 b t cs hP hk with e | e <;> rw [e] <;> decide) h5 h6 (by omega) (by rw [k.dd]; rfl) (by rw [pcnt_of k]; exact hn) k.zM (by omega) (k.at_len hn) (by have := k.cll; have := k.frM; omega) (by have := k.frM; omega) hf).mono ?_
   rintro e w' ⟨v', rfl, hf', hp', hv', f⟩
   have hvb : ∀ b, v.ownBlock = some b → b ≠ p ∧ b ≠ lb ∧ b ≠ M1 ∧ b ≠ M2 ∧ ¬ P b := fun b hk => by
    obtain ⟨bs, ho, _⟩ := h2
    obtain ⟨cs, hb⟩ := own_blk ho hk
    exact ⟨fun e => own_ne ho h1 (by decide) (by rw [hk, e]), fun e => own_ne ho h4 (by decide) (by rw [hk, e]), fun e => h5.ne_own ho (by rw [hk, e]), fun e => h6.ne_own ho (by rw [hk, e]), h3.not_t hb (by decide) (by decide)⟩
   have hnot : ∀ b, b ≠ p → (∀ k, v.ownBlock = some k → k ≠ b) → ¬ (b = p ∨ v.ownBlock = some b) := fun b e1 e2 q => q.elim e1 (fun q => e2 b q rfl)
   refine ⟨rfl, PSet p lb M1 M2 v' P, ⟨lb, M1, M2, v', P, hp', hf', h3.keep' f (fun b hb q => q.elim (fun e => hpP (e ▸ hb)) (fun q => (hvb b q).2.2.2.2 hb)), h4.keep f (hnot lb (h4.ne_ h1 (by decide)) (fun k hk => (hvb k hk).2.1)), h5.keep f (hnot M1 (h5.ne_blk h1) (fun k hk => (hvb k hk).2.2.1)), h6.keep f (hnot M2 (h6.ne_blk h1) (fun k hk => (hvb k hk).2.2.2.1)), h7, h8, h9, fun b => Iff.rfl, ?_⟩, ?_, f.mono (fun b _ q => (hS b).2 (q.elim .inl (fun q => .inr (.inr (.inr (.inr (.inl q)))))))⟩
   · intro b q
     have hB : B ≤ w.heap.size := by have := (hb p (hsub p rfl)).1; have := (hb p (hsub p rfl)).2; omega
     rcases q with q | q | q | q | q | q
     · exact ⟨(hb b ((hS b).2 (.inl q))).1, Nat.lt_of_lt_of_le (hb b ((hS b).2 (.inl q))).2 f.size⟩
     · exact ⟨(hb b ((hS b).2 (.inr (.inl q)))).1, Nat.lt_of_lt_of_le (hb b ((hS b).2 (.inr (.inl q)))).2 f.size⟩
     · exact ⟨(hb b ((hS b).2 (.inr (.inr (.inl q))))).1, Nat.lt_of_lt_of_le (hb b ((hS b).2 (.inr (.inr (.inl q))))).2 f.size⟩
     · exact ⟨(hb b ((hS b).2 (.inr (.inr (.inr (.inl q)))))).1, Nat.lt_of_lt_of_le (hb b ((hS b).2 (.inr (.inr (.inr (.inl q)))))).2 f.size⟩
     · obtain ⟨bs, ho, _⟩ := hf'
       obtain ⟨cs, hbk⟩ := own_blk ho q
       rcases hv' with y | ⟨k, y1, y2⟩
       · exact ⟨(hb b ((hS b).2 (.inr (.inr (.inr (.inr (.inl (y ▸ q)))))))).1, hbk.lt⟩
       · rw [y1] at q; injection q with q; exact ⟨by omega, hbk.lt⟩
     · exact ⟨(hb b ((hS b).2 (.inr (.inr (.inr (.inr (.inr q))))))).1, Nat.lt_of_lt_of_le (hb b ((hS b).2 (.inr (.inr (.inr (.inr (.inr q))))))).2 f.size⟩
   · intro b q
     rcases q with q | q | q | q | q | q
     · exact .inl ((hS b).2 (.inl q))
     · exact .inl ((hS b).2 (.inr (.inl q)))
     · exact .inl ((hS b).2 (.inr (.inr (.inl q))))
     · exact .inl ((hS b).2 (.inr (.inr (.inr (.inl q)))))
     · rcases hv' with y | ⟨k, y1, y2⟩
       · exact .inl ((hS b).2 (.inr (.inr (.inr (.inr (.inl (y ▸ q)))))))
       · rw [y1] at q; injection q with q; exact .inr (by omega)
     · exact .inl ((hS b).2 (.inr (.inr (.inr (.inr (.inr q))))))
 · have e1 : x.got n = x := by unfold PX.got; rw [if_pos hf]
   have e2 : x.V n = x.f1 n := by unfold PX.V; rw [if_pos hf]
   rw [e1, e2]
   refine (plget_chg h1 h3.1 hpP h5 (by omega) (by rw [k.dd]; rfl) (by rw [pcnt_of k]; exact hn) (by omega) hf).mono ?_
   rintro e w' ⟨rfl, hp', f⟩
   have hA : PA w B S p g x := ⟨lb, M1, M2, v, P, h1, h2, h3, h4, h5, h6, h7, h8, h9, hS, hb⟩
   have hvb : ∀ b, v.ownBlock = some b → b ≠ p := fun b hk => by
    obtain ⟨bs, ho, _⟩ := h2
    exact fun e => own_ne ho h1 (by decide) (by rw [hk, e])
   exact ⟨rfl, S, ⟨lb, M1, M2, v, P, hp', h2.keep f hvb (fun b cs hk e => absurd (blk_type (e ▸ hk) h1) (by decide)), h3.keep' f (fun b hb e => hpP (e ▸ hb)), h4.keep f (h4.ne_ h1 (by decide)), h5.keep f (h5.ne_blk h1), h6.keep f (h6.ne_blk h1), h7, h8, h9, hS, fun b q => ⟨(hb b q).1, Nat.lt_of_lt_of_le (hb b q).2 f.size⟩⟩, fun b q => .inl q, f.mono (fun b _ e => hsub b e)⟩
end
end Go.Proofs.YtcnlgbjkjlbmbaaGreat

namespace Go.Proofs.YtcnlgbjkjlbmbaaGreat
open Go.RowKit

section
variable {w w' : World} {B p g K : Nat} {S G : Nat → Prop} {x : PX}
set_option maxRecDepth 100000 in
theorem pset_sub {lb M1 M2 : Nat} {v v' : Value} {P P' : Nat → Prop} (hS : ∀ b, S b ↔ PSet p lb M1 M2 v P b) (hP : ∀ b, P' b → P b ∨ w.heap.size ≤ b) (hv : v'.ownBlock = v.ownBlock ∨ ∃ k, v'.ownBlock = some k ∧ w.heap.size ≤ k) : ∀ b, PSet p lb M1 M2 v' P' b → S b ∨ w.heap.size ≤ b := fun b q => by
 rcases q with q | q | q | q | q | q
 · exact .inl ((hS b).2 (.inl q))
 · exact .inl ((hS b).2 (.inr (.inl q)))
 · exact .inl ((hS b).2 (.inr (.inr (.inl q))))
 · exact .inl ((hS b).2 (.inr (.inr (.inr (.inl q)))))
 · rcases hv with y | ⟨k, y1, y2⟩
   · exact .inl ((hS b).2 (.inr (.inr (.inr (.inr (.inl (y ▸ q)))))))
   · rw [y1] at q; injection q with q; exact .inr (by omega)
 · rcases hP b q with y | y
   · exact .inl ((hS b).2 (.inr (.inr (.inr (.inr (.inr y))))))
   · exact .inr y
set_option maxRecDepth 100000 in
theorem PTo.mk {lb M1 M2 : Nat} {v v' : Value} {P P' : Nat → Prop} {x' : PX} (hS : ∀ b, S b ↔ PSet p lb M1 M2 v P b) (hb : ∀ b, S b → B ≤ b ∧ b < w.heap.size) (h1 : PlB w' p g x'.z x'.fr lb M1 M2 v' false) (h2 : FrV w' v' x'.cl) (h3 : DT w' B g x'.d P') (h4 : LgW w' lb g x'.z x'.c x'.s x'.e x'.q.length false) (h5 : PMap w' M1 x'.N x'.f1) (h6 : PMap w' M2 x'.N x'.f2) (h7 : M1 ≠ M2) (h8 : ¬ P' M1) (h9 : ¬ P' M2)
 (hP : ∀ b, P' b → P b ∨ w.heap.size ≤ b) (hv : v'.ownBlock = v.ownBlock ∨ ∃ k, v'.ownBlock = some k ∧ w.heap.size ≤ k) (f : Fr (PSet p lb M1 M2 v P) w w') : PTo w w' B S p g x' := by
 have hB : B ≤ w.heap.size := by have := (hb p ((hS p).2 (.inl rfl))); omega
 refine ⟨PSet p lb M1 M2 v' P', ⟨lb, M1, M2, v', P', h1, h2, h3, h4, h5, h6, h7, h8, h9, fun b => Iff.rfl, fun b q => ⟨?_, ?_⟩⟩, pset_sub hS hP hv, f.mono (fun b _ q => (hS b).2 q)⟩
 · rcases pset_sub hS hP hv b q with y | y
   · exact (hb b y).1
   · omega
 · rcases q with q | q | q | q | q | q
   · rw [q]; exact h1.lt
   · rw [q]; exact h4.lt
   · rw [q]; exact h5.lt
   · rw [q]; exact h6.lt
   · obtain ⟨bs, ho, _⟩ := h2
     obtain ⟨cs, hbk⟩ := own_blk ho q
     exact hbk.lt
   · exact (h3.1.2 b q).2
set_option maxRecDepth 100000 in
theorem PA.parts (h : PA w B S p g x) : ∃ lb M1 M2 v P, PlB w p g x.z x.fr lb M1 M2 v false ∧ FrV w v x.cl ∧ DT w B g x.d P ∧ LgW w lb g x.z x.c x.s x.e x.q.length false ∧ PMap w M1 x.N x.f1 ∧ PMap w M2 x.N x.f2 ∧ M1 ≠ M2 ∧ ¬ P M1 ∧ ¬ P M2 ∧ (∀ b, S b ↔ PSet p lb M1 M2 v P b) ∧ (∀ b, S b → B ≤ b ∧ b < w.heap.size) ∧ ¬ P p ∧ (∀ b, v.ownBlock = some b → b ≠ p ∧ b ≠ lb ∧ b ≠ M1 ∧ b ≠ M2 ∧ ¬ P b) ∧ lb ≠ p ∧ M1 ≠ p ∧ M2 ≠ p ∧ M1 ≠ lb ∧ M2 ≠ lb ∧ ¬ P lb := by
 obtain ⟨lb, M1, M2, v, P, h1, h2, h3, h4, h5, h6, h7, h8, h9, hS, hb⟩ := h
 refine ⟨lb, M1, M2, v, P, h1, h2, h3, h4, h5, h6, h7, h8, h9, hS, hb, h3.not_t h1 (by decide) (by decide), fun b hk => ?_, h4.ne_ h1 (by decide), h5.ne_blk h1, h6.ne_blk h1, h5.ne_blk h4, h6.ne_blk h4, h3.not_log h4⟩
 obtain ⟨bs, ho, _⟩ := h2
 obtain ⟨cs, hb⟩ := own_blk ho hk
 exact ⟨fun e => own_ne ho h1 (by decide) (by rw [hk, e]), fun e => own_ne ho h4 (by decide) (by rw [hk, e]), fun e => h5.ne_own ho (by rw [hk, e]), fun e => h6.ne_own ho (by rw [hk, e]), h3.not_t hb (by decide) (by decide)⟩
set_option maxRecDepth 100000 in
theorem pa_get_bad (h : PA w B S p g x) (k : x.Ok K) {n : Int} (hn : n < 0 ∨ (x.N : Int) ≤ n) : Calls Tryz.prog 18 #[.pointer (some ⟨p, 0, none⟩), .int .i64 n] w fun e w' => e = .returned (.tuple #[av (nought 512), .int .i64 2]) ∧ PTo w w' B S p g x := by
 obtain ⟨lb, M1, M2, v, P, h1, h2, h3, h4, h5, h6, h7, h8, h9, hS, hb, hpP, hvb, a1, a2, a3, a4, a5, a6⟩ := h.parts
 refine (plget_bad h1 h3.1 hpP n (r := 2) (by rw [k.dd, pcnt_of k]; unfold phasE; rw [if_neg (by decide), if_pos hn]) (by decide)).mono ?_
 rintro e w' ⟨rfl, hp', f⟩
 rw [k.dd] at hp'
 exact ⟨rfl, PTo.mk hS hb hp' (h2.keep f (fun k hk => (hvb k hk).1) (fun b cs hk e => absurd (blk_type (e ▸ hk) h1) (by decide))) (h3.keep' f (fun b q e => hpP (e ▸ q))) (h4.keep f a1) (h5.keep f a2) (h6.keep f a3) h7 h8 h9 (fun b q => .inl q) (.inl rfl) (f.mono (fun b _ e => .inl e))⟩
set_option maxRecDepth 100000 in
theorem pa_put_bad (h : PA w B S p g x) (k : x.Ok K) {n : Int} (hn : n < 0 ∨ (x.N : Int) ≤ n) (y : List UInt8) : Calls Tryz.prog 19 #[.pointer (some ⟨p, 0, none⟩), .int .i64 n, av y] w fun e w' => e = .returned (.int .i64 2) ∧ PTo w w' B S p g x := by
 obtain ⟨lb, M1, M2, v, P, h1, h2, h3, h4, h5, h6, h7, h8, h9, hS, hb, hpP, hvb, a1, a2, a3, a4, a5, a6⟩ := h.parts
 refine (plput_bad h1 h3.1 hpP n (x := y) (r := 2) (by rw [k.dd, pcnt_of k]; unfold phasE; rw [if_neg (by decide), if_pos hn]) (by decide)).mono ?_
 rintro e w' ⟨rfl, hp', f⟩
 rw [k.dd] at hp'
 exact ⟨rfl, PTo.mk hS hb hp' (h2.keep f (fun k hk => (hvb k hk).1) (fun b cs hk e => absurd (blk_type (e ▸ hk) h1) (by decide))) (h3.keep' f (fun b q e => hpP (e ▸ q))) (h4.keep f a1) (h5.keep f a2) (h6.keep f a3) h7 h8 h9 (fun b q => .inl q) (.inl rfl) (f.mono (fun b _ e => .inl e))⟩
set_option maxRecDepth 100000 in
theorem pa_put (h : PA w B S p g x) (k : x.Ok K) {n : Nat} (hn : n < x.N) {y : List UInt8} (hy : y.length = 512) : Calls Tryz.prog 19 #[.pointer (some ⟨p, 0, none⟩), .int .i64 (n : Nat), av y] w fun e w' => e = .returned (.int .i64 0) ∧ PTo w w' B S p g (x.putted n y) := by
 obtain ⟨lb, M1, M2, v, P, h1, h2, h3, h4, h5, h6, h7, h8, h9, hS, hb, hpP, hvb, a1, a2, a3, a4, a5, a6⟩ := h.parts
 have hnM := k.nM
 refine (plput_any h1 h2 h3.1 hpP h5 h6 (by omega) (by rw [k.dd]; rfl) (by rw [pcnt_of k]; exact hn) k.zM (by omega) hn (k.at_len hn) (by have := k.cll; have := k.frM; omega) (by have := k.frM; omega) hy).mono ?_
 rintro e w' ⟨v', rfl, hf', hp', hm', hv', f⟩
 rw [k.ask] at hm'
 refine ⟨rfl, PTo.mk hS hb hp' hf' (h3.keep' f (fun b q e => ?_)) (h4.keep f (fun e => ?_)) hm' (h6.keep f (fun e => ?_)) h7 h8 h9 (fun b q => .inl q) hv' (f.mono (fun b _ q => ?_))⟩
 · rcases e with e | e | e
   · exact hpP (e ▸ q)
   · exact (hvb b e).2.2.2.2 q
   · exact h8 (e ▸ q)
 · rcases e with e | e | e
   · exact a1 e
   · exact (hvb _ e).2.1 rfl
   · exact a4 e.symm
 · rcases e with e | e | e
   · exact a3 e
   · exact (hvb _ e).2.2.2.1 rfl
   · exact h7 e.symm
 · rcases q with q | q | q
   · exact .inl q
   · exact .inr (.inr (.inr (.inr (.inl q))))
   · exact .inr (.inr (.inl q))
set_option maxRecDepth 100000 in
theorem pa_abort (h : PA w B S p g x) (k : x.Ok K) : Calls Tryz.prog 22 #[.pointer (some ⟨p, 0, none⟩)] w fun e w' => e = .returned (.int .i64 0) ∧ PTo w w' B S p g x.aborted := by
 obtain ⟨lb, M1, M2, v, P, h1, h2, h3, h4, h5, h6, h7, h8, h9, hS, hb, hpP, hvb, a1, a2, a3, a4, a5, a6⟩ := h.parts
 refine (plabort_any h1 h3.1 h5 a2).mono ?_
 rintro e w' ⟨rfl, hp', hm', f⟩
 rw [k.dd] at hp' hm'
 refine ⟨by rw [k.dd]; rfl, PTo.mk hS hb hp' (h2.keep f (fun k hk q => q.elim (hvb k hk).1 (hvb k hk).2.2.1) (fun b cs hk e => e.elim (fun e => absurd (blk_type (e ▸ hk) h1) (by decide)) (fun e => h5.ne_blk hk e.symm))) (h3.keep' f (fun b q e => e.elim (fun e => hpP (e ▸ q)) (fun e => h8 (e ▸ q)))) (h4.keep f (fun e => e.elim a1 (fun e => a4 e.symm))) hm' (h6.keep f (fun e => e.elim a3 (fun e => h7 e.symm))) h7 h8 h9 (fun b q => .inl q) (.inl rfl) (f.mono (fun b _ q => q.elim .inl (fun q => .inr (.inr (.inl q)))))⟩
set_option maxRecDepth 100000 in
theorem pa_changed (h : PA w B S p g x) (k : x.Ok K) : Calls Tryz.prog 16 #[.pointer (some ⟨p, 0, none⟩)] w fun e w' => ∃ v, e = .returned v ∧ w'.ownsRow w.heap.size 3 1 v (openF x.f1 x.N).length ((asZ (openF x.f1 x.N)).map encZ) ∧ Fr (fun _ => False) w w' := by
 obtain ⟨lb, M1, M2, v, P, h1, h2, h3, h4, h5, h6, _⟩ := h.parts
 exact plchanged_any h1 h5 (by have := k.nM; omega)
set_option maxRecDepth 100000 in
theorem pa_dirty (h : PA w B S p g x) (k : x.Ok K) : Calls Tryz.prog 17 #[.pointer (some ⟨p, 0, none⟩)] w fun e w' => ∃ v, e = .returned v ∧ w'.ownsRow w.heap.size 3 1 v (openF x.f2 x.N).length ((asZ (openF x.f2 x.N)).map encZ) ∧ Fr (fun _ => False) w w' := by
 obtain ⟨lb, M1, M2, v, P, h1, h2, h3, h4, h5, h6, _⟩ := h.parts
 exact pldirty_any h1 h6 (by have := k.nM; omega)
set_option maxRecDepth 100000 in
theorem pa_room (h : PA w B S p g x) (k : x.Ok K) : Calls Tryz.prog 25 #[.pointer (some ⟨p, 0, none⟩)] w fun e w' => e = .returned (.int .i64 ((x.z - x.e : Nat) : Int)) ∧ Fr (fun _ => False) w w' := by
 obtain ⟨lb, M1, M2, v, P, h1, h2, h3, h4, h5, h6, _⟩ := h.parts
 refine (plroom_any h1 h4 k.life.ri.says.2.2 k.zM).mono ?_
 rintro e w' ⟨rfl, rfl⟩
 exact ⟨rfl, (Fr.refl _ _).drew⟩
set_option maxRecDepth 100000 in
theorem pa_pages (h : PA w B S p g x) (k : x.Ok K) : Calls Tryz.prog 28 #[.pointer (some ⟨p, 0, none⟩)] w fun e w' => e = .returned (.int .i64 (x.N : Nat)) ∧ Fr (fun _ => False) w w' := by
 obtain ⟨lb, M1, M2, v, P, h1, h2, h3, h4, h5, h6, _⟩ := h.parts
 refine (plpages_any h1 h3.1).mono ?_
 rintro e w' ⟨rfl, rfl⟩
 exact ⟨by rw [pcnt_of k], (Fr.refl _ _).drew⟩
set_option maxRecDepth 100000 in
theorem pa_count (h : PA w B S p g x) (k : x.Ok K) : Calls Tryz.prog 32 #[.pointer (some ⟨g, 0, none⟩), .int .i64 (x.z : Nat)] w fun e w' => e = .returned (.int .i64 (x.N : Nat)) ∧ w = w' := by
 obtain ⟨lb, M1, M2, v, P, h1, h2, h3, h4, h5, h6, _⟩ := h.parts
 refine (pcount_any h3.1 (x.z : Nat)).mono ?_
 rintro e w' ⟨rfl, rfl⟩
 exact ⟨by rw [pcnt_of k], rfl⟩
end
end Go.Proofs.YtcnlgbjkjlbmbaaGreat

namespace Go.Proofs.YtcnlgbjkjlbmbaaGreat
open Go.RowKit

section
variable {x : PX} {K : Nat}
set_option maxRecDepth 100000 in
theorem PX.Ok.mono {K' : Nat} (h : x.Ok K) (hK : K ≤ K') : x.Ok K' := { h with life := ⟨h.life.ri, h.life.nw, Nat.le_trans h.life.cK hK⟩ }
def PX.com (x : PX) : PX := if x.need ≤ x.z - x.e then x.comm else x.ckpt.comm
def PX.comOk (x : PX) : Bool := if x.need ≤ x.z - x.e then x.cmOk else x.ckOk && x.ckpt.cmOk
def PX.comD (x : PX) : DS := if x.need ≤ x.z - x.e then x.comm.d else if x.ckOk = true then x.ckpt.comm.d else x.ckpt.d
set_option maxRecDepth 100000 in
theorem PX.comD_ok (ok : x.comOk = true) : x.comD = x.com.d := by
 unfold PX.comD PX.com
 unfold PX.comOk at ok
 split
 · rfl
 · rename_i hq
   rw [if_neg hq, Bool.and_eq_true] at ok
   rw [if_pos ok.1]
set_option maxRecDepth 100000 in
theorem PX.Ok.com (h : x.Ok K) (hK : K + 1 < maxC) (h1 : 1 ≤ x.m) (h6 : x.m ≤ 60) (hz : x.need ≤ x.z) (ok : x.comOk = true) : x.com.Ok (K + 1) ∧ ∀ n, n < x.N → x.com.C n = x.V n := by
 have hcK := h.life.cK
 unfold PX.com
 unfold PX.comOk at ok
 split
 · rename_i hq
   rw [if_pos hq] at ok
   have := h.comm (by omega) h1 h6 hq ok
   exact ⟨this.1.mono (by omega), fun n _ => this.2 n⟩
 · rename_i hq
   rw [if_neg hq, Bool.and_eq_true] at ok
   have h2 := (h.mono (Nat.le_succ K)).ckpt (by omega) (by omega) ok.1
   have h3 := h2.1.comm (by show x.c + 1 ≤ maxC; omega) h1 h6 (by show x.need ≤ x.z - 0; omega) ok.2
   refine ⟨h3.1, fun n hn => ?_⟩
   rw [h3.2 n]
   unfold PX.V
   rw [h2.2 n hn]
   rfl
set_option maxRecDepth 100000 in
theorem PX.Ok.rest (h : x.Ok K) : ∀ y ∈ x.cl, y.1 ≤ 8192 := fun y hy => by have := (h.cl y hy).1; have := h.nM; omega
end
section
variable {w w' : World} {B p g K : Nat} {S G : Nat → Prop} {x : PX}
def PGone (w w' : World) (B : Nat) (S : Nat → Prop) (p g : Nat) (d : DS) : Prop := ∃ S', PDd w' B S' p g d ∧ (∀ b, S' b → S b ∨ w.heap.size ≤ b) ∧ Fr S w w'
set_option maxRecDepth 100000 in
theorem PGone.mk {lb M1 M2 z fr : Nat} {v v' : Value} {P P' : Nat → Prop} {d : DS} (hS : ∀ b, S b ↔ PSet p lb M1 M2 v P b) (hb : ∀ b, S b → B ≤ b ∧ b < w.heap.size) (h1 : PlB w' p g z fr lb M1 M2 v' true) (h3 : DT w' B g d P') (hv : v'.ownBlock = v.ownBlock) (hP : ∀ b, P' b → P b ∨ w.heap.size ≤ b) (f : Fr (PSet p lb M1 M2 v P) w w') : PGone w w' B S p g d := by
 have hB : B ≤ w.heap.size := by have := (hb p ((hS p).2 (.inl rfl))); omega
 refine ⟨PSet p lb M1 M2 v' P', ⟨z, fr, lb, M1, M2, v', P', h1, h3, fun b => Iff.rfl, fun b q => ⟨?_, ?_⟩⟩, pset_sub hS hP (.inl hv), f.mono (fun b _ q => (hS b).2 q)⟩
 · rcases pset_sub hS hP (.inl hv) b q with y | y
   · exact (hb b y).1
   · omega
 · have hlt : ∀ b, S b → b < w'.heap.size := fun b q => Nat.lt_of_lt_of_le (hb b q).2 f.size
   rcases q with q | q | q | q | q | q
   · exact hlt b ((hS b).2 (.inl q))
   · exact hlt b ((hS b).2 (.inr (.inl q)))
   · exact hlt b ((hS b).2 (.inr (.inr (.inl q))))
   · exact hlt b ((hS b).2 (.inr (.inr (.inr (.inl q)))))
   · exact hlt b ((hS b).2 (.inr (.inr (.inr (.inr (.inl (hv ▸ q)))))))
   · exact (h3.1.2 b q).2
set_option maxRecDepth 100000 in
theorem pa_commit_no (h : PA w B S p g x) (k : x.Ok K) (hno : x.m = 0 ∨ 60 < x.m ∨ x.z < x.need) : Calls Tryz.prog 21 #[.pointer (some ⟨p, 0, none⟩)] w fun e w' => e = .returned (.int .i64 (if x.m = 0 then 0 else if 60 < x.m then 3 else 8)) ∧ PTo w w' B S p g x := by
 obtain ⟨lb, M1, M2, v, P, h1, h2, h3, h4, h5, h6, h7, h8, h9, hS, hb, hpP, hvb, a1, a2, a3, a4, a5, a6⟩ := h.parts
 refine (plct_no h1 h3.1 h5 (by rw [k.dd]; rfl) k.zM (by have := k.nM; omega) hno).mono ?_
 rintro e w' ⟨rfl, hp', f⟩
 exact ⟨rfl, PTo.mk hS hb hp' (h2.keep f (fun k hk => (hvb k hk).1) (fun b cs hk e => absurd (blk_type (e ▸ hk) h1) (by decide))) (h3.keep' f (fun b q e => hpP (e ▸ q))) (h4.keep f a1) (h5.keep f a2) (h6.keep f a3) h7 h8 h9 (fun b q => .inl q) (.inl rfl) (f.mono (fun b _ e => .inl e))⟩
set_option maxRecDepth 100000 in
set_option maxHeartbeats 4000000 in
theorem pa_commit_go (h : PA w B S p g x) (k : x.Ok K) (hK : K + 1 < maxC) (h1m : 1 ≤ x.m) (h6m : x.m ≤ 60) (hzn : x.need ≤ x.z) : Calls Tryz.prog 21 #[.pointer (some ⟨p, 0, none⟩)] w fun e w' => e = .returned (.int .i64 (if x.comOk then 0 else 10)) ∧ (x.comOk = true → PTo w w' B S p g x.com) ∧ (x.comOk = false → PGone w w' B S p g x.comD) := by
 obtain ⟨lb, M1, M2, v, P, h1, h2, h3, h4, h5, h6, h7, h8, h9, hS, hb, hpP, hvb, a1, a2, a3, a4, a5, a6⟩ := h.parts
 have hcK := k.life.cK
 have hne := k.need_eq h1m h6m
 have hez := k.life.ri.says.2.2
 have hzM := k.zM
 have hpset : ∀ b, (P b ∨ b = lb ∨ b = p ∨ b = M1 ∨ b = M2 ∨ v.ownBlock = some b) → PSet p lb M1 M2 v P b := fun b q => by
  rcases q with q | q | q | q | q | q
  · exact .inr (.inr (.inr (.inr (.inr q))))
  · exact .inr (.inl q)
  · exact .inl q
  · exact .inr (.inr (.inl q))
  · exact .inr (.inr (.inr (.inl q)))
  · exact .inr (.inr (.inr (.inr (.inl q))))
 refine (plct_go (R := fun r v' w' => r = (if x.comOk then 0 else 10) ∧ PlB w' p g x.z x.fr lb M1 M2 v' false ∧ v'.ownBlock = v.ownBlock ∧ (x.comOk = true → LgW w' lb g x.com.z x.com.c x.com.s x.com.e x.com.q.length false ∧ PMap w' M1 x.com.N x.com.f1 ∧ PMap w' M2 x.com.N x.com.f2 ∧ FrV w' v' x.com.cl) ∧ (∃ P', DT w' B g x.comD P' ∧ ∀ b, P' b → P b ∨ w.heap.size ≤ b) ∧ Fr (PSet p lb M1 M2 v P) w w') h1 h3.1 h4 h5 (by rw [k.dd]; rfl) hzM (by have := k.nM; omega) hez (by omega) h1m h6m hzn ?_).mono ?_
 · intro w2 hp2 f2
   have g2 := h2.keep f2 (fun k hk => (hvb k hk).1) (fun b cs hk e => absurd (blk_type (e ▸ hk) h1) (by decide))
   have g3 := h3.keep' f2 (fun b q e => hpP (e ▸ q))
   have g4 := h4.keep f2 a1
   have g5 := h5.keep f2 a2
   have g6 := h6.keep f2 a3
   have hs2 := f2.size
   have hfc : Fr (PSet p lb M1 M2 v P) w w2 := f2.mono (fun b _ e => .inl e)
   by_cases hroom : x.need ≤ x.z - x.e
   · have ecom : x.com = x.comm := by unfold PX.com; rw [if_pos hroom]
     have eok : x.comOk = x.cmOk := by unfold PX.comOk; rw [if_pos hroom]
     have eD : x.comD = x.comm.d := by unfold PX.comD; rw [if_pos hroom]
     refine (plcommit_a hp2 g2 g3 k.life.ri g4 h8 h9 g5 g6 h7 k.nM hzM (by have := k.cll; have := k.frM; omega) k.rest (k.may h1m h6m) hne (show x.need ≤ 5000 by omega) (k.mayT (by omega)) hroom).mono ?_
     rintro en w' ⟨v', rfl, q1, q2, q3, ⟨P', q4, q5⟩, q6⟩
     rw [eok, ecom, eD]
     refine ⟨v', _, rfl, q1, rfl, q1, q2, fun ok => ?_, ⟨P', q4, fun b hb => (q5 b hb).imp_right (fun e => by omega)⟩, hfc.trans q6 (fun b _ q => hpset b q)⟩
     obtain ⟨j1, j2, j3, j4⟩ := q3 ok
     refine ⟨?_, j2, j3, j4⟩
     have : (x.q ++ [(x.c, x.r)]).length = x.q.length + 1 := by simp
     show LgW w' lb g x.z x.c x.s (x.e + x.need) (x.q ++ [(x.c, x.r)]).length false
     rw [this]
     exact j1
   · have ecom : x.com = x.ckpt.comm := by unfold PX.com; rw [if_neg hroom]
     have eok : x.comOk = (x.ckOk && x.ckpt.cmOk) := by unfold PX.comOk; rw [if_neg hroom]
     have eD : x.comD = if x.ckOk = true then x.ckpt.comm.d else x.ckpt.d := by unfold PX.comD; rw [if_neg hroom]
     have hmt : Proofs.YtcnlgbjkjlbmbaaGreat.mayT (x.c + 1) ((0 : Nat) : Int) = true := by
      unfold Proofs.YtcnlgbjkjlbmbaaGreat.mayT
      simp only [Bool.and_eq_true, decide_eq_true_eq]
      simp only [maxC] at hK
      omega
     refine (plcommit_b hp2 g2 g3 k.life.ri g4 h8 h9 g5 g6 h7 k.nM hzM (by have := k.cll; have := k.frM; omega) k.rest (k.may h1m h6m) hne (show x.need ≤ 5000 by omega) hmt (by omega) k.len (Nat.lt_of_not_le hroom) hzn).mono ?_
     rintro en w' ⟨v', rfl, q1, q2, q3, ⟨P', q4, q5⟩, q6⟩
     rw [eok, ecom, eD]
     exact ⟨v', _, rfl, q1, rfl, q1, q2, q3, ⟨P', q4, fun b hb => (q5 b hb).imp_right (fun e => by omega)⟩, hfc.trans q6 (fun b _ q => hpset b q)⟩
 · rintro e w' ⟨v', r, w1, rfl, ⟨rfl, q0, q2, q3, ⟨P', q4, q5⟩, q6⟩, q7, f7⟩
   have hvp : ∀ k, v'.ownBlock = some k → k ≠ p := fun k hk => (hvb k (q2 ▸ hk)).1
   have hpP' : ¬ P' p := q4.not_t q0 (by decide) (by decide)
   have hsz := q6.size
   have hfin : Fr (PSet p lb M1 M2 v P) w w' := q6.trans f7 (fun b _ e => .inl e)
   have hM1w : M1 < w.heap.size := h5.lt
   have hM2w : M2 < w.heap.size := h6.lt
   refine ⟨rfl, fun ok => ?_, fun bad => ?_⟩
   · obtain ⟨j1, j2, j3, j4⟩ := q3 ok
     rw [ok] at q7
     have eD := PX.comD_ok ok
     rw [eD] at q4
     have ez : x.com.z = x.z := by unfold PX.com; split <;> rfl
     have ef : x.com.fr = x.fr := by unfold PX.com; split <;> rfl
     refine PTo.mk hS hb (by rw [ez, ef]; exact q7) (j4.keep f7 hvp (fun b cs hk e => absurd (blk_type (e ▸ hk) q0) (by decide))) (q4.keep' f7 (fun b q e => hpP' (e ▸ q))) (j1.keep f7 a1) (j2.keep f7 a2) (j3.keep f7 a3) h7 (fun q => ?_) (fun q => ?_) q5 (.inl q2) hfin
     · rcases q5 _ q with y | y
       · exact h8 y
       · omega
     · rcases q5 _ q with y | y
       · exact h9 y
       · omega
   · rw [bad] at q7
     exact PGone.mk hS hb q7 (q4.keep' f7 (fun b q e => hpP' (e ▸ q))) q2 q5 hfin
set_option maxRecDepth 100000 in
theorem pa_ckpt_busy (h : PA w B S p g x) (k : x.Ok K) (hK : K < maxC) (h1m : 1 ≤ x.m) : Calls Tryz.prog 23 #[.pointer (some ⟨p, 0, none⟩)] w fun e w' => e = .returned (.int .i64 17) ∧ PTo w w' B S p g x := by
 obtain ⟨lb, M1, M2, v, P, h1, h2, h3, h4, h5, h6, h7, h8, h9, hS, hb, hpP, hvb, a1, a2, a3, a4, a5, a6⟩ := h.parts
 refine (plce_busy h1 h3.1 h4 h5 (by rw [k.dd]; rfl) (by have := k.life.cK; omega) h1m).mono ?_
 rintro e w' ⟨rfl, hp', f⟩
 exact ⟨rfl, PTo.mk hS hb hp' (h2.keep f (fun k hk => (hvb k hk).1) (fun b cs hk e => absurd (blk_type (e ▸ hk) h1) (by decide))) (h3.keep' f (fun b q e => hpP (e ▸ q))) (h4.keep f a1) (h5.keep f a2) (h6.keep f a3) h7 h8 h9 (fun b q => .inl q) (.inl rfl) (f.mono (fun b _ e => .inl e))⟩
set_option maxRecDepth 100000 in
set_option maxHeartbeats 4000000 in
theorem pa_ckpt_go (h : PA w B S p g x) (k : x.Ok K) (hK : K < maxC) (h0m : x.m = 0) : Calls Tryz.prog 23 #[.pointer (some ⟨p, 0, none⟩)] w fun e w' => e = .returned (.int .i64 (if x.ckOk then 0 else 10)) ∧ (x.ckOk = true → PTo w w' B S p g x.ckpt) ∧ (x.ckOk = false → PGone w w' B S p g x.ckpt.d) := by
 obtain ⟨lb, M1, M2, v, P, h1, h2, h3, h4, h5, h6, h7, h8, h9, hS, hb, hpP, hvb, a1, a2, a3, a4, a5, a6⟩ := h.parts
 have hcK := k.life.cK
 refine (plce_go (R := fun r w' => r = (if x.ckOk then 0 else 10) ∧ PlB w' p g x.z x.fr lb M1 M2 v false ∧ (x.ckOk = true → LgW w' lb g x.z (x.c + 1) (x.c + 1) 0 0 false ∧ PMap w' M2 x.N (fun _ => [])) ∧ (∃ P', DT w' B g x.ckpt.d P' ∧ ∀ b, P' b → P b ∨ w.heap.size ≤ b) ∧ Fr (fun b => P b ∨ b = lb ∨ b = M2 ∨ b = p) w w') h1 h3.1 h4 h5 (by rw [k.dd]; rfl) (by omega) h0m ?_).mono ?_
 · intro w2 hp2 f2
   have hs2 := f2.size
   refine (plckpt_any hp2 (h3.keep' f2 (fun b q e => hpP (e ▸ q))) k.life.ri (h4.keep f2 a1) hpP h9 (h6.keep f2 a3) k.nM k.zM k.len (by omega)).mono ?_
   rintro en w' ⟨rfl, q1, q2, ⟨P', q3, q4⟩, q5⟩
   refine ⟨_, rfl, q1, rfl, q1, q2, ⟨P', q3, fun b hb => (q4 b hb).imp_right (fun e => by omega)⟩, (f2.mono (fun b _ e => .inr (.inr (.inr e)))).trans q5 (fun b _ q => q.elim .inl (fun q => q.elim (fun e => .inr (.inl e)) (fun e => .inr (.inr (.inl e)))))⟩
 · rintro e w' ⟨r, w1, rfl, ⟨rfl, q0, q3, ⟨P', q4, q5⟩, q6⟩, q7, f7⟩
   have hpP' : ¬ P' p := q4.not_t q0 (by decide) (by decide)
   have hM1w : M1 < w.heap.size := h5.lt
   have hM2w : M2 < w.heap.size := h6.lt
   have hfin : Fr (PSet p lb M1 M2 v P) w w' := (q6.mono (fun b _ q => by
    rcases q with q | q | q | q
    · exact .inr (.inr (.inr (.inr (.inr q))))
    · exact .inr (.inl q)
    · exact .inr (.inr (.inr (.inl q)))
    · exact .inl q)).trans f7 (fun b _ e => .inl e)
   have hnv : ∀ b, v.ownBlock = some b → ¬ (P b ∨ b = lb ∨ b = M2 ∨ b = p) := fun b hk q => by
    have := hvb b hk
    rcases q with q | q | q | q
    · exact this.2.2.2.2 q
    · exact this.2.1 q
    · exact this.2.2.2.1 q
    · exact this.1 q
   refine ⟨rfl, fun ok => ?_, fun bad => ?_⟩
   · obtain ⟨j1, j3⟩ := q3 ok
     rw [ok] at q7
     have hfr1 := h2.keep q6 hnv (fun b cs hk q => by
      rcases q with q | q | q | q
      · exact h3.not_t hk (by decide) (by decide) q
      · exact absurd (blk_type (q ▸ hk) h4) (by decide)
      · exact h6.ne_blk hk q.symm
      · exact absurd (blk_type (q ▸ hk) h1) (by decide))
     have hm1 := h5.keep q6 (fun q => by
      rcases q with q | q | q | q
      · exact h8 q
      · exact a4 q
      · exact h7 q
      · exact a2 q)
     refine PTo.mk (x' := x.ckpt) hS hb q7 (hfr1.keep f7 (fun k hk => (hvb k hk).1) (fun b cs hk e => absurd (blk_type (e ▸ hk) q0) (by decide))) (q4.keep' f7 (fun b q e => hpP' (e ▸ q))) (j1.keep f7 a1) (hm1.keep f7 a2) (j3.keep f7 a3) h7 (fun q => ?_) (fun q => ?_) q5 (.inl rfl) hfin
     · rcases q5 _ q with y | y
       · exact h8 y
       · omega
     · rcases q5 _ q with y | y
       · exact h9 y
       · omega
   · rw [bad] at q7
     exact PGone.mk hS hb q7 (q4.keep' f7 (fun b q e => hpP' (e ▸ q))) rfl q5 hfin
end
end Go.Proofs.YtcnlgbjkjlbmbaaGreat

namespace Go.Proofs.YtcnlgbjkjlbmbaaGreat
open Go.RowKit

set_option maxRecDepth 100000 in
theorem redoF_ok {N : Nat} : ∀ (cs : List Chg) (f : Nat → List UInt8), (∀ x ∈ cs, x.p.length = 512 ∧ 0 ≤ x.n) → (∀ n, f n ≠ [] → n < N ∧ (f n).length = 512) → ∀ n, redoF N f cs n ≠ [] → n < N ∧ (redoF N f cs n).length = 512
 | [], f, _, hf => hf
 | x :: cs, f, hx, hf => by
   refine redoF_ok cs (if x.n < (N : Int) then upd f x.n.toNat x.p else f) (fun y hy => hx y (by simp [hy])) ?_
   split
   · intro n hn
     by_cases hnx : n = x.n.toNat
     · subst hnx
       rw [upd_self]
       have := (hx x (by simp)).2
       exact ⟨by omega, (hx x (by simp)).1⟩
     · rw [upd_ne hnx] at hn ⊢
       exact hf n hn
   · exact hf
structure DR (d : DS) (z c s : Nat) (q : List (Nat × List Chg)) (e N K : Nat) : Prop where
 ri : RI d z c s q e
 cK : c ≤ K
 z4 : 4 ≤ z
 zM : z ≤ 4000
 nN : N = pcnt d.rd.length (z : Nat)
 n4 : 4 ≤ N
 nM : N ≤ 2000
 len : 1 + z + 4 * N ≤ d.rd.length
def CD (d : DS) (z N : Nat) (q : List (Nat × List Chg)) (n : Nat) : List UInt8 := if rdF N q n ≠ [] then rdF N q n else pgAt d z n
def opX (d : DS) (z fr c s e N : Nat) (q : List (Nat × List Chg)) : PX := ⟨d.settle 0 [hdS (c + 1) s], z, fr, c + 1, s, e, q, N, fun _ => [], rdF N q, []⟩
def opP (d : DS) (z fr c s e N : Nat) (q : List (Nat × List Chg)) : PX := if q = [] then ⟨d.settle 0 [hdS (c + 1) s], z, fr, c + 1, s, 0, [], N, fun _ => [], fun _ => [], []⟩ else (opX d z fr c s e N q).ckpt
section
variable {d : DS} {z fr c s e N K : Nat} {q : List (Nat × List Chg)}
set_option maxRecDepth 100000 in
theorem RI.rdF_ok (h : RI d z c s q e) (N : Nat) : ∀ n, rdF N q n ≠ [] → n < N ∧ (rdF N q n).length = 512 :=
 redoF_ok _ _ (fun x hx => by
  obtain ⟨r, hr, hxr⟩ := List.mem_flatten.1 hx
  have hmay := laid_may h.laid r hr
  exact ⟨hmay.2 x hxr, (may_nums hmay.1 x hxr).1⟩) (fun n hn => absurd rfl hn)
set_option maxRecDepth 100000 in
theorem DR.opens (h : DR d z c s q e N K) (hK : K < maxC) (h2 : 2 ≤ fr) (hM : fr ≤ 100) (ok : d.settles 0 [hdS (c + 1) s] = true) : (opX d z fr c s e N q).Ok (K + 1) ∧ ∀ n, n < N → (opX d z fr c s e N q).C n = CD d z N q n := by
 have hc := h.cK
 have hl : (d.settle 0 [hdS (c + 1) s]).rd.length = d.rd.length := settle_len _ _ _
 refine ⟨⟨settle_ddf ok, LifeS.opens h.ri (by omega) (by omega) ok, h.z4, h.zM, h2, hM, by show N = pcnt (d.settle 0 [hdS (c + 1) s]).rd.length _; rw [hl]; exact h.nN, h.n4, h.nM, by show 1 + z + 4 * N ≤ (d.settle 0 [hdS (c + 1) s]).rd.length; rw [hl]; exact h.len, fun n hn => absurd rfl hn, rfl, h.ri.rdF_ok N, (fun y hy => by cases hy), Nat.zero_le _⟩, fun n hn => ?_⟩
 show (if rdF N q n ≠ [] then rdF N q n else pgAt (d.settle 0 [hdS (c + 1) s]) z n) = _
 rw [pgAt_head h.ri.all (hdS_len _ _) (by have := h.len; omega) ok]
 rfl
set_option maxRecDepth 100000 in
theorem DR.opened (h : DR d z c s q e N K) (hK : K + 1 < maxC) (h2 : 2 ≤ fr) (hM : fr ≤ 100) (ok : opOk d z c s N q = true) : (opP d z fr c s e N q).Ok (K + 2) ∧ (∀ n, n < N → (opP d z fr c s e N q).C n = CD d z N q n) ∧ (opP d z fr c s e N q).d = opD d z c s N q := by
 unfold opOk at ok
 rw [Bool.and_eq_true] at ok
 have hc := h.cK
 obtain ⟨h3, h4⟩ := h.opens (fr := fr) (by omega) h2 hM ok.1
 unfold opP opD
 by_cases hq : q = []
 · rw [if_pos hq, if_neg (fun p => p.2 hq)]
   subst hq
   have he : e = 0 := h.ri.laid
   subst he
   exact ⟨h3.mono (by omega), h4, rfl⟩
 · rw [if_neg hq, if_pos ⟨ok.1, hq⟩]
   have ok2 : (opX d z fr c s e N q).ckOk = true := by
    rcases Bool.or_eq_true _ _ ▸ ok.2 with p | p
    · exact absurd (List.isEmpty_iff.1 p) hq
    · exact p
   have h5 := (h3.mono (Nat.le_succ _)).ckpt (by show c + 1 < maxC; omega) (by show c + 1 + 1 ≤ K + 2; omega) ok2
   exact ⟨h5.1, fun n hn => (h5.2 n hn).trans (h4 n hn), rfl⟩
end
section
variable {w : World} {B g z c s e fr N K : Nat} {P : Nat → Prop} {d : DS} {q : List (Nat × List Chg)}
set_option maxRecDepth 100000 in
theorem pa_open (h : DT w B g d P) (k : DR d z c s q e N K) (hK : K + 2 < maxC) (hfr : 2 ≤ fr) (hfr2 : fr ≤ 100) :
 Calls Tryz.prog 14 #[.pointer (some ⟨g, 0, none⟩), .int .i64 (z : Nat), .int .i64 (fr : Nat)] w fun en w' => ∃ v, en = .returned (.tuple #[v, .int .i64 (if opOk d z c s N q then 0 else 10)]) ∧ Fr P w w' ∧
  (opOk d z c s N q = false → v = .pointer none ∧ ∃ P', DT w' B g (opD d z c s N q) P' ∧ ∀ b, P' b → P b ∨ w.heap.size ≤ b) ∧
  (opOk d z c s N q = true → ∃ p S', v = .pointer (some ⟨p, 0, none⟩) ∧ PA w' B S' p g (opP d z fr c s e N q) ∧ ∀ b, S' b → P b ∨ w.heap.size ≤ b) := by
 have hc := k.cK
 refine (plopen_any h k.ri k.z4 k.zM (by omega) hfr hfr2 k.nN k.n4 k.nM (by have := k.ri.few; have := k.zM; omega)).mono ?_
 rintro en w' ⟨P', v, rfl, o1, o2, o3, o4, f⟩
 refine ⟨v, rfl, f, fun bad => ⟨o1 bad, P', o3, o4⟩, fun ok => ?_⟩
 obtain ⟨p, lb, M1, M2, rfl, a1, a2, a3, a4, a5, a6, a7, b1, b2, b3, b4⟩ := o2 ok
 have hB : B ≤ w.heap.size := h.1.g_lt.2
 have hs : ∀ b, PSet p lb M1 M2 (.slice none 0 0) P' b → P b ∨ w.heap.size ≤ b := fun b hb => by
  rcases hb with e | e | e | e | e | e
  · exact .inr (by omega)
  · exact .inr (by omega)
  · exact .inr (by omega)
  · exact .inr (by omega)
  · cases e
  · exact o4 b e
 have hdd := (k.opened (fr := fr) (by omega) hfr hfr2 ok).2.2
 have hb : ∀ b, PSet p lb M1 M2 (.slice none 0 0) P' b → B ≤ b ∧ b < w'.heap.size := fun b hb => by
  refine ⟨?_, ?_⟩
  · rcases hs b hb with e | e
    · exact (h.1.2 b e).1
    · omega
  · rcases hb with e | e | e | e | e | e
    · rw [e]; exact b1.lt
    · rw [e]; exact b2.lt
    · rw [e]; exact b3.lt
    · rw [e]; exact b4.lt
    · cases e
    · exact (o3.1.2 b e).2
 refine ⟨p, PSet p lb M1 M2 (.slice none 0 0) P', rfl, ⟨lb, M1, M2, .slice none 0 0, P', ?_, ?_, by rw [hdd]; exact o3, ?_, ?_, ?_, a5, a6, a7, fun b => Iff.rfl, hb⟩, hs⟩
 · unfold opP; split <;> exact b1
 · have : (opP d z fr c s e N q).cl = [] := by unfold opP; split <;> rfl
   rw [this]
   exact ⟨[], World.ownsRow_nil _ _ _ _, rfl, fun i b c h1 => by simp at h1⟩
 · unfold opP
   split
   · rename_i hq; rw [if_pos hq, if_pos hq] at b2; exact b2
   · rename_i hq; rw [if_neg hq, if_neg hq] at b2; exact b2
 · unfold opP; split <;> exact b3
 · unfold opP; split <;> exact b4
end
set_option maxRecDepth 100000 in
theorem puts_free' : ∀ {ps : List (Nat × List UInt8)} {d : DS}, d.free → (d.puts ps).free
 | [], _, h => h
 | p :: ps, d, h => puts_free' (ps := ps) (d := d.write p.1 p.2) (write_free h p.1 p.2).1
set_option maxRecDepth 100000 in
theorem flushed_free {d : DS} (h : d.free) : d.flushed.free := (settle_free h 0 []).2.1
set_option maxRecDepth 100000 in
theorem ck_free {d : DS} (h : d.free) (z c N : Nat) (f : Nat → List UInt8) : ckOk d z c N f = true ∧ (ckD d z c N f).free := by
 have h1 := puts_free' (ps := pagesW z f (openF f N)) h
 have h2 := flushed_free h1
 have h3 := settle_free h2 0 [hdS (c + 1) (c + 1)]
 unfold ckOk ckD
 rw [free_alive h1, if_pos rfl, Bool.true_and]
 exact ⟨h3.1, h3.2.1⟩
set_option maxRecDepth 100000 in
theorem PX.ck_free {x : PX} (h : x.d.free) : x.ckOk = true ∧ x.ckpt.d.free := Proofs.YtcnlgbjkjlbmbaaGreat.ck_free h _ _ _ _
set_option maxRecDepth 100000 in
theorem PX.cm_free {x : PX} (h : x.d.free) : x.cmOk = true ∧ x.comm.d.free := ⟨(settle_free h _ _).1, (settle_free h _ _).2.1⟩
set_option maxRecDepth 100000 in
theorem PX.com_free {x : PX} (h : x.d.free) : x.comOk = true ∧ x.com.d.free := by
 unfold PX.comOk PX.com
 split
 · exact PX.cm_free h
 · have h1 := PX.ck_free h
   have h2 := PX.cm_free h1.2
   exact ⟨by rw [h1.1, h2.1]; rfl, h2.2⟩
set_option maxRecDepth 100000 in
theorem op_free {d : DS} (h : d.free) (z fr c s e N : Nat) (q : List (Nat × List Chg)) : opOk d z c s N q = true ∧ (opP d z fr c s e N q).d.free := by
 have h1 := settle_free h 0 [hdS (c + 1) s]
 have h2 := Proofs.YtcnlgbjkjlbmbaaGreat.ck_free h1.2.1 z (c + 1) N (rdF N q)
 unfold opOk opP
 refine ⟨by rw [h1.1, h2.1]; simp, ?_⟩
 split
 · exact h1.2.1
 · exact h2.2
set_option maxRecDepth 100000 in
theorem FD.dr {d : DS} {z N C : Nat} (h : FD d z N) (h4 : 4 ≤ z) (hz : z ≤ 4000) (hN : N = 1 + z + 4 * C) (hC : 4 ≤ C) (hM : C ≤ 2000) : DR d z 1 1 [] 0 C 1 ∧ ∀ n, n < C → CD d z C [] n = nought 512 := by
 refine ⟨⟨h.ri, Nat.le_refl _, h4, hz, ?_, hC, hM, by rw [h.len]; omega⟩, fun n hn => h.pg n (by omega)⟩
 rw [h.len]
 unfold pcnt
 rw [if_neg (by omega), Int.toNat_natCast]
 omega
end Go.Proofs.YtcnlgbjkjlbmbaaGreat


