/- P3: laid together out of Vth Vkp Vwt Vwc Vwi Vwl Vwm Vwd Vli Vro Vps Vaf Vlv Vla Vya. -/
import Derived.Deep.Strs
import Derived.Deep.LoopGhost
import Derived.Test.YtcnlgbjkjlbmbaaGreatP2
namespace Go.Proofs.YtcnlgbjkjlbmbaaGreat
open Go.RowKit

def DS.free (d : DS) : Prop := d.fu = false ∧ d.dd = false
set_option maxRecDepth 100000 in
theorem free_alive {d : DS} (h : d.free) : d.alive = true := by simp [DS.alive, deadS, h.1, h.2]
def layL : List (List UInt8) → Nat → List (List UInt8) → List (List UInt8)
 | l, _, [] => l
 | l, i, s :: ss => layL (l.set i s) (i + 1) ss
set_option maxRecDepth 100000 in
theorem write_free {d : DS} (h : d.free) (i : Nat) (s : List UInt8) : (d.write i s).free ∧ (d.write i s).rd = d.rd.set i s := by
 unfold DS.write
 rw [if_pos (free_alive h)]
 refine ⟨⟨h.1, ?_⟩, rfl⟩
 show deadS d.fu d.lf d.dd = false
 simp [deadS, h.1, h.2]
set_option maxRecDepth 100000 in
theorem lay_free {d : DS} (h : d.free) (i : Nat) (ss : List (List UInt8)) : (d.lay i ss).free ∧ (d.lay i ss).rd = layL d.rd i ss := by
 induction ss generalizing d i with
 | nil => exact ⟨h, rfl⟩
 | cons s ss ih =>
   have h1 := write_free h i s
   have h2 := ih h1.1 (i + 1)
   exact ⟨h2.1, by have q := h2.2; rw [h1.2] at q; exact q⟩
set_option maxRecDepth 100000 in
theorem settle_free {d : DS} (h : d.free) (i : Nat) (ss : List (List UInt8)) : d.settles i ss = true ∧ (d.settle i ss).free ∧ (d.settle i ss).rd = layL d.rd i ss ∧ ∀ j, (d.settle i ss).vs j = [] := by
 have h1 := lay_free h i ss
 refine ⟨free_alive h1.1, ?_⟩
 unfold DS.settle DS.flushed
 rw [if_pos (free_alive h1.1)]
 refine ⟨⟨h1.1.1, ?_⟩, h1.2, fun j => rfl⟩
 show deadS (d.lay i ss).fu (d.lay i ss).lf (d.lay i ss).dd = false
 simp [deadS, h1.1.1, h1.1.2]
set_option maxRecDepth 100000 in
theorem layL_len (l : List (List UInt8)) (i : Nat) (ss : List (List UInt8)) : (layL l i ss).length = l.length := by
 induction ss generalizing l i with
 | nil => rfl
 | cons s ss ih => exact (ih _ _).trans List.length_set
set_option maxRecDepth 100000 in
theorem layL_out {l : List (List UInt8)} {i : Nat} {ss : List (List UInt8)} {j : Nat} (h : j < i ∨ i + ss.length ≤ j) : (layL l i ss)[j]? = l[j]? := by
 induction ss generalizing l i with
 | nil => rfl
 | cons s ss ih =>
   simp at h
   show (layL (l.set i s) (i + 1) ss)[j]? = _
   rw [ih (by omega), List.getElem?_set_ne (by omega)]
set_option maxRecDepth 100000 in
theorem layL_in {l : List (List UInt8)} {i : Nat} {ss : List (List UInt8)} {j : Nat} (hl : i + ss.length ≤ l.length) (hj : j < ss.length) : (layL l i ss)[i + j]? = ss[j]? := by
 induction ss generalizing l i j with
 | nil => simp at hj
 | cons s ss ih =>
   simp at hl
   cases j with
   | zero =>
     show (layL (l.set i s) (i + 1) ss)[i]? = some s
     rw [layL_out (by omega), List.getElem?_set_self (by omega)]
   | succ j =>
     have := ih (l := l.set i s) (i := i + 1) (j := j) (by rw [List.length_set]; omega) (by simpa using hj)
     rwa [show i + 1 + j = i + (j + 1) by omega] at this
set_option maxRecDepth 100000 in
theorem hdS_parts (c s : Nat) : (hdS c s).drop 4 = be c 8 ++ (be s 8 ++ nought 108) ∧ (hdS c s).drop 12 = be s 8 ++ nought 108 := by
 have e : hdS c s = markL ++ (be c 8 ++ (be s 8 ++ nought 108)) := by simp [hdS, hd20]
 refine ⟨by rw [e]; rfl, ?_⟩
 rw [e, show (12 : Nat) = 4 + 8 by rfl, ← List.drop_drop]
 show (be c 8 ++ (be s 8 ++ nought 108)).drop 8 = _
 exact List.drop_left' (be_len _ _)
set_option maxRecDepth 100000 in
theorem hdS_nums {c s : Nat} (hc : c ≤ maxC) (hs : s ≤ maxC) : cntOf (hdS c s) = c ∧ sinOf (hdS c s) = s := by
 have h9 : (256 : Nat) ^ 8 = 18446744073709551616 := by decide
 unfold cntOf sinOf
 rw [(hdS_parts c s).1, (hdS_parts c s).2, List.take_left' (be_len _ _), List.take_left' (be_len _ _)]
 unfold maxC at hc hs
 exact ⟨numOf_be c 8 (by omega), numOf_be s 8 (by omega)⟩
set_option maxRecDepth 100000 in
theorem nought_no_hd : isHd (nought 128) = false := by decide +kernel
set_option maxRecDepth 100000 in
theorem bytesR_cons (x : Chg) (r : List Chg) : bytesR (x :: r) = (be x.n.toNat 4 ++ x.p) ++ bytesR r := by simp [bytesR]
set_option maxRecDepth 100000 in
theorem bytesR_drop {r : List Chg} (h : ∀ x ∈ r, x.p.length = 512) : ∀ {k : Nat} {x : Chg}, r[k]? = some x → ∃ more, (bytesR r).drop (516 * k) = (be x.n.toNat 4 ++ x.p) ++ more := by
 induction r with
 | nil => intro k x hx; simp at hx
 | cons y r ih =>
   intro k x hx
   cases k with
   | zero =>
     injection hx with hx
     subst hx
     exact ⟨bytesR r, by rw [Nat.mul_zero, List.drop_zero, bytesR_cons]⟩
   | succ k =>
     obtain ⟨more, hm⟩ := ih (fun z hz => h z (by simp [hz])) hx
     refine ⟨more, ?_⟩
     have hl : (be y.n.toNat 4 ++ y.p).length = 516 := by rw [List.length_append, be_len, h y (by simp)]
     rw [bytesR_cons, show 516 * (k + 1) = 516 + 516 * k by omega, ← List.drop_drop, List.drop_left' hl, hm]
set_option maxRecDepth 100000 in
theorem recOf_bytesR {r : List Chg} (hm : mayR r = true) (h : ∀ x ∈ r, x.p.length = 512) : recOf (bytesR r) = some r := by
 have hl := bytesR_len h
 have hlen := mayR_len hm
 have hok : ∀ x ∈ r, 0 ≤ x.n ∧ x.n ≤ 2147483647 := fun x hx => by
  unfold mayR at hm
  simp only [Bool.and_eq_true, decide_eq_true_eq, List.all_eq_true] at hm
  have := hm.2.2 x hx
  unfold okN at this
  simpa using this
 have hd : (bytesR r).length / 516 = r.length := by omega
 have h9 : (256 : Nat) ^ 4 = 4294967296 := by decide
 have hnum : ∀ k x, r[k]? = some x → numOf (((bytesR r).drop (516 * k)).take 4) = x.n.toNat := fun k x hx => by
  obtain ⟨more, e⟩ := bytesR_drop h hx
  have := hok x (List.mem_of_getElem? hx)
  rw [e, List.append_assoc, List.take_left' (be_len _ _), numOf_be _ _ (by omega)]
 unfold recOf
 rw [hd, if_pos ⟨by omega, hlen.1, hlen.2, fun k hk => by
  obtain ⟨x, hx⟩ : ∃ x, r[k]? = some x := ⟨_, List.getElem?_eq_getElem hk⟩
  have := hok x (List.mem_of_getElem? hx)
  rw [hnum k x hx]
  omega⟩]
 congr 1
 apply List.ext_getElem?
 intro i
 by_cases hi : i < r.length
 · obtain ⟨x, hx⟩ : ∃ x, r[i]? = some x := ⟨_, List.getElem?_eq_getElem hi⟩
   have hxo := hok x (List.mem_of_getElem? hx)
   obtain ⟨more, e⟩ := bytesR_drop h hx
   have hxl := h x (List.mem_of_getElem? hx)
   rw [hx, List.getElem?_map, List.getElem?_range hi]
   have hp : (((bytesR r).drop (516 * i)).drop 4).take 512 = x.p := by
    rw [e, List.append_assoc, List.drop_left' (be_len _ _), List.take_left' hxl]
   show some (chgOf (bytesR r) i) = some x
   unfold chgOf
   rw [hnum i x hx, hp]
   cases x
   simp only [Option.some.injEq, Chg.mk.injEq, and_true]
   simp at hxo
   omega
 · rw [List.getElem?_eq_none (by simp; omega), List.getElem?_eq_none (by omega)]
end Go.Proofs.YtcnlgbjkjlbmbaaGreat

namespace Go.Proofs.YtcnlgbjkjlbmbaaGreat
open Go.RowKit

structure KD (d : DS) (N : Nat) (h : List UInt8) (f : Nat → Option (List UInt8)) : Prop where
 fr : d.free
 vs : ∀ j, (d.vs j).length ≤ 2
 ln : d.rd.length = N
 n0 : 0 < N
 hd : d.rd[0]? = some h
 bd : ∀ j, 1 ≤ j → j < N → d.rd[j]? = f j
set_option maxRecDepth 100000 in
theorem KD.head {d : DS} {N : Nat} {h : List UInt8} {f : Nat → Option (List UInt8)} (k : KD d N h f) : d.head = h := by
 unfold DS.head
 rw [List.getD_eq_getElem?_getD, k.hd]
 rfl
set_option maxRecDepth 100000 in
theorem KD.settle0 {d : DS} {N : Nat} {h x : List UInt8} {f : Nat → Option (List UInt8)} (k : KD d N h f) : d.settles 0 [x] = true ∧ KD (d.settle 0 [x]) N x f := by
 have h1 := settle_free k.fr 0 [x]
 refine ⟨h1.1, h1.2.1, fun j => by rw [h1.2.2.2 j]; exact Nat.zero_le _, by rw [h1.2.2.1, layL_len, k.ln], k.n0, ?_, fun j hj hj2 => ?_⟩
 · rw [h1.2.2.1]
   have := layL_in (l := d.rd) (i := 0) (ss := [x]) (j := 0) (by have := k.ln; have := k.n0; simp; omega) (by simp)
   simpa using this
 · rw [h1.2.2.1, layL_out (by simp; omega)]
   exact k.bd j hj hj2
set_option maxRecDepth 100000 in
theorem KD.settle1 {d : DS} {N i : Nat} {h : List UInt8} {f : Nat → Option (List UInt8)} {ss : List (List UInt8)} (k : KD d N h f) (hi : 1 ≤ i) (hl : i + ss.length ≤ N) : d.settles i ss = true ∧ KD (d.settle i ss) N h (fun j => if i ≤ j ∧ j < i + ss.length then ss[j - i]? else f j) := by
 have h1 := settle_free k.fr i ss
 refine ⟨h1.1, h1.2.1, fun j => by rw [h1.2.2.2 j]; exact Nat.zero_le _, by rw [h1.2.2.1, layL_len, k.ln], k.n0, ?_, fun j hj hj2 => ?_⟩
 · rw [h1.2.2.1, layL_out (by omega)]
   exact k.hd
 · rw [h1.2.2.1]
   by_cases hc : i ≤ j ∧ j < i + ss.length
   · rw [if_pos hc]
     have := layL_in (l := d.rd) (i := i) (ss := ss) (j := j - i) (by rw [k.ln]; exact hl) (by omega)
     rwa [show i + (j - i) = j by omega] at this
   · rw [if_neg hc, layL_out (by omega)]
     exact k.bd j hj hj2
set_option maxRecDepth 100000 in
theorem KD.new {N : Nat} (hN : 0 < N) : KD (newD N) N (nought 128) (fun _ => some (nought 128)) := by
 refine ⟨⟨rfl, rfl⟩, fun j => Nat.zero_le _, by simp [newD], hN, by simp [newD, hN], fun j _ hj => by simp [newD, hj]⟩
set_option maxRecDepth 100000 in
theorem KD.format {d : DS} {N z : Nat} {f : Nat → Option (List UInt8)} (k : KD d N (nought 128) f) (hz : z + 1 ≤ N) : d.formats z = true ∧ KD (d.format z) N (hdS 1 1) (fun j => if 1 ≤ j ∧ j < 1 + z then some (nought 128) else f j) := by
 have hfg : d.forget = d := by
  unfold DS.forget DS.forgetting
  rw [k.head, nought_no_hd]
  rfl
 have h1 := k.settle1 (i := 1) (ss := List.replicate z (nought 128)) (Nat.le_refl _) (by simp; omega)
 have h2 := h1.2.settle0 (x := hdS 1 1)
 unfold DS.formats DS.format
 rw [hfg]
 refine ⟨h2.1, { h2.2 with bd := fun j hj hj2 => ?_ }⟩
 rw [h2.2.bd j hj hj2]
 simp only [List.length_replicate]
 split
 · rename_i hc
   rw [List.getElem?_replicate, if_pos (by omega)]
 · rfl
set_option maxRecDepth 100000 in
theorem anew_any (w : World) {n : Nat} (h0 : 0 < n) (h1 : n ≤ 8192) : Calls Tryz.prog 30 #[.int .i64 n] w fun e w' =>
 ∃ g P, e = .returned (.tuple #[.pointer (some ⟨g, 0, none⟩), .int .i64 0]) ∧ DAt w' w.heap.size P g (newD n) ∧ Fr (fun _ => False) w w' := by
 refine (new_any w h0 h1).mono ?_
 rintro e w1 ⟨rfl, hd, f1⟩
 obtain ⟨P', hP1, hP2⟩ := DAt.of (w := w) (w' := w1) (P := fun _ => False) (B := w.heap.size) ⟨_, _, _, _, hd.mono (fun i hi => .inr hi)⟩ (Nat.le_refl _) (fun b hb => hb.elim) f1.size
 exact ⟨_, P', rfl, hP1, f1⟩
end Go.Proofs.YtcnlgbjkjlbmbaaGreat

namespace Go.Proofs.YtcnlgbjkjlbmbaaGreat

set_option maxRecDepth 100000 in
theorem hv_drop (ss : List (List UInt8)) (a k : Nat) : hv (ss.drop a) k = hv ss (2 * a + k) := by
 unfold hv
 rw [List.getElem?_drop, show (2 * a + k) / 2 = a + k / 2 by omega, show (2 * a + k) % 2 = k % 2 by omega]
def FullAt (body : List (List UInt8)) (a c n : Nat) : Prop := ∃ m, 1 ≤ m ∧ ∀ j, j < m → 2 * a + j < 2 * body.length ∧ hdOf (hv body (2 * a + j)) = ⟨c, n, j, m⟩
set_option maxRecDepth 100000 in
theorem join_full {body : List (List UInt8)} {a : Nat} {b : List UInt8} (h : joinOf (body.drop a) = some b) : FullAt body a (tagAt (body.drop a)).1 (tagAt (body.drop a)).2 := by
 unfold joinOf at h
 cases ht : togAll (body.drop a) with
 | none => rw [ht] at h; cases h
 | some l =>
   unfold togAll at ht
   split at ht
   · cases ht
   · split at ht
     · unfold togOf at ht
       simp only at ht
       split at ht
       · rename_i q
         obtain ⟨q1, q2, q3⟩ := q
         refine ⟨(hdOf (hv (body.drop a) 0)).m, q1, fun j hj => ?_⟩
         have hd := hdEq_iff.1 (List.all_eq_true.1 q3 j (List.mem_range.2 hj))
         rw [List.length_drop] at q2
         refine ⟨by omega, ?_⟩
         rw [← hv_drop]
         exact hd
       · cases ht
     · cases ht
structure Clean (body : List (List UInt8)) (a s n : Nat) : Prop where
 s1 : 1 ≤ s
 num : ∀ k, 2 * a ≤ k → k < 2 * body.length → s ≤ (hdOf (hv body k)).c → (hdOf (hv body k)).n ≤ n
 full : ∀ c, s ≤ c → ¬ FullAt body a c n
set_option maxRecDepth 100000 in
theorem recs_clean {body : List (List UInt8)} {a s n : Nat} (h : Clean body a s n) (c f : Nat) : recsFrom c s f n (body.drop a) = [] := by
 cases f with
 | zero => rfl
 | succ f =>
   rw [recsFrom]
   rcases hj : joinOf (body.drop a) with _ | b
   · rfl
   · show (if _ then _ else _) = _
     split
     · rename_i q
       have hf := join_full hj
       rw [q.1] at hf
       exact absurd hf (h.full _ q.2.1)
     · rfl
def rowH (c n : Nat) (b : List UInt8) (j : Nat) : List UInt8 := tagB ⟨c, n, j, many b.length⟩ (((padB b).drop (48 * j)).take 48)
set_option maxRecDepth 100000 in
theorem rowH_hd {c n : Nat} {b : List UInt8} (hb : b.length ≤ 32768) (hm : mayT c (n : Int) = true) {j : Nat} (hj : j < many b.length) : hdOf (rowH c n b j) = ⟨c, n, j, many b.length⟩ := by
 have hm7 : many b.length ≤ 683 := by unfold many; omega
 have hcn : c ≤ 4611686018427387904 ∧ n ≤ 2147483647 := by unfold mayT at hm; simp at hm; omega
 exact hd_tagB ⟨by show c < _; omega, by show n < _; omega, by show j < _; omega, by show many b.length < _; omega⟩ _
set_option maxRecDepth 100000 in
theorem rowH_at {c n : Nat} {b : List UInt8} (more : List (List UInt8)) {k : Nat} (hk : k < many b.length) : hv (secs (rowB c n b) ((many b.length + 1) / 2) ++ more) k = rowH c n b k := by
 have hp := padB_len b
 have hf : ∀ i, i < many b.length → ((fun i => ((padB b).drop (48 * i)).take 48) i).length = 48 := fun i hi => by
  simp only [List.length_take, List.length_drop]; omega
 rw [hv_secs (by omega), rowB_tags]
 exact tags_at hf hk _
set_option maxRecDepth 100000 in
theorem join_halves {c n : Nat} {b : List UInt8} {ss : List (List UInt8)} (hb : b.length ≤ 32768) (hm : mayT c (n : Int) = true) (hat : ∀ k, k < many b.length → hv ss k = rowH c n b k) (hl : many b.length ≤ 2 * ss.length) : tagAt ss = (c, n) ∧ joinOf ss = some b := by
 have hp := padB_len b
 have hmp := many_pos b.length
 have hhd : ∀ k, k < many b.length → hdOf (hv ss k) = ⟨c, n, k, many b.length⟩ := fun k hk => by rw [hat k hk]; exact rowH_hd hb hm hk
 have h0 := hhd 0 hmp
 have htag : tagAt ss = (c, n) := by unfold tagAt; rw [h0]
 refine ⟨htag, ?_⟩
 have hne : ss ≠ [] := by
  intro e
  rw [e] at hl
  simp at hl
  omega
 have htog : togAll ss = some (padB b) := by
  unfold togAll
  rw [if_neg hne, htag]
  simp only [hm, if_true]
  unfold togOf
  rw [h0]
  simp only
  rw [if_pos]
  · congr 1
    rw [← pieces_cat hp]
    have : ∀ K, K ≤ many b.length → (List.range K).flatMap (fun k => (hv ss k).drop 16) = (List.range K).flatMap (fun i => ((padB b).drop (48 * i)).take 48) := fun K => by
     induction K with
     | zero => intro _; rfl
     | succ K ih =>
       intro hK
       rw [List.range_succ, List.flatMap_append, List.flatMap_append, ih (by omega)]
       simp only [List.flatMap_cons, List.flatMap_nil, List.append_nil]
       rw [hat K (by omega)]
       unfold rowH
       rw [drop_tagB]
    exact this _ (Nat.le_refl _)
  · exact ⟨hmp, hl, List.all_eq_true.2 fun k hk => hdEq_iff.2 (hhd k (List.mem_range.1 hk))⟩
 unfold joinOf
 rw [htog]
 exact con_pad hb
def LaidAt (body : List (List UInt8)) (c s : Nat) : Nat → Nat → List (Nat × List Chg) → Nat → Prop
 | a, _, [], e => e = a
 | a, n, q :: rs, e => mayR q.2 = true ∧ (∀ x ∈ q.2, x.p.length = 512) ∧ s ≤ q.1 ∧ q.1 ≤ c ∧ mayT q.1 (n : Int) = true ∧ (∀ j, j < many (bytesR q.2).length → hv body (2 * a + j) = rowH q.1 n (bytesR q.2) j) ∧ a + needN ((bytesR q.2).length : Nat) ≤ body.length ∧ LaidAt body c s (a + needN ((bytesR q.2).length : Nat)) (n + 1) rs e
set_option maxRecDepth 100000 in
theorem need_many {b : List UInt8} (hb : b.length ≤ 32768) : needN (b.length : Nat) = (many b.length + 1) / 2 := by
 unfold needN
 rw [if_neg (by omega), Int.toNat_natCast]
set_option maxRecDepth 100000 in
theorem bytes_short {r : List Chg} (hm : mayR r = true) (h5 : ∀ x ∈ r, x.p.length = 512) : (bytesR r).length ≤ 32768 := by
 rw [bytesR_len h5]
 have := mayR_len hm
 omega
set_option maxRecDepth 100000 in
theorem recs_laid {body : List (List UInt8)} {c s : Nat} : ∀ {rs : List (Nat × List Chg)} {a n e f : Nat}, LaidAt body c s a n rs e → Clean body e s (n + rs.length) → body.length < f + a → a ≤ body.length →
 (recsFrom c s f n (body.drop a)).map (·.1) = rs.map (·.2) ∧ usedOf (recsFrom c s f n (body.drop a)) + a = e ∧ e ≤ body.length
 | [], a, n, e, f, h, hc, hf, ha => by
   obtain rfl : e = a := h
   rw [List.length_nil, Nat.add_zero] at hc
   rw [recs_clean hc]
   exact ⟨rfl, by simp [usedOf], ha⟩
 | q :: rs, a, n, e, f, h, hc, hf, ha => by
   obtain ⟨h1, h2, h3, h4, h5, h6, h7, h8⟩ := h
   obtain ⟨f, rfl⟩ : ∃ f', f = f' + 1 := ⟨f - 1, by omega⟩
   have hb := bytes_short h1 h2
   have hk := need_many hb
   have hmp := many_pos (bytesR q.2).length
   have hj := join_halves (ss := body.drop a) hb h5 (fun k hk => by rw [hv_drop]; exact h6 k hk) (by rw [List.length_drop]; omega)
   have ih := recs_laid (f := f) h8 (by rw [List.length_cons] at hc; rwa [show n + 1 + rs.length = n + (rs.length + 1) by omega]) (by omega) h7
   have hrec : recsFrom c s (f + 1) n (body.drop a) = (q.2, needN ((bytesR q.2).length : Nat)) :: recsFrom c s f (n + 1) (body.drop (a + needN ((bytesR q.2).length : Nat))) := by
    rw [recsFrom, hj.2]
    show (if (tagAt (body.drop a)).2 = n ∧ s ≤ (tagAt (body.drop a)).1 ∧ (tagAt (body.drop a)).1 ≤ c then _ else _) = _
    rw [hj.1, if_pos ⟨rfl, h3, h4⟩, recOf_bytesR h1 h2]
    show (q.2, needN ((bytesR q.2).length : Nat)) :: recsFrom c s f (n + 1) ((body.drop a).drop (needN ((bytesR q.2).length : Nat))) = _
    rw [List.drop_drop]
   rw [hrec]
   refine ⟨by rw [List.map_cons, List.map_cons, ih.1], ?_, ih.2.2⟩
   have e1 : usedOf ((q.2, needN ((bytesR q.2).length : Nat)) :: recsFrom c s f (n + 1) (body.drop (a + needN ((bytesR q.2).length : Nat)))) = needN ((bytesR q.2).length : Nat) + usedOf (recsFrom c s f (n + 1) (body.drop (a + needN ((bytesR q.2).length : Nat)))) := by simp [usedOf]
   rw [e1]
   have := ih.2.1
   omega
set_option maxRecDepth 100000 in
theorem clean_torn {body body' : List (List UInt8)} {a s n c : Nat} {b : List UInt8} (h : Clean body a s n) (hb : b.length ≤ 32768) (hm : mayT c (n : Int) = true) (hl : body'.length = body.length)
 (hold : ∀ k, 2 * a ≤ k → k < 2 * body.length → (hdOf (hv body k)).c = c → (hdOf (hv body k)).n < n)
 (hmix : ∀ k, k < 2 * body.length → hv body' k = hv body k ∨ (∃ j, k = 2 * a + j ∧ j < many b.length ∧ hv body' k = rowH c n b j) ∨ hv body' k = nought 64)
 (hnot : ∃ j, j < many b.length ∧ hv body' (2 * a + j) ≠ rowH c n b j) : Clean body' a s n := by
 have hz : hdOf (nought 64) = ⟨0, 0, 0, 0⟩ := hd_nought
 refine ⟨h.s1, fun k hk1 hk2 hs => ?_, fun c' hs' hf => ?_⟩
 · rw [hl] at hk2
   rcases hmix k hk2 with q | ⟨j, q1, q2, q3⟩ | q
   · rw [q] at hs ⊢
     exact h.num k hk1 hk2 hs
   · rw [q3, rowH_hd hb hm q2]
     exact Nat.le_refl _
   · rw [q, hz] at hs
     have := h.s1
     simp at hs
     omega
 · obtain ⟨m, hm1, hall⟩ := hf
   have hs1 := h.s1
   by_cases hc : c' = c
   · subst hc
     obtain ⟨j0, hj0, hne⟩ := hnot
     have key : ∀ j, j < m → j < many b.length ∧ hv body' (2 * a + j) = rowH c' n b j ∧ m = many b.length := fun j hj => by
      obtain ⟨k1, k2⟩ := hall j hj
      rw [hl] at k1
      rcases hmix _ k1 with q | ⟨i, q1, q2, q3⟩ | q
      · have h9 := hold _ (by omega) k1
        rw [← q, k2] at h9
        have h8 := h9 rfl
        exact absurd h8 (Nat.lt_irrefl _)
      · obtain rfl : i = j := by omega
        have h9 := k2
        rw [q3, rowH_hd hb hm q2] at h9
        injection h9 with _ _ _ h9
        exact ⟨q2, q3, h9.symm⟩
      · have k3 := k2
        rw [q, hz] at k3
        have k4 : 0 = c' := congrArg Hd.c k3
        omega
     have hmm := (key 0 (by omega)).2.2
     exact hne (key j0 (by omega)).2.1
   · refine h.full c' hs' ⟨m, hm1, fun j hj => ?_⟩
     obtain ⟨k1, k2⟩ := hall j hj
     rw [hl] at k1
     refine ⟨k1, ?_⟩
     rcases hmix _ k1 with q | ⟨i, q1, q2, q3⟩ | q
     · rw [← q]
       exact k2
     · rw [q3, rowH_hd hb hm q2] at k2
       injection k2 with k2
       exact absurd k2.symm hc
     · rw [q, hz] at k2
       injection k2 with k2
       omega
set_option maxRecDepth 100000 in
theorem clean_next {body body' : List (List UInt8)} {a a' s n : Nat} (h : Clean body a s n) (ha : a ≤ a') (hl : body'.length = body.length) (hsame : ∀ k, 2 * a' ≤ k → k < 2 * body.length → hv body' k = hv body k) : Clean body' a' s (n + 1) := by
 have hnum : ∀ k, 2 * a' ≤ k → k < 2 * body'.length → s ≤ (hdOf (hv body' k)).c → (hdOf (hv body' k)).n ≤ n := fun k hk1 hk2 hs => by
  rw [hl] at hk2
  rw [hsame k hk1 hk2] at hs ⊢
  exact h.num k (by omega) hk2 hs
 refine ⟨h.s1, fun k hk1 hk2 hs => Nat.le_succ_of_le (hnum k hk1 hk2 hs), fun c hs hf => ?_⟩
 obtain ⟨m, hm1, hall⟩ := hf
 obtain ⟨k1, k2⟩ := hall 0 (by omega)
 rw [Nat.add_zero] at k1 k2
 have h9 := hnum (2 * a') (Nat.le_refl _) k1 (by rw [k2]; exact hs)
 rw [k2] at h9
 have h8 : n + 1 ≤ n := h9
 omega
set_option maxRecDepth 100000 in
theorem clean_new {body : List (List UInt8)} {s : Nat} (h1 : 1 ≤ s) (hold : ∀ k, k < 2 * body.length → (hdOf (hv body k)).c < s) : Clean body 0 s 0 := by
 refine ⟨h1, fun k _ hk hs => ?_, fun c hs hf => ?_⟩
 · have := hold k hk
   omega
 · obtain ⟨m, hm1, hall⟩ := hf
   obtain ⟨k1, k2⟩ := hall 0 (by omega)
   have := hold _ k1
   rw [k2] at this
   simp at this
   omega
end Go.Proofs.YtcnlgbjkjlbmbaaGreat

namespace Go.Proofs.YtcnlgbjkjlbmbaaGreat
open Go.RowKit Go.Maps

set_option maxRecDepth 100000 in
theorem crash_len (d : DS) (picks : List Int) : (d.crash picks).rd.length = d.rd.length := falls_len _ d
set_option maxRecDepth 100000 in
theorem falls_gone (d : DS) (picks : List Int) : ∀ k, k ≤ d.openL.length → ∀ i, i ∈ d.openL.take k → (d.falls ((d.pairs picks).take k)).vs i = []
 | 0, _, i, hi => by simp at hi
 | k + 1, hk, i, hi => by
   have hl : k < d.openL.length := by omega
   have hp := pairs_at d picks hl
   rw [List.take_add_one, hp, Option.toList_some, falls_snoc]
   simp only [DS.left1, DS.fall]
   by_cases e : i = d.openL[k]
   · rw [if_pos e]
   · rw [if_neg e]
     refine falls_gone d picks k (by omega) i ?_
     rw [List.take_add_one, List.getElem?_eq_getElem hl] at hi
     rcases List.mem_append.1 hi with q | q
     · exact q
     · simp at q
       exact absurd q e
set_option maxRecDepth 100000 in
theorem falls_read (d : DS) (picks : List Int) : ∀ k, k ≤ d.openL.length → ∀ i, (d.falls ((d.pairs picks).take k)).rd.getD i [] = d.rd.getD i [] ∨ (d.vs i ≠ [] ∧ ∃ p : Int, (d.falls ((d.pairs picks).take k)).rd.getD i [] = leftL (d.vs i) (pickN (d.vs i).length p))
 | 0, _, i => .inl rfl
 | k + 1, hk, i => by
   have hl : k < d.openL.length := by omega
   have hp := pairs_at d picks hl
   have hv := falls_next d picks hl
   have hln := falls_len ((d.pairs picks).take k) d
   obtain ⟨h1, h2⟩ := DS.openL_mem.1 (List.getElem_mem hl)
   rw [List.take_add_one, hp, Option.toList_some, falls_snoc]
   simp only [DS.left1, DS.fall, hv]
   by_cases e : i = d.openL[k]
   · right
     rw [e]
     refine ⟨h2, (picks[k]?).getD 0, ?_⟩
     rw [List.getD_eq_getElem?_getD, List.getElem?_set_self (by omega)]
     rfl
   · have := falls_read d picks k (by omega) i
     have e' : d.openL[k] ≠ i := fun q => e q.symm
     rwa [List.getD_eq_getElem?_getD, List.getElem?_set_ne e', ← List.getD_eq_getElem?_getD]
set_option maxRecDepth 100000 in
theorem crash_gone (d : DS) (picks : List Int) {i : Nat} (hi : i < d.rd.length) : (d.crash picks).vs i = [] := by
 show (d.falls (d.pairs picks)).vs i = []
 have h0 : (d.pairs picks).take d.openL.length = d.pairs picks := by rw [← pairs_len d picks]; exact List.take_length
 by_cases hv : d.vs i = []
 · rw [← hv]
   refine falls_vs _ _ _ fun p hp => ?_
   simp only [DS.pairs, List.mem_map] at hp
   obtain ⟨x, hx, rfl⟩ := hp
   have h1 : x.1 ∈ d.openL := by
    have := List.fst_mem_of_mem_zipIdx hx
    exact this
   intro e
   have h2 : x.1 = i := e
   rw [h2] at h1
   exact (DS.openL_mem.1 h1).2 hv
 · have := falls_gone d picks d.openL.length (Nat.le_refl _) i (by rw [List.take_length]; exact DS.openL_mem.2 ⟨hi, hv⟩)
   rwa [h0] at this
set_option maxRecDepth 100000 in
theorem crash_read (d : DS) (picks : List Int) (i : Nat) : (d.crash picks).rd.getD i [] = d.rd.getD i [] ∨ (d.vs i ≠ [] ∧ ∃ p : Int, (d.crash picks).rd.getD i [] = leftL (d.vs i) (pickN (d.vs i).length p)) := by
 have h0 : (d.pairs picks).take d.openL.length = d.pairs picks := by rw [← pairs_len d picks]; exact List.take_length
 have := falls_read d picks d.openL.length (Nat.le_refl _) i
 rwa [h0] at this
set_option maxRecDepth 100000 in
theorem left_parts {vs : List (List UInt8)} (hl : ∀ v ∈ vs, v.length = 128) (h0 : vs ≠ []) (p : Int) : ∃ u ∈ vs, ∃ v ∈ vs, (leftL vs (pickN vs.length p)).take 64 = u.take 64 ∧ (leftL vs (pickN vs.length p)).drop 64 = v.drop 64 := by
 have h1 : 0 < vs.length := List.length_pos_iff.2 h0
 have hp : pickN vs.length p < 2 * vs.length - 1 := by
  unfold pickN
  have h1 := Int.emod_nonneg p (b := ((2 * vs.length - 1 : Nat) : Int)) (by omega)
  have h2 := Int.emod_lt_of_pos p (b := ((2 * vs.length - 1 : Nat) : Int)) (by omega)
  omega
 generalize pickN vs.length p = q at hp
 have hg : ∀ j, j < vs.length → vs.getD j [] ∈ vs := fun j hj => by
  rw [List.getD_eq_getElem?_getD, List.getElem?_eq_getElem hj]
  exact List.getElem_mem hj
 unfold leftL
 split
 · have m1 := hg ((q + 1) / 2) (by omega)
   have m2 := hg ((q + 1) / 2 - 1) (by omega)
   refine ⟨_, m1, _, m2, ?_, ?_⟩
   · unfold tornL
     rw [List.take_append_of_le_length (by rw [List.length_take, hl _ m1]; omega), List.take_take]
     simp
   · unfold tornL
     have h64 : ((vs.getD ((q + 1) / 2) []).take 64).length = 64 := by rw [List.length_take, hl _ m1]; omega
     exact List.drop_left' h64
 · have m1 := hg ((q + 1) / 2) (by omega)
   exact ⟨_, m1, _, m1, rfl, rfl⟩
set_option maxRecDepth 100000 in
theorem getD_set_self {l : List (List UInt8)} {i : Nat} {s : List UInt8} (h : i < l.length) : (l.set i s).getD i [] = s := by
 rw [List.getD_eq_getElem?_getD, List.getElem?_set_self h]
 rfl
set_option maxRecDepth 100000 in
theorem getD_set_ne {l : List (List UInt8)} {i j : Nat} {s : List UInt8} (h : i ≠ j) : (l.set i s).getD j [] = l.getD j [] := by
 rw [List.getD_eq_getElem?_getD, List.getElem?_set_ne h, ← List.getD_eq_getElem?_getD]
set_option maxRecDepth 100000 in
theorem lay_low {ss : List (List UInt8)} : ∀ {d : DS} {i j : Nat}, j < i → (d.lay i ss).vs j = d.vs j ∧ (d.lay i ss).rd.getD j [] = d.rd.getD j [] := by
 induction ss with
 | nil => intro d i j _; exact ⟨rfl, rfl⟩
 | cons s ss ih =>
   intro d i j hj
   have h1 := ih (d := d.write i s) (i := i + 1) (j := j) (by omega)
   refine ⟨h1.1.trans (write_vs (by omega)), h1.2.trans ?_⟩
   unfold DS.write
   split
   · exact getD_set_ne (by omega)
   · rfl
set_option maxRecDepth 100000 in
theorem lay_cand {ss : List (List UInt8)} : ∀ {d : DS} {i : Nat}, (∀ j, i ≤ j → d.vs j = []) → i + ss.length ≤ d.rd.length → ∀ j, i ≤ j →
 ((d.lay i ss).vs j = [] ∧ (d.lay i ss).rd.getD j [] = d.rd.getD j []) ∨ (∃ s, ss[j - i]? = some s ∧ (d.lay i ss).vs j = [d.rd.getD j [], s] ∧ (d.lay i ss).rd.getD j [] = s) := by
 induction ss with
 | nil => intro d i hv _ j hj; exact .inl ⟨hv j hj, rfl⟩
 | cons s ss ih =>
   intro d i hv hl j hj
   rw [List.length_cons] at hl
   by_cases e : j = i
   · subst e
     have h1 := lay_low (ss := ss) (d := d.write j s) (i := j + 1) (j := j) (by omega)
     rw [Nat.sub_self]
     show ((d.write j s).lay (j + 1) ss).vs j = [] ∧ ((d.write j s).lay (j + 1) ss).rd.getD j [] = _ ∨ _
     by_cases ha : d.alive = true
     · right
       refine ⟨s, rfl, ?_, ?_⟩
       · show ((d.write j s).lay (j + 1) ss).vs j = _
         rw [h1.1]
         unfold DS.write
         rw [if_pos ha, hv j (Nat.le_refl _)]
         simp [DS.put]
       · show ((d.write j s).lay (j + 1) ss).rd.getD j [] = _
         rw [h1.2]
         unfold DS.write
         rw [if_pos ha]
         show (d.rd.set j s).getD j [] = s
         exact getD_set_self (by omega)
     · left
       have hd : d.write j s = d.step := by unfold DS.write; rw [if_neg ha]
       rw [h1.1, h1.2, hd]
       exact ⟨hv j (Nat.le_refl _), rfl⟩
   · have hw : ∀ k, i + 1 ≤ k → (d.write i s).vs k = [] := fun k hk => by
      rw [write_vs (by omega)]
      exact hv k (by omega)
     have hr : (d.write i s).rd.getD j [] = d.rd.getD j [] := by
      unfold DS.write
      split
      · exact getD_set_ne (by omega)
      · rfl
     have h1 := ih (d := d.write i s) (i := i + 1) hw (by rw [write_len]; omega) j (by omega)
     rw [hr] at h1
     show ((d.write i s).lay (i + 1) ss).vs j = [] ∧ ((d.write i s).lay (i + 1) ss).rd.getD j [] = _ ∨ ∃ t, (s :: ss)[j - i]? = some t ∧ ((d.write i s).lay (i + 1) ss).vs j = _ ∧ ((d.write i s).lay (i + 1) ss).rd.getD j [] = t
     have e1 : (s :: ss)[j - i]? = ss[j - (i + 1)]? := by
      rw [show j - i = (j - (i + 1)) + 1 by omega, List.getElem?_cons_succ]
     rw [e1]
     exact h1
set_option maxRecDepth 100000 in
theorem lay_alive {ss : List (List UInt8)} : ∀ {d : DS} {i : Nat}, (d.lay i ss).alive = true → (d.lay i ss).rd = layL d.rd i ss := by
 induction ss with
 | nil => intro d i _; rfl
 | cons s ss ih =>
   intro d i ha
   have h1 := ih (d := d.write i s) (i := i + 1) ha
   show ((d.write i s).lay (i + 1) ss).rd = layL (d.rd.set i s) (i + 1) ss
   rw [h1]
   congr 1
   by_cases hd : d.alive = true
   · unfold DS.write
     rw [if_pos hd]
     rfl
   · have hd2 : d.alive = false := by simpa using hd
     have := (lay_dead hd2 i (s :: ss)).1
     rw [ha] at this
     cases this
set_option maxRecDepth 100000 in
theorem settle_alive {d : DS} {i : Nat} {ss : List (List UInt8)} (h : d.settles i ss = true) : (d.settle i ss).rd = layL d.rd i ss ∧ ∀ j, (d.settle i ss).vs j = [] := by
 unfold DS.settles at h
 unfold DS.settle DS.flushed
 rw [if_pos h]
 exact ⟨lay_alive h, fun j => rfl⟩
set_option maxRecDepth 100000 in
theorem torn_settle {d : DS} {i : Nat} {ss : List (List UInt8)} (hvs : ∀ j, d.vs j = []) (h128 : ∀ s ∈ d.rd, s.length = 128) (hs : ∀ s ∈ ss, s.length = 128) (hl : i + ss.length ≤ d.rd.length) (hdead : d.settles i ss = false) (picks : List Int) :
 ((d.settle i ss).crash picks).rd.length = d.rd.length ∧ ∀ j, j < d.rd.length →
   ((((d.settle i ss).crash picks).rd.getD j []).take 64 = (d.rd.getD j []).take 64 ∨ ∃ s, i ≤ j ∧ ss[j - i]? = some s ∧ (((d.settle i ss).crash picks).rd.getD j []).take 64 = s.take 64) ∧
   ((((d.settle i ss).crash picks).rd.getD j []).drop 64 = (d.rd.getD j []).drop 64 ∨ ∃ s, i ≤ j ∧ ss[j - i]? = some s ∧ (((d.settle i ss).crash picks).rd.getD j []).drop 64 = s.drop 64) := by
 unfold DS.settles at hdead
 have e : (d.settle i ss).rd = (d.lay i ss).rd ∧ (d.settle i ss).vs = (d.lay i ss).vs := by
  unfold DS.settle DS.flushed
  rw [hdead]
  exact ⟨rfl, rfl⟩
 refine ⟨by rw [crash_len, settle_len], fun j hj => ?_⟩
 have hget : (d.rd.getD j []).length = 128 := h128 _ (List.mem_of_getElem? (i := j) (by simp [hj]))
 rcases crash_read (d.settle i ss) picks j with q | ⟨q0, p, q⟩
 · rw [q, e.1]
   by_cases hij : i ≤ j
   · rcases lay_cand (d := d) (i := i) (ss := ss) (fun k _ => hvs k) hl j hij with ⟨_, q2⟩ | ⟨s, q1, _, q2⟩
     · rw [q2]
       exact ⟨.inl rfl, .inl rfl⟩
     · rw [q2]
       exact ⟨.inr ⟨s, hij, q1, rfl⟩, .inr ⟨s, hij, q1, rfl⟩⟩
   · rw [(lay_low (by omega)).2]
     exact ⟨.inl rfl, .inl rfl⟩
 · rw [e.2] at q0 q
   by_cases hij : i ≤ j
   · rcases lay_cand (d := d) (i := i) (ss := ss) (fun k _ => hvs k) hl j hij with ⟨q1, _⟩ | ⟨s, q1, q2, _⟩
     · exact absurd q1 q0
     · have hsl := hs s (List.mem_of_getElem? q1)
       have hall : ∀ v ∈ (d.lay i ss).vs j, v.length = 128 := fun v hv => by
        rw [q2] at hv
        simp only [List.mem_cons, List.not_mem_nil, or_false] at hv
        rcases hv with rfl | rfl
        · exact hget
        · exact hsl
       obtain ⟨u, hu, v, hv, k1, k2⟩ := left_parts hall q0 p
       rw [q2] at hu hv
       simp only [List.mem_cons, List.not_mem_nil, or_false] at hu hv
       rw [q, k1, k2]
       refine ⟨?_, ?_⟩
       · rcases hu with rfl | rfl
         · exact .inl rfl
         · exact .inr ⟨u, hij, q1, rfl⟩
       · rcases hv with rfl | rfl
         · exact .inl rfl
         · exact .inr ⟨v, hij, q1, rfl⟩
   · have := (lay_low (d := d) (i := i) (j := j) (ss := ss) (by omega)).1
     rw [this, hvs j] at q0
     exact absurd rfl q0
end Go.Proofs.YtcnlgbjkjlbmbaaGreat

namespace Go.Proofs.YtcnlgbjkjlbmbaaGreat
open Go.RowKit Go.Maps

def bodyOf (d : DS) (z : Nat) : List (List UInt8) := (d.rd.take (z + 1)).drop 1
set_option maxRecDepth 100000 in
theorem body_len {d : DS} {z : Nat} (h : z + 1 ≤ d.rd.length) : (bodyOf d z).length = z := by
 unfold bodyOf
 rw [List.length_drop, List.length_take]
 omega
set_option maxRecDepth 100000 in
theorem body_at {d : DS} {z j : Nat} (hj : j < z) : (bodyOf d z)[j]? = d.rd[1 + j]? := by
 unfold bodyOf
 rw [List.getElem?_drop, List.getElem?_take, if_pos (by omega)]
def halfOf (s : List UInt8) (k : Nat) : List UInt8 := (s.drop (64 * (k % 2))).take 64
set_option maxRecDepth 100000 in
theorem body_half {d : DS} {z k : Nat} (hk : k < 2 * z) (hl : z + 1 ≤ d.rd.length) : hv (bodyOf d z) k = halfOf (d.rd.getD (1 + k / 2) []) k := by
 unfold hv halfOf
 rw [body_at (by omega), List.getD_eq_getElem?_getD, List.getElem?_eq_getElem (by omega : 1 + k / 2 < d.rd.length)]
 rfl
set_option maxRecDepth 100000 in
theorem half_even {s : List UInt8} {k : Nat} (hk : k % 2 = 0) : halfOf s k = s.take 64 := by
 unfold halfOf
 rw [hk]
 rfl
set_option maxRecDepth 100000 in
theorem half_odd {s : List UInt8} {k : Nat} (hs : s.length = 128) (hk : k % 2 = 1) : halfOf s k = s.drop 64 := by
 unfold halfOf
 rw [hk, Nat.mul_one]
 exact List.take_of_length_le (by rw [List.length_drop, hs]; omega)
def HeadIs (d : DS) (c s : Nat) : Prop := d.head.take 64 = (hdS c s).take 64 ∧ 1 ≤ s ∧ s ≤ c ∧ c ≤ maxC
structure RI (d : DS) (z c s : Nat) (q : List (Nat × List Chg)) (e : Nat) : Prop where
 vs : ∀ j, d.vs j = []
 len : z + 1 ≤ d.rd.length
 all : ∀ x ∈ d.rd, x.length = 128
 hd : HeadIs d c s
 laid : LaidAt (bodyOf d z) c s 0 0 q e
 clean : Clean (bodyOf d z) e s q.length
 old : ∀ k, k < 2 * z → (hdOf (hv (bodyOf d z) k)).c ≤ c
def NW (d : DS) (z c e n : Nat) : Prop := ∀ k, 2 * e ≤ k → k < 2 * z → (hdOf (hv (bodyOf d z) k)).c = c → (hdOf (hv (bodyOf d z) k)).n < n
set_option maxRecDepth 100000 in
theorem RI.says {d : DS} {z c s : Nat} {q : List (Nat × List Chg)} {e : Nat} (h : RI d z c s q e) : (recs c s (bodyOf d z)).map (·.1) = q.map (·.2) ∧ usedOf (recs c s (bodyOf d z)) = e ∧ e ≤ z := by
 have hl := body_len h.len
 have h1 := recs_laid (f := (bodyOf d z).length + 1) h.laid (by rw [Nat.zero_add]; exact h.clean) (by omega) (Nat.zero_le _)
 rw [List.drop_zero] at h1
 unfold recs
 exact ⟨h1.1, by have := h1.2.1; omega, by have := h1.2.2; omega⟩
set_option maxRecDepth 100000 in
theorem RI.len_q {d : DS} {z c s : Nat} {q : List (Nat × List Chg)} {e : Nat} (h : RI d z c s q e) : (recs c s (bodyOf d z)).length = q.length := by
 have := congrArg List.length h.says.1
 simpa using this
set_option maxRecDepth 100000 in
theorem LaidAt.mono {body : List (List UInt8)} {c c' s : Nat} (hc : c ≤ c') : ∀ {q : List (Nat × List Chg)} {a n e : Nat}, LaidAt body c s a n q e → LaidAt body c' s a n q e
 | [], _, _, _, h => h
 | _ :: _, _, _, _, ⟨h1, h2, h3, h4, h5, h6, h7, h8⟩ => ⟨h1, h2, h3, Nat.le_trans h4 hc, h5, h6, h7, h8.mono hc⟩
set_option maxRecDepth 100000 in
theorem LaidAt.le {body : List (List UInt8)} {c s : Nat} : ∀ {q : List (Nat × List Chg)} {a n e : Nat}, LaidAt body c s a n q e → a ≤ e
 | [], _, _, _, h => Nat.le_of_eq (Eq.symm h)
 | _ :: _, _, _, _, ⟨_, _, _, _, _, _, _, h8⟩ => Nat.le_trans (Nat.le_add_right _ _) h8.le
set_option maxRecDepth 100000 in
theorem LaidAt.same {body body' : List (List UInt8)} {c s : Nat} (hl : body'.length = body.length) : ∀ {q : List (Nat × List Chg)} {a n e : Nat}, LaidAt body c s a n q e → (∀ k, 2 * a ≤ k → k < 2 * e → k < 2 * body.length → hv body' k = hv body k) → LaidAt body' c s a n q e
 | [], _, _, _, h, _ => h
 | _ :: _, a, _, e, ⟨h1, h2, h3, h4, h5, h6, h7, h8⟩, hs => by
   have hle := h8.le
   have hk := need_many (bytes_short h1 h2)
   exact ⟨h1, h2, h3, h4, h5, fun j hj => by rw [hs _ (by omega) (by omega) (by omega)]; exact h6 j hj, by rw [hl]; exact h7, h8.same hl fun k hk1 hk2 hk3 => hs k (by omega) hk2 hk3⟩
set_option maxRecDepth 100000 in
theorem LaidAt.snoc {body : List (List UInt8)} {c s : Nat} {r : Nat × List Chg} {q : List (Nat × List Chg)} : ∀ {a n e : Nat}, LaidAt body c s a n q e → LaidAt body c s e (n + q.length) [r] (e + needN ((bytesR r.2).length : Nat)) → LaidAt body c s a n (q ++ [r]) (e + needN ((bytesR r.2).length : Nat)) := by
 induction q with
 | nil =>
   intro a n e h hr
   have he : e = a := h
   subst he
   exact hr
 | cons x q ih =>
   intro a n e h hr
   obtain ⟨h1, h2, h3, h4, h5, h6, h7, h8⟩ := h
   refine ⟨h1, h2, h3, h4, h5, h6, h7, ih h8 ?_⟩
   have e1 : n + 1 + q.length = n + (x :: q).length := by rw [List.length_cons]; omega
   rw [e1]
   exact hr
set_option maxRecDepth 100000 in
theorem RI.head_set {d d' : DS} {z c s c' : Nat} {q : List (Nat × List Chg)} {e : Nat} (h : RI d z c s q e) (hv' : ∀ j, d'.vs j = []) (hl : d'.rd.length = d.rd.length) (hall : ∀ x ∈ d'.rd, x.length = 128) (hb : bodyOf d' z = bodyOf d z) (hd : HeadIs d' c' s) (hc : c ≤ c') : RI d' z c' s q e :=
 ⟨hv', by rw [hl]; exact h.len, hall, hd, by rw [hb]; exact h.laid.mono hc, by rw [hb]; exact h.clean, fun k hk => by rw [hb]; exact Nat.le_trans (h.old k hk) hc⟩
set_option maxRecDepth 100000 in
theorem RI.begin {d d' : DS} {z c s c' : Nat} {q : List (Nat × List Chg)} {e : Nat} (h : RI d z c s q e) (hv' : ∀ j, d'.vs j = []) (hl : d'.rd.length = d.rd.length) (hall : ∀ x ∈ d'.rd, x.length = 128) (hb : bodyOf d' z = bodyOf d z) (hd : HeadIs d' c' c') (hc : c < c') : RI d' z c' c' [] 0 :=
 ⟨hv', by rw [hl]; exact h.len, hall, hd, rfl, clean_new (by omega) (fun k hk => by rw [hb] at hk ⊢; rw [body_len h.len] at hk; exact Nat.lt_of_le_of_lt (h.old k hk) hc), fun k hk => by rw [hb]; exact Nat.le_of_lt (Nat.lt_of_le_of_lt (h.old k hk) hc)⟩
set_option maxRecDepth 100000 in
theorem RI.nw {d d' : DS} {z c s c' : Nat} {q : List (Nat × List Chg)} {e : Nat} (h : RI d z c s q e) (hb : bodyOf d' z = bodyOf d z) (hc : c < c') (e' n : Nat) : NW d' z c' e' n := fun k _ hk2 hk3 => by
 have := h.old k hk2
 rw [hb] at hk3
 omega
set_option maxRecDepth 100000 in
theorem body_head {d d' : DS} {z : Nat} (hl : d'.rd.length = d.rd.length) (hs : ∀ j, 1 ≤ j → j < d.rd.length → d'.rd.getD j [] = d.rd.getD j []) (hz : z + 1 ≤ d.rd.length) : bodyOf d' z = bodyOf d z := by
 apply List.ext_getElem?
 intro j
 by_cases hj : j < z
 · rw [body_at hj, body_at hj]
   have := hs (1 + j) (by omega) (by omega)
   rw [List.getD_eq_getElem?_getD, List.getD_eq_getElem?_getD, List.getElem?_eq_getElem (by omega : 1 + j < d'.rd.length), List.getElem?_eq_getElem (by omega : 1 + j < d.rd.length)] at this
   rw [List.getElem?_eq_getElem (by omega : 1 + j < d'.rd.length), List.getElem?_eq_getElem (by omega : 1 + j < d.rd.length)]
   exact congrArg some this
 · rw [List.getElem?_eq_none (by rw [body_len (by omega)]; omega), List.getElem?_eq_none (by rw [body_len hz]; omega)]
end Go.Proofs.YtcnlgbjkjlbmbaaGreat

namespace Go.Proofs.YtcnlgbjkjlbmbaaGreat
open Go.RowKit Go.Maps

set_option maxRecDepth 100000 in
theorem crash_rest {d : DS} (h : ∀ j, d.vs j = []) (picks : List Int) : (d.crash picks).rd = d.rd ∧ ∀ j, (d.crash picks).vs j = [] := by
 have h0 : d.openL = [] := by
  refine List.eq_nil_iff_forall_not_mem.2 fun i hi => ?_
  exact (DS.openL_mem.1 hi).2 (h i)
 have h1 : d.pairs picks = [] := by unfold DS.pairs; rw [h0]; rfl
 unfold DS.crash
 rw [h1]
 exact ⟨rfl, h⟩
set_option maxRecDepth 100000 in
theorem RI.same {d d' : DS} {z c s : Nat} {q : List (Nat × List Chg)} {e : Nat} (h : RI d z c s q e) (hr : d'.rd = d.rd) (hv' : ∀ j, d'.vs j = []) : RI d' z c s q e := by
 have hb : bodyOf d' z = bodyOf d z := by unfold bodyOf; rw [hr]
 refine h.head_set hv' (by rw [hr]) (by rw [hr]; exact h.all) hb ?_ (Nat.le_refl _)
 have : d'.head = d.head := by unfold DS.head; rw [hr]
 unfold HeadIs
 rw [this]
 exact h.hd
set_option maxRecDepth 100000 in
theorem crash_gone_all {d : DS} (hl : ∀ j, d.rd.length ≤ j → d.vs j = []) (picks : List Int) : ∀ j, (d.crash picks).vs j = [] := fun j => by
 by_cases hj : j < d.rd.length
 · exact crash_gone d picks hj
 · show (d.falls (d.pairs picks)).vs j = []
   rw [falls_vs _ _ _ fun p hp => ?_]
   · exact hl j (by omega)
   · simp only [DS.pairs, List.mem_map] at hp
     obtain ⟨x, hx, rfl⟩ := hp
     have h1 : x.1 ∈ d.openL := by
      have := List.fst_mem_of_mem_zipIdx hx
      exact this
     have h2 := (DS.openL_mem.1 h1).1
     intro e
     have h3 : x.1 = j := e
     omega
set_option maxRecDepth 100000 in
theorem settle_out {d : DS} {i : Nat} {ss : List (List UInt8)} (hvs : ∀ j, d.vs j = []) (hl : i + ss.length ≤ d.rd.length) (hdead : d.settles i ss = false) : ∀ j, (d.settle i ss).rd.length ≤ j → (d.settle i ss).vs j = [] := fun j hj => by
 unfold DS.settles at hdead
 rw [settle_len] at hj
 have e : (d.settle i ss).vs = (d.lay i ss).vs := by
  unfold DS.settle DS.flushed
  rw [hdead]
  rfl
 rw [e, lay_vs d i ss (by omega)]
 exact hvs j
set_option maxRecDepth 100000 in
theorem halves_eq {u v : List UInt8} (h1 : u.take 64 = v.take 64) (h2 : u.drop 64 = v.drop 64) : u = v := by
 rw [← List.take_append_drop 64 u, h1, h2, List.take_append_drop]
set_option maxRecDepth 100000 in
theorem all_getD {l : List (List UInt8)} (h : ∀ j, j < l.length → (l.getD j []).length = 128) : ∀ x ∈ l, x.length = 128 := fun x hx => by
 obtain ⟨j, hj⟩ := List.getElem?_of_mem hx
 have hl := (List.getElem?_eq_some_iff.1 hj).1
 have := h j hl
 rw [List.getD_eq_getElem?_getD, hj] at this
 exact this
set_option maxRecDepth 100000 in
theorem head_alive {d : DS} {x : List UInt8} (hall : ∀ x ∈ d.rd, x.length = 128) (hx : x.length = 128) (h0 : 0 < d.rd.length) (ok : d.settles 0 [x] = true) : (∀ j, (d.settle 0 [x]).vs j = []) ∧ (d.settle 0 [x]).rd.length = d.rd.length ∧ (∀ y ∈ (d.settle 0 [x]).rd, y.length = 128) ∧ (d.settle 0 [x]).head = x ∧ ∀ j, 1 ≤ j → j < d.rd.length → (d.settle 0 [x]).rd.getD j [] = d.rd.getD j [] := by
 obtain ⟨h1, h2⟩ := settle_alive ok
 have hr : (d.settle 0 [x]).rd = d.rd.set 0 x := h1
 refine ⟨h2, by rw [hr, List.length_set], fun y hy => ?_, ?_, fun j hj _ => ?_⟩
 · rw [hr] at hy
   rcases List.mem_or_eq_of_mem_set hy with q | q
   · exact hall y q
   · rw [q]; exact hx
 · unfold DS.head
   rw [hr]
   exact getD_set_self h0
 · rw [hr]
   exact getD_set_ne (by omega)
set_option maxRecDepth 100000 in
theorem head_torn {d : DS} {x : List UInt8} (hvs : ∀ j, d.vs j = []) (hall : ∀ x ∈ d.rd, x.length = 128) (hx : x.length = 128) (h0 : 0 < d.rd.length) (bad : d.settles 0 [x] = false) (picks : List Int) : (∀ j, ((d.settle 0 [x]).crash picks).vs j = []) ∧ ((d.settle 0 [x]).crash picks).rd.length = d.rd.length ∧ (∀ y ∈ ((d.settle 0 [x]).crash picks).rd, y.length = 128) ∧ (((d.settle 0 [x]).crash picks).head.take 64 = d.head.take 64 ∨ ((d.settle 0 [x]).crash picks).head.take 64 = x.take 64) ∧ ∀ j, 1 ≤ j → j < d.rd.length → ((d.settle 0 [x]).crash picks).rd.getD j [] = d.rd.getD j [] := by
 obtain ⟨h1, h2⟩ := torn_settle (i := 0) (ss := [x]) hvs hall (fun y hy => by rw [List.mem_singleton.1 hy]; exact hx) (by simp; omega) bad picks
 have hlen : ∀ j, j < d.rd.length → (d.rd.getD j []).length = 128 := fun j hj => hall _ (List.mem_of_getElem? (i := j) (by simp [hj]))
 have hsame : ∀ j, 1 ≤ j → j < d.rd.length → ((d.settle 0 [x]).crash picks).rd.getD j [] = d.rd.getD j [] := fun j hj hj2 => by
  obtain ⟨k1, k2⟩ := h2 j hj2
  refine halves_eq ?_ ?_
  · rcases k1 with q | ⟨y, _, q, _⟩
    · exact q
    · rw [List.getElem?_eq_none (by simp; omega)] at q
      cases q
  · rcases k2 with q | ⟨y, _, q, _⟩
    · exact q
    · rw [List.getElem?_eq_none (by simp; omega)] at q
      cases q
 refine ⟨crash_gone_all (settle_out hvs (by simp; omega) bad) picks, h1, all_getD fun j hj => ?_, ?_, hsame⟩
 · rw [h1] at hj
   obtain ⟨k1, k2⟩ := h2 j hj
   have hl := hlen j hj
   have e1 : ((((d.settle 0 [x]).crash picks).rd.getD j []).take 64).length = 64 := by
    rcases k1 with q | ⟨y, _, q0, q⟩
    · rw [q, List.length_take, hl]; rfl
    · have hm := List.mem_of_getElem? q0
      rw [List.mem_singleton.1 hm] at q
      rw [q, List.length_take, hx]; rfl
   have e2 : ((((d.settle 0 [x]).crash picks).rd.getD j []).drop 64).length = 64 := by
    rcases k2 with q | ⟨y, _, q0, q⟩
    · rw [q, List.length_drop, hl]
    · have hm := List.mem_of_getElem? q0
      rw [List.mem_singleton.1 hm] at q
      rw [q, List.length_drop, hx]
   rw [List.length_take] at e1
   rw [List.length_drop] at e2
   omega
 · obtain ⟨k1, _⟩ := h2 0 h0
   unfold DS.head
   rcases k1 with q | ⟨y, _, q0, q⟩
   · exact .inl q
   · have hm := List.mem_of_getElem? q0
     rw [List.mem_singleton.1 hm] at q
     exact .inr q
set_option maxRecDepth 100000 in
theorem RI.opens {d : DS} {z c s : Nat} {q : List (Nat × List Chg)} {e : Nat} (h : RI d z c s q e) (hc : c < maxC) (ok : d.settles 0 [hdS (c + 1) s] = true) : RI (d.settle 0 [hdS (c + 1) s]) z (c + 1) s q e ∧ ∀ e' n, NW (d.settle 0 [hdS (c + 1) s]) z (c + 1) e' n := by
 obtain ⟨h1, h2, h3, h4, h5⟩ := head_alive h.all (hdS_len (c + 1) s) (by have := h.len; omega) ok
 have hb := body_head h2 h5 h.len
 have hd := h.hd
 exact ⟨h.head_set h1 h2 h3 hb ⟨by rw [h4], hd.2.1, by have := hd.2.2.1; omega, hc⟩ (by omega), fun e' n => h.nw hb (by omega) e' n⟩
set_option maxRecDepth 100000 in
theorem RI.opens_torn {d : DS} {z c s : Nat} {q : List (Nat × List Chg)} {e : Nat} (h : RI d z c s q e) (hc : c < maxC) (bad : d.settles 0 [hdS (c + 1) s] = false) (picks : List Int) : ∃ c', c ≤ c' ∧ c' ≤ c + 1 ∧ RI ((d.settle 0 [hdS (c + 1) s]).crash picks) z c' s q e := by
 obtain ⟨h1, h2, h3, h4, h5⟩ := head_torn h.vs h.all (hdS_len (c + 1) s) (by have := h.len; omega) bad picks
 have hb := body_head h2 h5 h.len
 have hd := h.hd
 rcases h4 with h4 | h4
 · exact ⟨c, Nat.le_refl _, by omega, h.head_set h1 h2 h3 hb ⟨h4.trans hd.1, hd.2⟩ (Nat.le_refl _)⟩
 · exact ⟨c + 1, by omega, Nat.le_refl _, h.head_set h1 h2 h3 hb ⟨h4, hd.2.1, by have := hd.2.2.1; omega, hc⟩ (by omega)⟩
set_option maxRecDepth 100000 in
theorem RI.cut {d : DS} {z c s : Nat} {q : List (Nat × List Chg)} {e : Nat} (h : RI d z c s q e) (hc : c < maxC) (ok : d.settles 0 [hdS (c + 1) (c + 1)] = true) : RI (d.settle 0 [hdS (c + 1) (c + 1)]) z (c + 1) (c + 1) [] 0 ∧ ∀ e' n, NW (d.settle 0 [hdS (c + 1) (c + 1)]) z (c + 1) e' n := by
 obtain ⟨h1, h2, h3, h4, h5⟩ := head_alive h.all (hdS_len (c + 1) (c + 1)) (by have := h.len; omega) ok
 have hb := body_head h2 h5 h.len
 exact ⟨h.begin h1 h2 h3 hb ⟨by rw [h4], by omega, Nat.le_refl _, hc⟩ (by omega), fun e' n => h.nw hb (by omega) e' n⟩
set_option maxRecDepth 100000 in
theorem RI.cut_torn {d : DS} {z c s : Nat} {q : List (Nat × List Chg)} {e : Nat} (h : RI d z c s q e) (hc : c < maxC) (bad : d.settles 0 [hdS (c + 1) (c + 1)] = false) (picks : List Int) : RI ((d.settle 0 [hdS (c + 1) (c + 1)]).crash picks) z c s q e ∨ RI ((d.settle 0 [hdS (c + 1) (c + 1)]).crash picks) z (c + 1) (c + 1) [] 0 := by
 obtain ⟨h1, h2, h3, h4, h5⟩ := head_torn h.vs h.all (hdS_len (c + 1) (c + 1)) (by have := h.len; omega) bad picks
 have hb := body_head h2 h5 h.len
 have hd := h.hd
 rcases h4 with h4 | h4
 · exact .inl (h.head_set h1 h2 h3 hb ⟨h4.trans hd.1, hd.2⟩ (Nat.le_refl _))
 · exact .inr (h.begin h1 h2 h3 hb ⟨h4, by omega, Nat.le_refl _, hc⟩ (by omega))
end Go.Proofs.YtcnlgbjkjlbmbaaGreat

namespace Go.Proofs.YtcnlgbjkjlbmbaaGreat
open Go.RowKit Go.Maps

set_option maxRecDepth 100000 in
theorem rowS_all {c n : Nat} {r : List Chg} (hm : mayR r = true) (h5 : ∀ x ∈ r, x.p.length = 512) : ∀ x ∈ rowS c n r, x.length = 128 := fun x hx => by
 have hb := bytes_short hm h5
 unfold rowS secs at hx
 obtain ⟨i, hi, rfl⟩ := List.mem_map.1 hx
 have hi2 := List.mem_range.1 hi
 rw [need_many hb] at hi2
 have hl := rowB_len c n (bytesR r)
 have h9 : (i + 1) * 128 ≤ (many (bytesR r).length + 1) / 2 * 128 := Nat.mul_le_mul_right _ hi2
 rw [List.length_take, List.length_drop, hl]
 omega
set_option maxRecDepth 100000 in
theorem row_half {c n : Nat} {r : List Chg} (hm : mayR r = true) (h5 : ∀ x ∈ r, x.p.length = 512) {j : Nat} (hj : j < many (bytesR r).length) : hv (rowS c n r) j = rowH c n (bytesR r) j := by
 have h := rowH_at (c := c) (n := n) (b := bytesR r) [] hj
 rw [List.append_nil] at h
 unfold rowS
 rw [need_many (bytes_short hm h5)]
 exact h
set_option maxRecDepth 100000 in
theorem row_pad {c n : Nat} {r : List Chg} (hm : mayR r = true) (h5 : ∀ x ∈ r, x.p.length = 512) {j : Nat} (hj : many (bytesR r).length ≤ j) (hj2 : j < 2 * needN ((bytesR r).length : Nat)) : hv (rowS c n r) j = nought 64 := by
 have hb := bytes_short hm h5
 rw [need_many hb] at hj2
 obtain ⟨M, hM⟩ : ∃ M, M = many (bytesR r).length := ⟨_, rfl⟩
 rw [← hM] at hj hj2
 have hjM : j = M := by omega
 have hp := padB_len (bytesR r)
 have hf : ∀ i, i < many (bytesR r).length → ((fun i => ((padB (bytesR r)).drop (48 * i)).take 48) i).length = 48 := fun i hi => by
  simp only [List.length_take, List.length_drop]; omega
 have h := hv_secs (l := rowB c n (bytesR r)) (N := (M + 1) / 2) (k := j) (by omega) []
 rw [List.append_nil] at h
 unfold rowS
 rw [need_many hb, ← hM, h, rowB_tags, ← hM]
 have hl : (tags c n M (fun i => ((padB (bytesR r)).drop (48 * i)).take 48) M).length = M * 64 := by
  rw [hM]
  exact tags_len _ hf
 rw [show 64 * j = M * 64 by omega, List.drop_left' hl]
 unfold nought
 rw [List.take_replicate]
 congr 1
 omega
def MixAt (body body' row : List (List UInt8)) (a : Nat) : Prop := ∀ k, k < 2 * body.length → hv body' k = hv body k ∨ (2 * a ≤ k ∧ k < 2 * (a + row.length) ∧ hv body' k = hv row (k - 2 * a))
set_option maxRecDepth 100000 in
theorem hv_row {row : List (List UInt8)} {a k : Nat} {x : List UInt8} (hk : 2 * a ≤ k) (hx : row[k / 2 - a]? = some x) : hv row (k - 2 * a) = halfOf x k := by
 unfold hv halfOf
 rw [show (k - 2 * a) / 2 = k / 2 - a by omega, show (k - 2 * a) % 2 = k % 2 by omega, hx]
 rfl
section
variable {d : DS} {z c s e : Nat} {q : List (Nat × List Chg)} {r : List Chg}
set_option maxRecDepth 100000 in
theorem RI.mixed {d' : DS} (h : RI d z c s q e) (nw : NW d z c e q.length) (hm : mayR r = true) (h5 : ∀ x ∈ r, x.p.length = 512) (ht : mayT c (q.length : Int) = true) (room : e + needN ((bytesR r).length : Nat) ≤ z)
 (hv' : ∀ j, d'.vs j = []) (hl : d'.rd.length = d.rd.length) (hall : ∀ x ∈ d'.rd, x.length = 128) (hhd : d'.rd.getD 0 [] = d.rd.getD 0 []) (hmix : MixAt (bodyOf d z) (bodyOf d' z) (rowS c q.length r) e) :
 RI d' z c s q e ∨ (RI d' z c s (q ++ [(c, r)]) (e + needN ((bytesR r).length : Nat)) ∧ NW d' z c (e + needN ((bytesR r).length : Nat)) (q.length + 1)) := by
 have hb := bytes_short hm h5
 have hk := need_many hb
 have hbl := body_len h.len
 have hbl' : (bodyOf d' z).length = z := body_len (by rw [hl]; exact h.len)
 have hrl := rowS_len c q.length r
 have hs1 := h.hd.2.1
 have hsc := h.hd.2.2.1
 have hhd2 : HeadIs d' c s := by
  unfold HeadIs DS.head
  rw [hhd]
  exact h.hd
 have hmix2 : ∀ k, k < 2 * (bodyOf d z).length → hv (bodyOf d' z) k = hv (bodyOf d z) k ∨ (∃ j, k = 2 * e + j ∧ j < many (bytesR r).length ∧ hv (bodyOf d' z) k = rowH c q.length (bytesR r) j) ∨ hv (bodyOf d' z) k = nought 64 := fun k hk2 => by
  rcases hmix k hk2 with p | ⟨p1, p2, p3⟩
  · exact .inl p
  · right
    by_cases hj : k - 2 * e < many (bytesR r).length
    · exact .inl ⟨k - 2 * e, by omega, hj, by rw [p3]; exact row_half hm h5 hj⟩
    · right
      rw [p3]
      exact row_pad hm h5 (by omega) (by rw [hrl] at p2; omega)
 have hold : ∀ k, k < 2 * z → (hdOf (hv (bodyOf d' z) k)).c ≤ c := fun k hk2 => by
  rcases hmix2 k (by rw [hbl]; exact hk2) with p | ⟨j, _, p2, p3⟩ | p
  · rw [p]
    exact h.old k hk2
  · rw [p3, rowH_hd hb ht p2]
    exact Nat.le_refl _
  · rw [p, hd_nought]
    exact Nat.zero_le _
 have hout : ∀ k, (k < 2 * e ∨ 2 * (e + needN ((bytesR r).length : Nat)) ≤ k) → k < 2 * z → hv (bodyOf d' z) k = hv (bodyOf d z) k := fun k hk1 hk2 => by
  rcases hmix k (by rw [hbl]; exact hk2) with p | ⟨p1, p2, _⟩
  · exact p
  · rw [hrl] at p2
    omega
 by_cases hnew : ∀ j, j < many (bytesR r).length → hv (bodyOf d' z) (2 * e + j) = rowH c q.length (bytesR r) j
 · right
   refine ⟨⟨hv', by rw [hl]; exact h.len, hall, hhd2, ?_, ?_, hold⟩, fun k hk1 hk2 hk3 => ?_⟩
   · have h1 := h.laid.same (body' := bodyOf d' z) (hbl'.trans hbl.symm) (fun k hk1 hk2 hk3 => hout k (.inl hk2) (by rw [hbl] at hk3; exact hk3))
     refine h1.snoc ⟨hm, h5, hsc, Nat.le_refl _, by rw [Nat.zero_add]; exact ht, by rw [Nat.zero_add]; exact hnew, by rw [hbl']; exact room, rfl⟩
   · rw [List.length_append]
     exact clean_next h.clean (Nat.le_add_right _ _) (hbl'.trans hbl.symm) (fun k hk1 hk2 => hout k (.inr hk1) (by rw [hbl] at hk2; exact hk2))
   · rw [hout k (.inr hk1) hk2] at hk3 ⊢
     exact Nat.lt_succ_of_lt (nw k (by omega) hk2 hk3)
 · left
   refine ⟨hv', by rw [hl]; exact h.len, hall, hhd2, ?_, ?_, hold⟩
   · exact h.laid.same (body' := bodyOf d' z) (hbl'.trans hbl.symm) (fun k hk1 hk2 hk3 => hout k (.inl hk2) (by rw [hbl] at hk3; exact hk3))
   · refine clean_torn h.clean hb ht (hbl'.trans hbl.symm) (fun k hk1 hk2 hk3 => nw k hk1 (by rw [hbl] at hk2; exact hk2) hk3) hmix2 ?_
     refine Classical.byContradiction fun hno => hnew fun j hj => ?_
     exact Classical.byContradiction fun hne => hno ⟨j, hj, hne⟩
set_option maxRecDepth 100000 in
theorem RI.commit (h : RI d z c s q e) (nw : NW d z c e q.length) (hm : mayR r = true) (h5 : ∀ x ∈ r, x.p.length = 512) (ht : mayT c (q.length : Int) = true) (room : e + needN ((bytesR r).length : Nat) ≤ z) (ok : d.settles (1 + e) (rowS c q.length r) = true) :
 RI (d.settle (1 + e) (rowS c q.length r)) z c s (q ++ [(c, r)]) (e + needN ((bytesR r).length : Nat)) ∧ NW (d.settle (1 + e) (rowS c q.length r)) z c (e + needN ((bytesR r).length : Nat)) (q.length + 1) := by
 obtain ⟨h1, h2⟩ := settle_alive ok
 have hrl := rowS_len c q.length r
 have hra := rowS_all (c := c) (n := q.length) hm h5
 have hzl := h.len
 have hlen : (d.settle (1 + e) (rowS c q.length r)).rd.length = d.rd.length := settle_len _ _ _
 have hin : ∀ j, j < (rowS c q.length r).length → (d.settle (1 + e) (rowS c q.length r)).rd[1 + e + j]? = (rowS c q.length r)[j]? := fun j hj => by
  rw [h1]
  exact layL_in (by rw [hrl]; omega) hj
 have hout : ∀ j, j < 1 + e ∨ 1 + e + (rowS c q.length r).length ≤ j → (d.settle (1 + e) (rowS c q.length r)).rd[j]? = d.rd[j]? := fun j hj => by
  rw [h1]
  exact layL_out hj
 have hall : ∀ x ∈ (d.settle (1 + e) (rowS c q.length r)).rd, x.length = 128 := fun x hx => by
  obtain ⟨j, hj⟩ := List.getElem?_of_mem hx
  by_cases hc : j < 1 + e ∨ 1 + e + (rowS c q.length r).length ≤ j
  · rw [hout j hc] at hj
    exact h.all x (List.mem_of_getElem? hj)
  · have := hin (j - (1 + e)) (by omega)
    rw [show 1 + e + (j - (1 + e)) = j by omega, hj] at this
    exact hra x (List.mem_of_getElem? this.symm)
 have hmix : MixAt (bodyOf d z) (bodyOf (d.settle (1 + e) (rowS c q.length r)) z) (rowS c q.length r) e := fun k hk => by
  rw [body_len hzl] at hk
  rw [body_half hk (by rw [hlen]; exact hzl), body_half hk hzl, List.getD_eq_getElem?_getD, List.getD_eq_getElem?_getD]
  by_cases hc : 1 + k / 2 < 1 + e ∨ 1 + e + (rowS c q.length r).length ≤ 1 + k / 2
  · rw [hout _ hc]
    exact .inl rfl
  · right
    have h9 := hin (k / 2 - e) (by omega)
    rw [show 1 + e + (k / 2 - e) = 1 + k / 2 by omega] at h9
    obtain ⟨x, hx⟩ : ∃ x, (rowS c q.length r)[k / 2 - e]? = some x := ⟨_, List.getElem?_eq_getElem (by omega)⟩
    rw [h9, hx]
    exact ⟨by omega, by omega, (hv_row (by omega) hx).symm⟩
 rcases h.mixed nw hm h5 ht room h2 hlen hall (by rw [List.getD_eq_getElem?_getD, hout 0 (by omega), ← List.getD_eq_getElem?_getD]) hmix with p | p
 · exfalso
   refine p.clean.full c h.hd.2.2.1 ⟨many (bytesR r).length, many_pos _, fun j hj => ?_⟩
   have hk := need_many (bytes_short hm h5)
   refine ⟨by rw [body_len (by rw [hlen]; exact hzl)]; omega, ?_⟩
   have hkz : 2 * e + j < 2 * z := by omega
   have h9 := hin ((2 * e + j) / 2 - e) (by rw [hrl]; omega)
   rw [show 1 + e + ((2 * e + j) / 2 - e) = 1 + (2 * e + j) / 2 by omega] at h9
   obtain ⟨x, hx⟩ : ∃ x, (rowS c q.length r)[(2 * e + j) / 2 - e]? = some x := ⟨_, List.getElem?_eq_getElem (by rw [hrl]; omega)⟩
   have h8 := hv_row (a := e) (k := 2 * e + j) (by omega) hx
   rw [show 2 * e + j - 2 * e = j by omega] at h8
   rw [body_half hkz (by rw [hlen]; exact hzl), List.getD_eq_getElem?_getD, h9, hx]
   show hdOf (halfOf x (2 * e + j)) = _
   rw [← h8, row_half hm h5 hj]
   exact rowH_hd (bytes_short hm h5) ht hj
 · exact p
set_option maxRecDepth 100000 in
theorem RI.commit_torn (h : RI d z c s q e) (nw : NW d z c e q.length) (hm : mayR r = true) (h5 : ∀ x ∈ r, x.p.length = 512) (ht : mayT c (q.length : Int) = true) (room : e + needN ((bytesR r).length : Nat) ≤ z) (bad : d.settles (1 + e) (rowS c q.length r) = false) (picks : List Int) :
 RI ((d.settle (1 + e) (rowS c q.length r)).crash picks) z c s q e ∨ RI ((d.settle (1 + e) (rowS c q.length r)).crash picks) z c s (q ++ [(c, r)]) (e + needN ((bytesR r).length : Nat)) := by
 have hrl := rowS_len c q.length r
 have hra := rowS_all (c := c) (n := q.length) hm h5
 have hzl := h.len
 have hfit : 1 + e + (rowS c q.length r).length ≤ d.rd.length := by rw [hrl]; omega
 obtain ⟨h1, h2⟩ := torn_settle h.vs h.all hra hfit bad picks
 have hlen : ∀ j, j < d.rd.length → (d.rd.getD j []).length = 128 := fun j hj => h.all _ (List.mem_of_getElem? (i := j) (by simp [hj]))
 have hall : ∀ x ∈ ((d.settle (1 + e) (rowS c q.length r)).crash picks).rd, x.length = 128 := all_getD fun j hj => by
  rw [h1] at hj
  obtain ⟨k1, k2⟩ := h2 j hj
  have hl := hlen j hj
  have e1 : ((((d.settle (1 + e) (rowS c q.length r)).crash picks).rd.getD j []).take 64).length = 64 := by
   rcases k1 with p | ⟨y, _, p0, p⟩
   · rw [p, List.length_take, hl]; rfl
   · rw [p, List.length_take, hra y (List.mem_of_getElem? p0)]; rfl
  have e2 : ((((d.settle (1 + e) (rowS c q.length r)).crash picks).rd.getD j []).drop 64).length = 64 := by
   rcases k2 with p | ⟨y, _, p0, p⟩
   · rw [p, List.length_drop, hl]
   · rw [p, List.length_drop, hra y (List.mem_of_getElem? p0)]
  rw [List.length_take] at e1
  rw [List.length_drop] at e2
  omega
 have hmix : MixAt (bodyOf d z) (bodyOf ((d.settle (1 + e) (rowS c q.length r)).crash picks) z) (rowS c q.length r) e := fun k hk => by
  rw [body_len hzl] at hk
  rw [body_half hk (by rw [h1]; exact hzl), body_half hk hzl]
  have hj : 1 + k / 2 < d.rd.length := by omega
  obtain ⟨k1, k2⟩ := h2 (1 + k / 2) hj
  have hx1 : (((d.settle (1 + e) (rowS c q.length r)).crash picks).rd.getD (1 + k / 2) []).length = 128 := hall _ (List.mem_of_getElem? (i := 1 + k / 2) (by rw [List.getD_eq_getElem?_getD, List.getElem?_eq_getElem (by rw [h1]; exact hj)]; rfl))
  by_cases hp : k % 2 = 0
  · rw [half_even hp, half_even hp]
    rcases k1 with p | ⟨y, p1, p0, p⟩
    · exact .inl p
    · right
      rw [show 1 + k / 2 - (1 + e) = k / 2 - e by omega] at p0
      have hlt := (List.getElem?_eq_some_iff.1 p0).1
      exact ⟨by omega, by omega, by rw [hv_row (by omega) p0, half_even hp]; exact p⟩
  · have hp1 : k % 2 = 1 := by omega
    rw [half_odd hx1 hp1, half_odd (hlen _ hj) hp1]
    rcases k2 with p | ⟨y, p1, p0, p⟩
    · exact .inl p
    · right
      rw [show 1 + k / 2 - (1 + e) = k / 2 - e by omega] at p0
      have hlt := (List.getElem?_eq_some_iff.1 p0).1
      exact ⟨by omega, by omega, by rw [hv_row (by omega) p0, half_odd (hra y (List.mem_of_getElem? p0)) hp1]; exact p⟩
 have hhd : ((d.settle (1 + e) (rowS c q.length r)).crash picks).rd.getD 0 [] = d.rd.getD 0 [] := by
  obtain ⟨k1, k2⟩ := h2 0 (by omega)
  refine halves_eq ?_ ?_
  · rcases k1 with p | ⟨y, p1, _⟩
    · exact p
    · omega
  · rcases k2 with p | ⟨y, p1, _⟩
    · exact p
    · omega
 exact (h.mixed nw hm h5 ht room (crash_gone_all (settle_out h.vs hfit bad) picks) h1 hall hhd hmix).imp id (·.1)
end
end Go.Proofs.YtcnlgbjkjlbmbaaGreat

namespace Go.Proofs.YtcnlgbjkjlbmbaaGreat
open Go.RowKit Go.Maps

set_option maxRecDepth 100000 in
theorem blk_kind {w : World} {g : Nat} {t t' : TypeId} {cs cs' : Array Value} (h : Blk w g t cs) (h' : Blk w g t' cs') : t = t' := by
 unfold Blk at h h'
 rw [h] at h'
 injection h' with h'
 injection h'
set_option maxRecDepth 100000 in
theorem DAt.tight {w : World} {B g : Nat} {P : Nat → Prop} {d : DS} (h : DAt w B P g d) : ∃ P', DAt w B P' g d ∧ (∀ b, P' b → P b) ∧ ∀ b t cs, P' b → Blk w b t cs → t = 74 ∨ t = 83 := by
 obtain ⟨⟨R, M, D, val, k1⟩, k2⟩ := h
 refine ⟨fun b => b = g ∨ b = R ∨ b = M ∨ ∃ i, i < d.rd.length ∧ d.vs i ≠ [] ∧ (val i).ownBlock = some b, ⟨⟨R, M, D, val, ?_⟩, fun b hb => ?_⟩, fun b hb => ?_, fun b t cs hb hB => ?_⟩
 · exact { k1 with
    fg := .inl rfl
    fR := .inr (.inl rfl)
    fM := .inr (.inr (.inl rfl))
    own := fun i b hi hv hb => ⟨.inr (.inr (.inr ⟨i, hi, hv, hb⟩)), (k1.own i b hi hv hb).2⟩ }
 · rcases hb with rfl | rfl | rfl | ⟨i, hi, hv, hb⟩
   · exact k2 _ k1.fg
   · exact k2 _ k1.fR
   · exact k2 _ k1.fM
   · exact k2 _ (k1.own i b hi hv hb).1
 · rcases hb with rfl | rfl | rfl | ⟨i, hi, hv, hb⟩
   · exact k1.fg
   · exact k1.fR
   · exact k1.fM
   · exact (k1.own i b hi hv hb).1
 · rcases hb with rfl | rfl | rfl | ⟨i, hi, hv, hb⟩
   · exact .inl (blk_kind hB k1.blk)
   · exact .inr (blk_kind hB k1.red)
   · exfalso
     obtain ⟨es, clock, hb, _⟩ := k1.map
     unfold Blk at hB
     rw [hb] at hB
     cases hB
   · right
     rcases (k1.row i hi hv).2 with ⟨q, _⟩ | ⟨b', cap, cur, q, _, hbb, _⟩
     · rw [q] at hb
       simp [Value.ownBlock] at hb
     · rw [q] at hb
       have hb2 : b' = b := by simpa [Value.ownBlock] using hb
       subst hb2
       exact blk_kind hB hbb
end Go.Proofs.YtcnlgbjkjlbmbaaGreat

namespace Go.Proofs.YtcnlgbjkjlbmbaaGreat
open Go.ChangeShapes Go.WideShapes Go.ChangeAt Go.RowKit

set_option maxRecDepth 100000 in
theorem acrash_p1 {w : World} {B g : Nat} {P : Nat → Prop} {d : DS} (h : DAt w B P g d) {vp : Value} {picks : List Int} (hp : IntsAt w vp picks) (hpF : ∀ b, vp.ownBlock = some b → 0 < picks.length → ¬ P b) (hN : d.most 1000000) :
 Calls Tryz.prog 13 #[.pointer (some ⟨g, 0, none⟩), vp] w fun e w' => e = .returned (.int .i64 0) ∧ DAt w' B P g (d.crash picks) ∧ Fr P w w' := by
 obtain ⟨⟨R, M, D, val, k1⟩, k2⟩ := h
 refine (dcrash_pos k1 hp (fun b hb q => ⟨fun e => hpF b hb q (e ▸ k1.fR), fun e => hpF b hb q (e ▸ k1.fM)⟩) (fun i _ => hN i)).mono ?_
 rintro e w1 ⟨rfl, ⟨D', j1⟩, f1⟩
 exact ⟨rfl, DAt.of_same ⟨R, M, D', val, j1⟩ k2 f1.size, f1⟩
end Go.Proofs.YtcnlgbjkjlbmbaaGreat

namespace Go.Proofs.YtcnlgbjkjlbmbaaGreat
open Go.RowKit Go.Maps

set_option maxRecDepth 100000 in
theorem part64 (x : List UInt8) {i k : Nat} (h : i + k ≤ 64) : (x.drop i).take k = ((x.take 64).drop i).take k := by
 rw [List.drop_take, List.take_take, Nat.min_eq_left (by omega)]
set_option maxRecDepth 100000 in
theorem hdS_drop64 (c s : Nat) : (hdS c s).drop 64 = nought 64 := by
 have e1 : hdS c s = hd20 c s ++ nought 108 := rfl
 rw [e1, show (64 : Nat) = 20 + 44 by rfl, ← List.drop_drop, List.drop_left' (hd20_len _ _)]
 decide +kernel
set_option maxRecDepth 100000 in
theorem HeadIs.facts {d : DS} {c s : Nat} (h : HeadIs d c s) : isHd d.head = true ∧ cntOf d.head = c ∧ sinOf d.head = s := by
 obtain ⟨h1, h2, h3, h4⟩ := h
 have hn := hdS_nums (c := c) (s := s) h4 (Nat.le_trans h3 h4)
 have hc : cntOf d.head = c := by
  rw [← hn.1]
  unfold cntOf
  rw [part64 d.head (by omega), part64 (hdS c s) (by omega), h1]
 have hs : sinOf d.head = s := by
  rw [← hn.2]
  unfold sinOf
  rw [part64 d.head (by omega), part64 (hdS c s) (by omega), h1]
 refine ⟨?_, hc, hs⟩
 have ht : tornOf d.head (nought 128) = hdS c s := by
  have hd : (nought 128).drop 64 = nought 64 := by decide +kernel
  unfold tornOf
  rw [hd, h1, ← hdS_drop64 c s, List.take_append_drop]
 unfold isHd
 rw [hc, hs, ht]
 simp
 exact ⟨h2, h3, h4⟩
def DT (w : World) (B g : Nat) (d : DS) (P : Nat → Prop) : Prop := DAt w B P g d ∧ ∀ b t cs, P b → Blk w b t cs → t = 74 ∨ t = 83
set_option maxRecDepth 100000 in
theorem DT.of {w : World} {B g S : Nat} {P0 P : Nat → Prop} {d : DS} (h : DAt w B P g d) (hs : ∀ b, P b → P0 b ∨ S ≤ b) : ∃ P', DT w B g d P' ∧ ∀ b, P' b → P0 b ∨ S ≤ b := by
 obtain ⟨P', h1, h2, h3⟩ := h.tight
 exact ⟨P', ⟨h1, h3⟩, fun b hb => hs b (h2 b hb)⟩
set_option maxRecDepth 100000 in
theorem DT.not_log {w : World} {B g lb z c s us m : Nat} {dd : Bool} {P : Nat → Prop} {d : DS} (h : DT w B g d P) (hl : LgW w lb g z c s us m dd) : ¬ P lb := fun q => by
 rcases h.2 lb _ _ q hl with e | e
 · exact absurd e (by decide)
 · exact absurd e (by decide)
set_option maxRecDepth 100000 in
theorem DT.not_chg {w : World} {B g b : Nat} {cs : Array Value} {P : Nat → Prop} {d : DS} (h : DT w B g d P) (hl : Blk w b 101 cs) : ¬ P b := fun q => by
 rcases h.2 b _ _ q hl with e | e
 · exact absurd e (by decide)
 · exact absurd e (by decide)
section
variable {w : World} {B g z c s e : Nat} {P : Nat → Prop} {d : DS} {q : List (Nat × List Chg)}
set_option maxRecDepth 100000 in
theorem ropen_any (h : DT w B g d P) (hr : RI d z c s q e) (h4 : 4 ≤ z) (hz : z ≤ 4000) (hc : c < maxC) : Calls Tryz.prog 44 #[.pointer (some ⟨g, 0, none⟩), .int .i64 z] w fun en w' =>
 (d.settles 0 [hdS (c + 1) s] = false → en = .returned (.tuple #[.pointer none, .slice none 0 0, .int .i64 10])) ∧
 (d.settles 0 [hdS (c + 1) s] = true → ∃ lb v, en = .returned (.tuple #[.pointer (some ⟨lb, 0, none⟩), v, .int .i64 0]) ∧ w.heap.size ≤ lb ∧ LgW w' lb g z (c + 1) s e q.length false ∧ RcsV w' w.heap.size v (q.map (·.2))) ∧
 (∃ P', DT w' B g (d.settle 0 [hdS (c + 1) s]) P' ∧ ∀ b, P' b → P b ∨ w.heap.size ≤ b) ∧ Fr P w w' := by
 obtain ⟨k1, k2, k3⟩ := hr.hd.facts
 have ho := open_go h.1 h4 hz hr.len k1 (by rw [k2]; exact hc) (fun j => by rw [hr.vs j]; exact Nat.zero_le _)
 rw [k2, k3] at ho
 have hs := hr.says
 have hq := hr.len_q
 have hbd : (d.rd.take (z + 1)).drop 1 = bodyOf d z := rfl
 rw [hbd] at ho
 refine ho.mono ?_
 rintro en w' ⟨o1, o2, ⟨P', hp1, hp2, _⟩, f⟩
 refine ⟨o1, fun ok => ?_, DT.of hp1 hp2, f⟩
 obtain ⟨lb, v, rfl, hlb, hlg, hv⟩ := o2 ok
 rw [hs.2.1, hq] at hlg
 rw [hs.1] at hv
 exact ⟨lb, v, rfl, hlb, hlg, hv⟩
set_option maxRecDepth 100000 in
theorem rtrunc_any {lb : Nat} (h : DT w B g d P) (hr : RI d z c s q e) (hl : LgW w lb g z c s e q.length false) (hc : c < maxC) : Calls Tryz.prog 77 #[.pointer (some ⟨lb, 0, none⟩)] w fun en w' =>
 en = .returned (.int .i64 (if d.settles 0 [hdS (c + 1) (c + 1)] then 0 else 10)) ∧ (if d.settles 0 [hdS (c + 1) (c + 1)] then LgW w' lb g z (c + 1) (c + 1) 0 0 false else LgW w' lb g z c s e q.length true) ∧
 (∃ P', DT w' B g (d.settle 0 [hdS (c + 1) (c + 1)]) P' ∧ ∀ b, P' b → P b ∨ w.heap.size ≤ b) ∧ Fr (fun b => P b ∨ b = lb) w w' := by
 refine (ltrunc_any hl (h.not_log hl) h.1 hc (Nat.le_trans hr.hd.2.2.1 hr.hd.2.2.2) (fun j => by rw [hr.vs j]; exact Nat.zero_le _)).mono ?_
 rintro en w' ⟨o1, o2, ⟨P', hp1, hp2⟩, f⟩
 exact ⟨o1, o2, DT.of hp1 hp2, f⟩
set_option maxRecDepth 100000 in
theorem rcommit_any {lb : Nat} {v : Value} {r : List Chg} (h : DT w B g d P) (hr : RI d z c s q e) (hl : LgW w lb g z c s e q.length false) (hv : RcV w v r) (hvP : ∀ b, v.ownBlock = some b → ∃ cs, Blk w b 101 cs) (hm : mayR r = true) (ht : mayT c (q.length : Int) = true) (hz : z ≤ 4000) :
 Calls Tryz.prog 83 #[.pointer (some ⟨lb, 0, none⟩), v] w fun en w' =>
  (z < e + needN ((bytesR r).length : Nat) → en = .returned (.int .i64 8) ∧ Fr (fun _ => False) w w') ∧
  (e + needN ((bytesR r).length : Nat) ≤ z → en = .returned (.int .i64 (if d.settles (1 + e) (rowS c q.length r) then 0 else 10)) ∧ (if d.settles (1 + e) (rowS c q.length r) then LgW w' lb g z c s (e + needN ((bytesR r).length : Nat)) (q.length + 1) false else LgW w' lb g z c s e q.length true) ∧
    (∃ P', DT w' B g (d.settle (1 + e) (rowS c q.length r)) P' ∧ ∀ b, P' b → P b ∨ w.heap.size ≤ b) ∧ Fr (fun b => P b ∨ b = lb) w w') := by
 refine (lcommit_any hl (h.not_log hl) h.1 hv (fun b hb => by obtain ⟨cs, j⟩ := hvP b hb; exact h.not_chg j) hm ht hz hr.says.2.2 hr.len (fun j => by rw [hr.vs j]; exact Nat.zero_le _)).mono ?_
 rintro en w' ⟨o1, o2⟩
 rw [rowS_len] at o1 o2
 refine ⟨o1, fun hfit => ?_⟩
 obtain ⟨k1, k2, ⟨P', hp1, hp2⟩, f⟩ := o2 hfit
 exact ⟨k1, k2, DT.of hp1 hp2, f⟩
end
end Go.Proofs.YtcnlgbjkjlbmbaaGreat

namespace Go.Proofs.YtcnlgbjkjlbmbaaGreat
open Go.RowKit

set_option maxRecDepth 100000 in
theorem RcsV.stay {F : Nat → Prop} {w w' : World} {base : Nat} {v : Value} {rs : List (List Chg)} (h : RcsV w base v rs) (f : Fr F w w') (hF : ∀ b, base ≤ b → ¬ F b) : RcsV w' base v rs := by
 obtain ⟨vs, h1, h2, h3⟩ := h
 refine ⟨vs, own_keep h1 f (fun k hk => hF k (own_low h1 hk)), h2, fun i u r hu hr => ?_⟩
 obtain ⟨q1, q2⟩ := h3 i u r hu hr
 refine ⟨q1.keep f (fun b hb => hF b (q2 b hb).1), fun b hb => ?_⟩
 obtain ⟨j1, cs, j2⟩ := q2 b hb
 exact ⟨j1, cs, j2.keep f (hF b j1)⟩
set_option maxRecDepth 100000 in
theorem RcsV.form {w : World} {base : Nat} {v : Value} {rs : List (List Chg)} (h : RcsV w base v rs) : ∃ A c, v = .slice A rs.length c ∧ rs.length ≤ c := by
 obtain ⟨vs, h1, h2, _⟩ := h
 obtain ⟨A, c, e, q1, _⟩ := own_slice h1
 exact ⟨A, c, by rw [e, h2], by omega⟩
end Go.Proofs.YtcnlgbjkjlbmbaaGreat

namespace Go.Proofs.YtcnlgbjkjlbmbaaGreat

section
variable {d : DS} {z c s e K : Nat} {q : List (Nat × List Chg)} {r : List Chg}
structure LifeS (d : DS) (z c s : Nat) (q : List (Nat × List Chg)) (e K : Nat) : Prop where
 ri : RI d z c s q e
 nw : NW d z c e q.length
 cK : c ≤ K
set_option maxRecDepth 100000 in
theorem LifeS.opens (h : RI d z c s q e) (hc : c < maxC) (hK : c + 1 ≤ K) (ok : d.settles 0 [hdS (c + 1) s] = true) : LifeS (d.settle 0 [hdS (c + 1) s]) z (c + 1) s q e K := ⟨(h.opens hc ok).1, (h.opens hc ok).2 _ _, hK⟩
set_option maxRecDepth 100000 in
theorem LifeS.commit (h : LifeS d z c s q e K) (hm : mayR r = true) (h5 : ∀ x ∈ r, x.p.length = 512) (ht : mayT c (q.length : Int) = true) (room : e + needN ((bytesR r).length : Nat) ≤ z) (ok : d.settles (1 + e) (rowS c q.length r) = true) :
 LifeS (d.settle (1 + e) (rowS c q.length r)) z c s (q ++ [(c, r)]) (e + needN ((bytesR r).length : Nat)) K :=
 ⟨(h.ri.commit h.nw hm h5 ht room ok).1, by rw [List.length_append]; exact (h.ri.commit h.nw hm h5 ht room ok).2, h.cK⟩
end
end Go.Proofs.YtcnlgbjkjlbmbaaGreat

namespace Go.Proofs.YtcnlgbjkjlbmbaaGreat
open Go.RowKit

set_option maxRecDepth 100000 in
theorem settle_dd {d : DS} {i : Nat} {ss : List (List UInt8)} (h : d.settles i ss = false) : (d.settle i ss).dd = true := by
 unfold DS.settles at h
 unfold DS.settle DS.flushed
 rw [h]
 unfold DS.alive at h
 show deadS _ _ _ = true
 simpa using h
set_option maxRecDepth 100000 in
theorem blk_type {w : World} {g : Nat} {t t' : TypeId} {cs cs' : Array Value} (h : Blk w g t cs) (h' : Blk w g t' cs') : t = t' := by
 unfold Blk at h h'
 rw [h] at h'
 injection h' with h'
 injection h'
set_option maxRecDepth 100000 in
theorem own_blk {w : World} {base n size b : Nat} {e : TypeId} {v : Value} {xs : List Value} (h : w.ownsRow base e size v n xs) (hb : v.ownBlock = some b) : ∃ cs, Blk w b e cs := by
 rcases h.2 with ⟨q, _⟩ | ⟨g, cp, cs, q, _, hg, _⟩
 · rw [q] at hb
   cases hb
 · rw [q] at hb
   have h3 : g = b := by simpa [Value.ownBlock] using hb
   subst h3
   exact ⟨cs, hg⟩
set_option maxRecDepth 100000 in
theorem lay_manyN : ∀ (ss : List (List UInt8)) (d : DS) (i N : Nat), d.most N → 1 ≤ N → (d.lay i ss).most (N + ss.length)
 | [], _, _, _, h, _ => h
 | s :: ss, d, i, N, h, h1 => by
   have := lay_manyN ss (d.write i s) (i + 1) (N + 1) (write_most h h1) (by omega)
   rw [List.length_cons]
   rw [show N + (ss.length + 1) = N + 1 + ss.length by omega]
   exact this
set_option maxRecDepth 100000 in
theorem settle_manyN {d : DS} (h : ∀ j, d.vs j = []) (i : Nat) {ss : List (List UInt8)} (hl : ss.length ≤ 10000) : (d.settle i ss).most 1000000 := by
 have h1 := lay_manyN ss d i 1 (fun j => by rw [h j]; exact Nat.zero_le _) (Nat.le_refl _)
 intro j
 unfold DS.settle DS.flushed
 split
 · simp [DS.flush]
 · have := h1 j
   show ((d.lay i ss).vs j).length ≤ _
   omega
set_option maxRecDepth 100000 in
theorem DT.low {w : World} {B g : Nat} {P : Nat → Prop} {d : DS} (h : DT w B g d P) {F : Nat → Prop} {w' : World} (f : Fr P w w') : Fr (fun b => B ≤ b) w w' := f.mono (fun b _ q => (h.1.2 b q).1)
set_option maxRecDepth 100000 in
theorem DT.new {w : World} {B g : Nat} {P : Nat → Prop} {d : DS} (h : DT w B g d P) {w' : World} (f : Fr (fun _ => False) w w') : ∃ P', DT w' B g d P' := by
 obtain ⟨P', h1, _⟩ := DT.of (S := 0) (P0 := P) (h.1.new f) (fun b q => .inl q)
 exact ⟨P', h1⟩
set_option maxRecDepth 100000 in
theorem RcsV.new {w w' : World} {base : Nat} {v : Value} {rs : List (List Chg)} (h : RcsV w base v rs) (f : Fr (fun _ => False) w w') : RcsV w' base v rs := h.stay f (fun _ _ q => q)
end Go.Proofs.YtcnlgbjkjlbmbaaGreat

namespace Go.Proofs.YtcnlgbjkjlbmbaaGreat
open Go.RowKit

set_option maxRecDepth 100000 in
theorem laid_many {body : List (List UInt8)} {c s : Nat} : ∀ {q : List (Nat × List Chg)} {a n e : Nat}, LaidAt body c s a n q e → a + q.length ≤ e
 | [], _, _, _, h => Nat.le_of_eq (Eq.symm h)
 | x :: xs, a, n, e, ⟨h1, h2, _, _, _, _, _, h8⟩ => by
   have h9 := laid_many h8
   have hb := bytes_short h1 h2
   have hn : 1 ≤ needN ((bytesR x.2).length : Nat) := by
    rw [need_many hb]
    unfold many
    omega
   rw [List.length_cons]
   omega
set_option maxRecDepth 100000 in
theorem RI.few {d : DS} {z c s e : Nat} {q : List (Nat × List Chg)} (h : RI d z c s q e) : q.length ≤ z := by
 have h1 := laid_many h.laid
 have h2 := h.says.2.2
 omega
set_option maxRecDepth 100000 in
theorem format_vs {d : DS} (h : d.free) (z : Nat) : ∀ j, (d.format z).vs j = [] := by
 have hf : d.forget.free := by
  unfold DS.forget
  split
  · exact (settle_free h 0 _).2.1
  · exact h
 exact (settle_free (settle_free hf 1 _).2.1 0 _).2.2.2
set_option maxRecDepth 100000 in
theorem RI.new {N z : Nat} (hz : z + 1 ≤ N) : (newD N).formats z = true ∧ RI ((newD N).format z) z 1 1 [] 0 := by
 obtain ⟨k1, k2⟩ := (KD.new (N := N) (by omega)).format hz
 have hb : ∀ j, 1 ≤ j → j < N → ((newD N).format z).rd[j]? = some (nought 128) := fun j h1 h2 => by
  rw [k2.bd j h1 h2]
  split <;> rfl
 have hn : ∀ k, halfOf (nought 128) k = nought 64 := fun k => by
  rcases Nat.mod_two_eq_zero_or_one k with q | q
  · rw [half_even q]; decide +kernel
  · rw [half_odd (by decide +kernel) q]; decide +kernel
 have hl : ((newD N).format z).rd.length = N := k2.ln
 have hh : ∀ k, k < 2 * z → (hdOf (hv (bodyOf ((newD N).format z) z) k)).c = 0 := fun k hk => by
  rw [body_half hk (by omega), List.getD_eq_getElem?_getD, hb _ (by omega) (by omega)]
  show (hdOf (halfOf (nought 128) k)).c = 0
  rw [hn, hd_nought]
 refine ⟨k1, format_vs ⟨rfl, rfl⟩ z, by omega, fun x hx => ?_, ⟨by rw [k2.head], Nat.le_refl _, Nat.le_refl _, by decide⟩, rfl, clean_new (Nat.le_refl _) (fun k hk => ?_), fun k hk => ?_⟩
 · obtain ⟨j, hj, e⟩ := List.getElem_of_mem hx
   have e' : ((newD N).format z).rd[j]? = some x := by rw [← e]; exact List.getElem?_eq_getElem hj
   rcases Nat.eq_zero_or_pos j with rfl | h0
   · rw [k2.hd] at e'
     injection e' with e'
     rw [← e']
     exact hdS_len _ _
   · rw [hb j h0 (by omega)] at e'
     injection e' with e'
     rw [← e']
     decide +kernel
 · rw [body_len (by omega)] at hk
   rw [hh k hk]
   omega
 · rw [hh k hk]
   omega
set_option maxRecDepth 100000 in
theorem crash_free (d : DS) (p : List Int) : (d.crash p).free := ⟨rfl, rfl⟩
end Go.Proofs.YtcnlgbjkjlbmbaaGreat

namespace Go.Proofs.YtcnlgbjkjlbmbaaGreat
open Go.RowKit

end Go.Proofs.YtcnlgbjkjlbmbaaGreat


